/- Hashes, bytes and numbers that came in as arguments; the door's own heap. No condition. -/
import Derived.Test.YtdenibigefchpaaDoorGs
import Derived.Test.YtdenibigefchpaaDoorLaid
import Derived.ChangeOld
import Derived.ChangeMaps5
import Derived.Laws.IdiomArrays
import Derived.Below
namespace Go.Proofs.YtdenibigefchpaaDoor
open Go.ChangeShapes Go.WideShapes Go.ChangeAt Go.RowKit Go.ChangeMaps

theorem Tryd.laidOut : laidOutB Tryd.prog = true := by kernel_rfl
theorem Tryd.cellsHash : Tryd.prog.cellsOf 24 = 32 := by kernel_rfl
set_option maxRecDepth 100000 in
/-- The door's own heap meets the condition. -/
theorem door_met (os : Os) (args : Array Value) : laidMetH Tryd.prog laidL ((World.doorLaid Tryd.prog 19 os).forCall (fun _ _ => 0) ⟨#[], args, []⟩).memory :=
  laidMetH_of_parts3 (fuel := 8) (laidMet_of_run' 8 (by kernel_rfl) (by kernel_rfl)) (by kernel_rfl) (by kernel_rfl)
section
variable {H : Type} {enc : TypeId × Value → H} {W : World} {base : Nat} {v : Value} {d : DataW H} {p : List MemPlace}
theorem open_u8 (hv : Value.okWide Tryd.prog W .any base 5 v) (h : DataW.Trod enc Tryd.prog W 0 (fun _ => true) true 5 v d p) : ∃ x : Nat, x < 256 ∧ v = .int .u8 (x : Nat) := by
  obtain ⟨n, rfl, rfl, rfl, w⟩ := open_int Tryd.underlying5 hv h
  have b := bounds_u8 w
  exact ⟨n.toNat, by omega, by rw [Int.toNat_of_nonneg b.1]⟩
theorem open_i8 (hv : Value.okWide Tryd.prog W .any base 49 v) (h : DataW.Trod enc Tryd.prog W 0 (fun _ => true) true 49 v d p) : ∃ x : Int, (-128 ≤ x ∧ x < 128) ∧ v = .int .i8 x := by
  obtain ⟨n, rfl, rfl, rfl, w⟩ := open_int Tryd.underlying49 hv h
  have b := bounds_i8 w
  exact ⟨n, by omega, rfl⟩
theorem open_bytes (hv : Value.okWide Tryd.prog W .any base 38 v) (h : DataW.Trod enc Tryd.prog W 0 (fun _ => true) true 38 v d p) :
    ∃ (A : Option Addr) (n c : Nat) (L : List Nat), (n ≤ c ∧ c ≤ 9223372036854775807 ∧ Bs W A n L) ∧ v = .slice A n c := by
  obtain ⟨fuel, hf⟩ := h
  obtain ⟨A, n, c, rfl⟩ := okWide_slice Tryd.underlying38 hv
  rcases Deep.open_slice1 Tryd.underlying38 Tryd.cellsByte hf with ⟨e, _⟩ | ⟨a, len, cap, m, _, V, D, Pl, e, _, hlc, hcm, hm, _, hx⟩
  · simp [Value.cells] at e
    obtain ⟨rfl, rfl, rfl⟩ := e
    exact ⟨none, 0, 0, [], ⟨Nat.le_refl _, by omega, Bs.nil _ _⟩, rfl⟩
  · simp [Value.cells] at e
    obtain ⟨rfl, rfl, rfl⟩ := e
    have hm' : n ≤ m := by rw [hm]; split <;> omega
    have each : ∀ i, i < n → ∃ x : Nat, x < 256 ∧ W.cell? (a.add i) = some (.int .u8 (x : Nat)) := fun i hi => by
      obtain ⟨h1, h2⟩ := hx i (by omega)
      obtain ⟨q, e0, _, w0⟩ := DataW.trod_int Tryd.underlying5 h2
      simp at e0
      have b0 := bounds_u8 w0
      exact ⟨q.toNat, by omega, by rw [h1, e0, Int.toNat_of_nonneg b0.1]⟩
    obtain ⟨f, hf'⟩ := Deep.choose_lt (α := Nat) (p := fun i x => x < 256 ∧ W.cell? (a.add i) = some (.int .u8 (x : Nat))) each
    refine ⟨some a, n, c, (List.range n).map f, ⟨hlc, by unfold maxLen at hcm; omega, by simp, fun x hx => ?_, fun hn => ⟨a, rfl, ?_, fun k hk => ?_⟩⟩, rfl⟩
    · simp only [List.mem_map, List.mem_range] at hx
      obtain ⟨i, hi, rfl⟩ := hx
      exact (hf' i hi).1
    · have := World.block_lt_of_cell? _ _ (hf' 0 hn).2
      rwa [add_block] at this
    · rw [(hf' k hk).2]
      simp [nth, List.getD, hk]
section
variable {spare : Nat → Bool} {held : Bool} {fuel : Nat} {cs : List Value} {x : DataW H × List MemPlace}
theorem trod_hash (h : DataW.trod enc Tryd.prog W 0 spare held fuel 24 cs = some x) : ∃ L : List Nat, L.length = 32 ∧ AllB L ∧ cs = vals L := by
  obtain ⟨xs, m, _, _, hcl, hxl, hx⟩ := Go.DataW.trod_array Tryd.underlying24 h
  rw [Tryd.cellsHash] at hcl
  have each : ∀ i, i < 32 → ∃ n : Nat, n < 256 ∧ cs[i]? = some (.int .u8 (n : Nat)) := fun i hi => by
    have h1 := hx i hi
    rw [Tryd.cellsByte, Nat.mul_one, List.getElem?_eq_getElem (by omega)] at h1
    have hl : cs[i]? = some cs[i] := List.getElem?_eq_getElem (by omega)
    have hdt : (cs.drop i).take 1 = [cs[i]] := by
      rw [List.drop_eq_getElem_cons (by omega)]; rfl
    rw [hdt] at h1
    obtain ⟨n, e0, _, w0⟩ := DataW.trod_int Tryd.underlying5 h1
    have b0 := bounds_u8 w0
    refine ⟨n.toNat, by omega, ?_⟩
    rw [hl, Int.toNat_of_nonneg b0.1]
    simpa using e0
  obtain ⟨f, hf'⟩ := Deep.choose_lt (α := Nat) (p := fun i n => n < 256 ∧ cs[i]? = some (.int .u8 (n : Nat))) each
  refine ⟨(List.range 32).map f, by simp, fun x hx => ?_, ?_⟩
  · simp only [List.mem_map, List.mem_range] at hx
    obtain ⟨i, hi, rfl⟩ := hx
    exact (hf' i hi).1
  · refine List.ext_getElem? fun i => ?_
    by_cases hi : i < 32
    · rw [(hf' i hi).2, vals, List.map_map, List.getElem?_map, List.getElem?_range hi]; rfl
    · rw [List.getElem?_eq_none (by omega), List.getElem?_eq_none (by simp [vals]; omega)]
end
theorem open_hash (hv : Value.okWide Tryd.prog W .any base 24 v) (h : DataW.Trod enc Tryd.prog W 0 (fun _ => true) true 24 v d p) : ∃ g : List Nat, (g.length = 32 ∧ AllB g) ∧ v = .agg (vals g).toArray := by
  obtain ⟨cs, rfl, hsz, _⟩ : ∃ cs, v = .agg cs ∧ cs.size = Tryd.prog.cellsOf 24 ∧ Row.okWide Tryd.prog W .any base 24 cs := by
    simpa [Value.okWide, Tryd.underlying24] using hv
  obtain ⟨fuel, hf⟩ := h
  obtain ⟨g, h1, h2, e⟩ := trod_hash hf
  refine ⟨g, ⟨h1, h2⟩, ?_⟩
  simp only [Value.cells] at e
  rw [← e]
theorem open_i64 (hv : Value.okWide Tryd.prog W .any base 3 v) (h : DataW.Trod enc Tryd.prog W 0 (fun _ => true) true 3 v d p) : ∃ x : Int, (-9223372036854775808 ≤ x ∧ x ≤ 9223372036854775807) ∧ v = .int .i64 x := by
  obtain ⟨n, rfl, rfl, rfl, w⟩ := open_int Tryd.underlying3 hv h
  have b := bounds_i64 w
  exact ⟨n, by omega, rfl⟩
theorem range_gs {w : World} {b : Nat} : ∀ (l : List (List Nat)) (o : Nat), OkG l → (∀ i, i < l.length → w.rangeAt b (o + i * 32) (vals (nt l i))) → w.rangeAt b o (gsV l)
  | [], _, _, _ => fun j v hv => by simp [gsV] at hv
  | h :: t, o, k, hi => by
    intro j v hv
    rw [gsV] at hv
    by_cases hj : j < 32
    · rw [List.getElem?_append_left (by rw [vals_length, k.head.1]; exact hj)] at hv
      have := hi 0 (by simp) j v hv
      rwa [Nat.zero_mul, Nat.add_zero] at this
    · rw [List.getElem?_append_right (by rw [vals_length, k.head.1]; omega), vals_length, k.head.1] at hv
      have := range_gs t (o + 32) k.tail (fun i hlt => by
        have := hi (i + 1) (by simp; omega)
        rw [show o + (i + 1) * 32 = o + 32 + i * 32 by omega] at this
        exact this) (j - 32) v hv
      rwa [show o + 32 + (j - 32) = o + j by omega] at this
theorem open_gs (hv : Value.okWide Tryd.prog W .any base 22 v) (h : DataW.Trod enc Tryd.prog W 0 (fun _ => true) true 22 v d p) :
    ∃ (A : Option Addr) (n c : Nat) (l : List (List Nat)), (n ≤ c ∧ c ≤ 9223372036854775807 ∧ Gs W A n l) ∧ v = .slice A n c := by
  obtain ⟨fuel, hf⟩ := h
  obtain ⟨A, n, c, rfl⟩ := okWide_slice Tryd.underlying22 hv
  rcases Deep.open_slice Tryd.underlying22 hf with ⟨e, _⟩ | ⟨a, len, cap, m, fu, D, Pl, e, _, hlc, hcm, hm, _, hx⟩
  · simp [Value.cells] at e
    obtain ⟨rfl, rfl, rfl⟩ := e
    exact ⟨none, 0, 0, [], ⟨Nat.le_refl _, by omega, Gs.nil _ _⟩, rfl⟩
  · simp [Value.cells] at e
    obtain ⟨rfl, rfl, rfl⟩ := e
    have hm' : n ≤ m := by rw [hm]; split <;> omega
    have each : ∀ i, i < n → ∃ g : List Nat, (g.length = 32 ∧ AllB g) ∧ ∀ q u, (vals g)[q]? = some u → W.cell? ((a.add (i * 32)).add q) = some u := fun i hi => by
      obtain ⟨cs', h1, h2⟩ := hx i (by omega)
      rw [Tryd.cellsHash] at h1
      obtain ⟨_, hl, hc⟩ := World.cells?_some h1
      obtain ⟨g, hg1, hg2, e⟩ := trod_hash h2
      refine ⟨g, ⟨hg1, hg2⟩, fun q u hq => ?_⟩
      have hq2 := (List.getElem?_eq_some_iff.1 hq).1
      rw [hc q (by rw [← hl, e]; exact hq2), e]
      exact hq
    obtain ⟨f, hf'⟩ := Deep.choose_lt (α := List Nat) (p := fun i g => (g.length = 32 ∧ AllB g) ∧ ∀ q u, (vals g)[q]? = some u → W.cell? ((a.add (i * 32)).add q) = some u) each
    refine ⟨some a, n, c, (List.range n).map f, ⟨hlc, by unfold maxLen at hcm; omega, by simp, fun g hg => ?_, fun hn => ?_⟩, rfl⟩
    · simp only [List.mem_map, List.mem_range] at hg
      obtain ⟨i, hi, rfl⟩ := hg
      exact (hf' i hi).1
    · have c0 := (hf' 0 hn).2 0 _ (vals_get (f 0) 0 (by rw [(hf' 0 hn).1.1]; decide))
      have e0 : (a.add (0 * 32)).add 0 = a := rfl
      rw [e0] at c0
      obtain ⟨b, o, rfl⟩ : ∃ b o, a = ⟨b, o, none⟩ := by
        unfold World.cell? at c0
        split at c0
        · split at c0
          · cases c0
          · rename_i hs
            obtain ⟨b, o, s⟩ := a
            cases s with
            | none => exact ⟨b, o, rfl⟩
            | some x => simp at hs
        · cases c0
      refine ⟨b, o, rfl, World.block_lt_of_cell? _ _ c0, range_gs _ _ (fun g hg => ?_) (fun i hi => ?_)⟩
      · simp only [List.mem_map, List.mem_range] at hg
        obtain ⟨i, hi, rfl⟩ := hg
        exact (hf' i hi).1
      · have hi' : i < n := by simpa using hi
        have e : nt ((List.range n).map f) i = f i := by simp [nt, List.getD, hi']
        rw [e]
        intro q u hq
        have := (hf' i hi').2 q u hq
        rwa [add_at, add_at] at this
end
end Go.Proofs.YtdenibigefchpaaDoor
