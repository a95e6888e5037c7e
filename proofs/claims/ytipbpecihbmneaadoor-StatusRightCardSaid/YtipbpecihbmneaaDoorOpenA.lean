/- Entries and numbers that came in as arguments; the door's own heap. No condition. -/
import Derived.Test.YtipbpecihbmneaaDoorLaid
import Derived.Test.YtipbpecihbmneaaDoorMapH
import Derived.ChangeOld
import Derived.ChangeMaps5
import Derived.Laws.IdiomArrays
import Derived.Below
namespace Go.Proofs.YtipbpecihbmneaaDoor
open Go.ChangeShapes Go.WideShapes Go.ChangeAt Go.RowKit Go.ChangeMaps

theorem take_drop_app {α : Type} (L : List α) (i a b : Nat) : (L.drop i).take a ++ (L.drop (i + a)).take b = (L.drop i).take (a + b) := by
  rw [← List.drop_drop, List.take_add]
/-- What is got is put as it stood. -/
instance : Inhabited En := ⟨zeroE⟩
theorem Tryd.cellsHash : Tryd.prog.cellsOf 27 = 32 := by kernel_rfl
theorem Tryd.cellsEn : Tryd.prog.cellsOf 29 = 33 := by kernel_rfl
theorem Tryd.cellsInt : Tryd.prog.cellsOf 3 = 1 := by kernel_rfl
theorem fields_en : (Tryd.prog.fieldsOf 29).toList.map (fun f => (f.name, f.type, f.offset)) = [("Height", 3, 0), ("Tx", 27, 1)] := by kernel_rfl
set_option maxRecDepth 100000 in
/-- The door's own heap meets the condition. -/
theorem door_met (os : Os) (args : Array Value) : laidMetH Tryd.prog laidL ((World.doorLaid Tryd.prog 65 os).forCall (fun _ _ => 0) ⟨#[], args, []⟩).memory :=
  laidMetH_of_parts3 (fuel := 8) (laidMet_of_run' 8 (by kernel_rfl) (by kernel_rfl)) (by kernel_rfl) (by kernel_rfl)
section
variable {H : Type} {enc : TypeId × Value → H} {W : World} {base : Nat} {v : Value} {d : DataW H} {p : List MemPlace}
theorem open_u8 (hv : Value.okWide Tryd.prog W .any base 5 v) (h : DataW.Trod enc Tryd.prog W 0 (fun _ => true) true 5 v d p) : ∃ x : Nat, x < 256 ∧ v = .int .u8 (x : Nat) := by
  obtain ⟨n, rfl, rfl, rfl, w⟩ := open_int Tryd.underlying5 hv h
  have b := bounds_u8 w
  exact ⟨n.toNat, by omega, by rw [Int.toNat_of_nonneg b.1]⟩
section
variable {spare : Nat → Bool} {held : Bool} {fuel : Nat} {cs : List Value} {x : DataW H × List MemPlace}
theorem trod_hash (h : DataW.trod enc Tryd.prog W 0 spare held fuel 27 cs = some x) : ∃ L : List Nat, L.length = 32 ∧ AllB L ∧ cs = vals L := by
  obtain ⟨xs, m, _, _, hcl, hxl, hx⟩ := Go.DataW.trod_array Tryd.underlying27 h
  rw [Tryd.cellsHash] at hcl
  have each : ∀ i, i < 32 → ∃ n : Nat, n < 256 ∧ cs[i]? = some (.int .u8 (n : Nat)) := fun i hi => by
    have h1 := hx i hi
    rw [Tryd.cellsByte, Nat.mul_one, List.getElem?_eq_getElem (by omega)] at h1
    have hl : cs[i]? = some cs[i] := List.getElem?_eq_getElem (by omega)
    have hdt : (cs.drop i).take 1 = [cs[i]] := by
      rw [List.drop_eq_getElem_cons (by omega)]; rfl
    rw [hdt] at h1
    obtain ⟨n, e0, _, w0⟩ := DataW.trod_int Tryd.underlying5 h1
    have b0 := bounds_u8 w0
    refine ⟨n.toNat, by omega, ?_⟩
    rw [hl, Int.toNat_of_nonneg b0.1]
    simpa using e0
  obtain ⟨f, hf'⟩ := Deep.choose_lt (α := Nat) (p := fun i n => n < 256 ∧ cs[i]? = some (.int .u8 (n : Nat))) each
  refine ⟨(List.range 32).map f, by simp, fun x hx => ?_, ?_⟩
  · simp only [List.mem_map, List.mem_range] at hx
    obtain ⟨i, hi, rfl⟩ := hx
    exact (hf' i hi).1
  · refine List.ext_getElem? fun i => ?_
    by_cases hi : i < 32
    · rw [(hf' i hi).2, vals, List.map_map, List.getElem?_map, List.getElem?_range hi]; rfl
    · rw [List.getElem?_eq_none (by omega), List.getElem?_eq_none (by simp [vals]; omega)]
theorem trod_en (h : DataW.trod enc Tryd.prog W 0 spare held fuel 29 cs = some x) : ∃ g : En, g.Ok ∧ cs = enV g := by
  have hu : Tryd.prog.underlying 29 = some (.struct (Tryd.prog.fieldsOf 29)) := by kernel_rfl
  obtain ⟨xs, n, _, _, hcl, hxl, hf⟩ := DataW.trod_struct hu h
  rw [Tryd.cellsEn] at hcl
  have hfd := fields_en
  obtain ⟨fs, hfs⟩ : ∃ fs, Tryd.prog.fieldsOf 29 = fs := ⟨_, rfl⟩
  rw [hfs] at hf hfd hxl
  obtain ⟨l⟩ := fs
  match l, hfd, hf, hxl with
  | [f0, f1], hfd, hf, hxl =>
    simp only [List.map_cons, List.map_nil, List.cons.injEq, and_true, Prod.mk.injEq] at hfd
    obtain ⟨⟨_, a0, b0⟩, ⟨_, a1, b1⟩⟩ := hfd
    match xs, hxl with
    | [y0, y1], _ =>
      have g0 := hf 0 f0 rfl
      have g1 := hf 1 f1 rfl
      rw [a0, b0, Tryd.cellsInt] at g0
      rw [a1, b1, Tryd.cellsHash] at g1
      obtain ⟨q, e0, _, w0⟩ := DataW.trod_int Tryd.underlying3 (x := y0) g0
      obtain ⟨p, hp, hpb, e1⟩ := trod_hash (x := y1) g1
      have bq := bounds_i64 w0
      refine ⟨⟨q, p⟩, ⟨(by omega : -9223372036854775808 ≤ q ∧ q ≤ 9223372036854775807), hp, hpb⟩, ?_⟩
      have e : cs = (cs.drop 0).take 1 ++ (cs.drop 1).take 32 := by
        rw [take_drop_app cs 0 1 32]
        simp [List.take_of_length_le, hcl]
      rw [e, e0, e1]
      rfl
end
theorem range_es {w : World} {b : Nat} : ∀ (l : List En) (o : Nat), OkEs l → (∀ i, i < l.length → w.rangeAt b (o + i * 33) (enV (nthE l i))) → w.rangeAt b o (esV l)
  | [], _, _, _ => fun j v hv => by simp [esV] at hv
  | h :: t, o, k, hi => by
    intro j v hv
    rw [esV] at hv
    by_cases hj : j < 33
    · rw [List.getElem?_append_left (by rw [enV_len k.head]; exact hj)] at hv
      have := hi 0 (by simp) j v hv
      rwa [Nat.zero_mul, Nat.add_zero] at this
    · rw [List.getElem?_append_right (by rw [enV_len k.head]; omega), enV_len k.head] at hv
      have := range_es t (o + 33) k.tail (fun i hlt => by
        have := hi (i + 1) (by simp; omega)
        rw [show o + (i + 1) * 33 = o + 33 + i * 33 by omega] at this
        exact this) (j - 33) v hv
      rwa [show o + 33 + (j - 33) = o + j by omega] at this
theorem open_es (hv : Value.okWide Tryd.prog W .any base 22 v) (h : DataW.Trod enc Tryd.prog W 0 (fun _ => true) true 22 v d p) :
    ∃ (A : Option Addr) (n c : Nat) (l : List En), (n ≤ c ∧ c ≤ 9223372036854775807 ∧ Es W A n l) ∧ v = .slice A n c := by
  obtain ⟨fuel, hf⟩ := h
  obtain ⟨A, n, c, rfl⟩ := okWide_slice Tryd.underlying22 hv
  rcases Deep.open_slice Tryd.underlying22 hf with ⟨e, _⟩ | ⟨a, len, cap, m, fu, D, Pl, e, _, hlc, hcm, hm, _, hx⟩
  · simp [Value.cells] at e
    obtain ⟨rfl, rfl, rfl⟩ := e
    exact ⟨none, 0, 0, [], ⟨Nat.le_refl _, by omega, Es.nil _ _⟩, rfl⟩
  · simp [Value.cells] at e
    obtain ⟨rfl, rfl, rfl⟩ := e
    have hm' : n ≤ m := by rw [hm]; split <;> omega
    have each : ∀ i, i < n → ∃ g : En, g.Ok ∧ ∀ q u, (enV g)[q]? = some u → W.cell? ((a.add (i * 33)).add q) = some u := fun i hi => by
      obtain ⟨cs', h1, h2⟩ := hx i (by omega)
      rw [Tryd.cellsEn] at h1
      obtain ⟨_, hl, hc⟩ := World.cells?_some h1
      obtain ⟨g, hg, e⟩ := trod_en h2
      refine ⟨g, hg, fun q u hq => ?_⟩
      have hq2 := (List.getElem?_eq_some_iff.1 hq).1
      rw [hc q (by rw [← hl, e]; exact hq2), e]
      exact hq
    obtain ⟨f, hf'⟩ := Deep.choose_lt (α := En) (p := fun i g => g.Ok ∧ ∀ q u, (enV g)[q]? = some u → W.cell? ((a.add (i * 33)).add q) = some u) each
    refine ⟨some a, n, c, (List.range n).map f, ⟨hlc, by unfold maxLen at hcm; omega, by simp, fun g hg => ?_, fun hn => ?_⟩, rfl⟩
    · simp only [List.mem_map, List.mem_range] at hg
      obtain ⟨i, hi, rfl⟩ := hg
      exact (hf' i hi).1
    · have c0 := (hf' 0 hn).2 0 (.int .i64 (f 0).h) rfl
      have e0 : (a.add (0 * 33)).add 0 = a := rfl
      rw [e0] at c0
      obtain ⟨b, o, rfl⟩ : ∃ b o, a = ⟨b, o, none⟩ := by
        unfold World.cell? at c0
        split at c0
        · split at c0
          · cases c0
          · rename_i hs
            obtain ⟨b, o, s⟩ := a
            cases s with
            | none => exact ⟨b, o, rfl⟩
            | some x => simp at hs
        · cases c0
      refine ⟨b, o, rfl, World.block_lt_of_cell? _ _ c0, range_es _ _ (fun g hg => ?_) (fun i hi => ?_)⟩
      · simp only [List.mem_map, List.mem_range] at hg
        obtain ⟨i, hi, rfl⟩ := hg
        exact (hf' i hi).1
      · have hi' : i < n := by simpa using hi
        have e : nthE ((List.range n).map f) i = f i := by simp [nthE, List.getD, hi']
        rw [e]
        intro q u hq
        have := (hf' i hi').2 q u hq
        rwa [add_at, add_at] at this
end
end Go.Proofs.YtipbpecihbmneaaDoor
