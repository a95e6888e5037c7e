/- Headers, bytes and numbers that came in as arguments; the door's own heap. No condition. -/
import Derived.Test.YtkocbkckfkbmhaaDoorHs
import Derived.Test.YtkocbkckfkbmhaaDoorLaid
import Derived.ChangeOld
import Derived.ChangeMaps5
import Derived.Laws.IdiomArrays
import Derived.Test.YtkocbkckfkbmhaaDoorSameH
import Derived.Below
namespace Go.Proofs.YtkocbkckfkbmhaaDoor
open Go.ChangeShapes Go.WideShapes Go.ChangeAt Go.RowKit Go.ChangeMaps

instance : Inhabited Hd := ⟨zeroH⟩
theorem Tryd.laidOut : laidOutB Tryd.prog = true := by kernel_rfl
theorem Tryd.cellsHash : Tryd.prog.cellsOf 24 = 32 := by kernel_rfl
theorem Tryd.cellsHd : Tryd.prog.cellsOf 26 = 68 := by kernel_rfl
set_option maxRecDepth 100000 in
/-- The door's own heap meets the condition. -/
theorem door_met (os : Os) (args : Array Value) : laidMetH Tryd.prog laidL ((World.doorLaid Tryd.prog 19 os).forCall (fun _ _ => 0) ⟨#[], args, []⟩).memory :=
  laidMetH_of_parts3 (fuel := 8) (laidMet_of_run' 8 (by kernel_rfl) (by kernel_rfl)) (by kernel_rfl) (by kernel_rfl)
section
variable {H : Type} {enc : TypeId × Value → H} {W : World} {base : Nat} {v : Value} {d : DataW H} {p : List MemPlace}
theorem open_u8 (hv : Value.okWide Tryd.prog W .any base 5 v) (h : DataW.Trod enc Tryd.prog W 0 (fun _ => true) true 5 v d p) : ∃ x : Nat, x < 256 ∧ v = .int .u8 (x : Nat) := by
  obtain ⟨n, rfl, rfl, rfl, w⟩ := open_int Tryd.underlying5 hv h
  have b := bounds_u8 w
  exact ⟨n.toNat, by omega, by rw [Int.toNat_of_nonneg b.1]⟩
theorem open_i8 (hv : Value.okWide Tryd.prog W .any base 51 v) (h : DataW.Trod enc Tryd.prog W 0 (fun _ => true) true 51 v d p) : ∃ x : Int, (-128 ≤ x ∧ x < 128) ∧ v = .int .i8 x := by
  obtain ⟨n, rfl, rfl, rfl, w⟩ := open_int Tryd.underlying51 hv h
  have b := bounds_i8 w
  exact ⟨n, by omega, rfl⟩
theorem open_bytes (hv : Value.okWide Tryd.prog W .any base 27 v) (h : DataW.Trod enc Tryd.prog W 0 (fun _ => true) true 27 v d p) :
    ∃ (A : Option Addr) (n c : Nat) (L : List Nat), (n ≤ c ∧ c ≤ 9223372036854775807 ∧ Bs W A n L) ∧ v = .slice A n c := by
  obtain ⟨fuel, hf⟩ := h
  obtain ⟨A, n, c, rfl⟩ := okWide_slice Tryd.underlying27 hv
  rcases Deep.open_slice1 Tryd.underlying27 Tryd.cellsByte hf with ⟨e, _⟩ | ⟨a, len, cap, m, _, V, D, Pl, e, _, hlc, hcm, hm, _, hx⟩
  · simp [Value.cells] at e
    obtain ⟨rfl, rfl, rfl⟩ := e
    exact ⟨none, 0, 0, [], ⟨Nat.le_refl _, by omega, Bs.nil _ _⟩, rfl⟩
  · simp [Value.cells] at e
    obtain ⟨rfl, rfl, rfl⟩ := e
    have hm' : n ≤ m := by rw [hm]; split <;> omega
    have each : ∀ i, i < n → ∃ x : Nat, x < 256 ∧ W.cell? (a.add i) = some (.int .u8 (x : Nat)) := fun i hi => by
      obtain ⟨h1, h2⟩ := hx i (by omega)
      obtain ⟨q, e0, _, w0⟩ := DataW.trod_int Tryd.underlying5 h2
      simp at e0
      have b0 := bounds_u8 w0
      exact ⟨q.toNat, by omega, by rw [h1, e0, Int.toNat_of_nonneg b0.1]⟩
    obtain ⟨f, hf'⟩ := Deep.choose_lt (α := Nat) (p := fun i x => x < 256 ∧ W.cell? (a.add i) = some (.int .u8 (x : Nat))) each
    refine ⟨some a, n, c, (List.range n).map f, ⟨hlc, by unfold maxLen at hcm; omega, by simp, fun x hx => ?_, fun hn => ⟨a, rfl, ?_, fun k hk => ?_⟩⟩, rfl⟩
    · simp only [List.mem_map, List.mem_range] at hx
      obtain ⟨i, hi, rfl⟩ := hx
      exact (hf' i hi).1
    · have := World.block_lt_of_cell? _ _ (hf' 0 hn).2
      rwa [add_block] at this
    · rw [(hf' k hk).2]
      simp [nth, List.getD, hk]
section
variable {spare : Nat → Bool} {held : Bool} {fuel : Nat} {cs : List Value} {x : DataW H × List MemPlace}
theorem trod_u32 (h : DataW.trod enc Tryd.prog W 0 spare held fuel 22 cs = some x) : ∃ n : Nat, n < 4294967296 ∧ cs = [u32v n] := by
  obtain ⟨q, e0, _, w0⟩ := DataW.trod_int Tryd.underlying22 h
  have b0 := bounds_u32 w0
  exact ⟨q.toNat, by omega, by rw [e0]; unfold u32v; rw [Int.toNat_of_nonneg b0.1]⟩
theorem trod_hash (h : DataW.trod enc Tryd.prog W 0 spare held fuel 24 cs = some x) : ∃ L : List Nat, L.length = 32 ∧ AllB L ∧ cs = vals L := by
  obtain ⟨xs, m, _, _, hcl, hxl, hx⟩ := Go.DataW.trod_array Tryd.underlying24 h
  rw [Tryd.cellsHash] at hcl
  have each : ∀ i, i < 32 → ∃ n : Nat, n < 256 ∧ cs[i]? = some (.int .u8 (n : Nat)) := fun i hi => by
    have h1 := hx i hi
    rw [Tryd.cellsByte, Nat.mul_one, List.getElem?_eq_getElem (by omega)] at h1
    have hl : cs[i]? = some cs[i] := List.getElem?_eq_getElem (by omega)
    have hdt : (cs.drop i).take 1 = [cs[i]] := by
      rw [List.drop_eq_getElem_cons (by omega)]; rfl
    rw [hdt] at h1
    obtain ⟨n, e0, _, w0⟩ := DataW.trod_int Tryd.underlying5 h1
    have b0 := bounds_u8 w0
    refine ⟨n.toNat, by omega, ?_⟩
    rw [hl, Int.toNat_of_nonneg b0.1]
    simpa using e0
  obtain ⟨f, hf'⟩ := Deep.choose_lt (α := Nat) (p := fun i n => n < 256 ∧ cs[i]? = some (.int .u8 (n : Nat))) each
  refine ⟨(List.range 32).map f, by simp, fun x hx => ?_, ?_⟩
  · simp only [List.mem_map, List.mem_range] at hx
    obtain ⟨i, hi, rfl⟩ := hx
    exact (hf' i hi).1
  · refine List.ext_getElem? fun i => ?_
    by_cases hi : i < 32
    · rw [(hf' i hi).2, vals, List.map_map, List.getElem?_map, List.getElem?_range hi]; rfl
    · rw [List.getElem?_eq_none (by omega), List.getElem?_eq_none (by simp [vals]; omega)]
theorem trod_hd (h : DataW.trod enc Tryd.prog W 0 spare held fuel 26 cs = some x) : ∃ g : Hd, g.Ok ∧ cs = hdV g := by
  have hu : Tryd.prog.underlying 26 = some (.struct (Tryd.prog.fieldsOf 26)) := by kernel_rfl
  obtain ⟨xs, n, _, _, hcl, hxl, hf⟩ := DataW.trod_struct hu h
  rw [Tryd.cellsHd] at hcl
  have hfd := fields_hd
  obtain ⟨fs, hfs⟩ : ∃ fs, Tryd.prog.fieldsOf 26 = fs := ⟨_, rfl⟩
  rw [hfs] at hf hfd hxl
  obtain ⟨l⟩ := fs
  match l, hfd, hf, hxl with
  | [f0, f1, f2, f3, f4, f5], hfd, hf, hxl =>
    simp only [List.map_cons, List.map_nil, List.cons.injEq, and_true, Prod.mk.injEq] at hfd
    obtain ⟨⟨_, a0, b0⟩, ⟨_, a1, b1⟩, ⟨_, a2, b2⟩, ⟨_, a3, b3⟩, ⟨_, a4, b4⟩, ⟨_, a5, b5⟩⟩ := hfd
    match xs, hxl with
    | [y0, y1, y2, y3, y4, y5], _ =>
      have g0 := hf 0 f0 rfl
      have g1 := hf 1 f1 rfl
      have g2 := hf 2 f2 rfl
      have g3 := hf 3 f3 rfl
      have g4 := hf 4 f4 rfl
      have g5 := hf 5 f5 rfl
      rw [a0, b0, Tryd.cells33] at g0
      rw [a1, b1, Tryd.cellsHash] at g1
      rw [a2, b2, Tryd.cellsHash] at g2
      rw [a3, b3, Tryd.cells33] at g3
      rw [a4, b4, Tryd.cells33] at g4
      rw [a5, b5, Tryd.cells33] at g5
      obtain ⟨v, hv, e0⟩ := trod_u32 (x := y0) g0
      obtain ⟨p, hp, hpb, e1⟩ := trod_hash (x := y1) g1
      obtain ⟨r, hr, hrb, e2⟩ := trod_hash (x := y2) g2
      obtain ⟨t, ht, e3⟩ := trod_u32 (x := y3) g3
      obtain ⟨b, hb, e4⟩ := trod_u32 (x := y4) g4
      obtain ⟨m, hm, e5⟩ := trod_u32 (x := y5) g5
      refine ⟨⟨v, p, r, t, b, m⟩, ⟨hv, hp, hr, ht, hb, hm, hpb, hrb⟩, ?_⟩
      have e : cs = (cs.drop 0).take 1 ++ ((cs.drop 1).take 32 ++ ((cs.drop 33).take 32 ++ ((cs.drop 65).take 1 ++ ((cs.drop 66).take 1 ++ (cs.drop 67).take 1)))) := by
        rw [take_drop_app cs 66 1 1, take_drop_app cs 65 1 2, take_drop_app cs 33 32 3, take_drop_app cs 1 32 35, take_drop_app cs 0 1 67]
        simp [List.take_of_length_le, hcl]
      rw [e, e0, e1, e2, e3, e4, e5]
      rfl
end
theorem open_hd (hv : Value.okWide Tryd.prog W .any base 26 v) (h : DataW.Trod enc Tryd.prog W 0 (fun _ => true) true 26 v d p) : ∃ g : Hd, g.Ok ∧ v = .agg (hdV g).toArray := by
  obtain ⟨cs, rfl, _⟩ := okWide_struct (fs := Tryd.prog.fieldsOf 26) (by kernel_rfl) hv
  obtain ⟨fuel, hf⟩ := h
  obtain ⟨g, hg, e⟩ := trod_hd hf
  refine ⟨g, hg, ?_⟩
  simp only [Value.cells] at e
  rw [← e]
theorem range_hs {w : World} {b : Nat} : ∀ (l : List Hd) (o : Nat), OkAll l → (∀ i, i < l.length → w.rangeAt b (o + i * 68) (hdV (nthH l i))) → w.rangeAt b o (hsV l)
  | [], _, _, _ => fun j v hv => by simp [hsV] at hv
  | h :: t, o, k, hi => by
    intro j v hv
    rw [hsV] at hv
    by_cases hj : j < 68
    · rw [List.getElem?_append_left (by rw [hdV_len k.head]; exact hj)] at hv
      have := hi 0 (by simp) j v hv
      rwa [Nat.zero_mul, Nat.add_zero] at this
    · rw [List.getElem?_append_right (by rw [hdV_len k.head]; omega), hdV_len k.head] at hv
      have := range_hs t (o + 68) k.tail (fun i hlt => by
        have := hi (i + 1) (by simp; omega)
        rw [show o + (i + 1) * 68 = o + 68 + i * 68 by omega] at this
        exact this) (j - 68) v hv
      rwa [show o + 68 + (j - 68) = o + j by omega] at this
theorem open_hds (hv : Value.okWide Tryd.prog W .any base 38 v) (h : DataW.Trod enc Tryd.prog W 0 (fun _ => true) true 38 v d p) :
    ∃ (A : Option Addr) (n c : Nat) (l : List Hd), (n ≤ c ∧ c ≤ 9223372036854775807 ∧ Hs W A n l) ∧ v = .slice A n c := by
  obtain ⟨fuel, hf⟩ := h
  obtain ⟨A, n, c, rfl⟩ := okWide_slice Tryd.underlying38 hv
  rcases Deep.open_slice Tryd.underlying38 hf with ⟨e, _⟩ | ⟨a, len, cap, m, fu, D, Pl, e, _, hlc, hcm, hm, _, hx⟩
  · simp [Value.cells] at e
    obtain ⟨rfl, rfl, rfl⟩ := e
    exact ⟨none, 0, 0, [], ⟨Nat.le_refl _, by omega, Hs.nil _ _⟩, rfl⟩
  · simp [Value.cells] at e
    obtain ⟨rfl, rfl, rfl⟩ := e
    have hm' : n ≤ m := by rw [hm]; split <;> omega
    have each : ∀ i, i < n → ∃ g : Hd, g.Ok ∧ ∀ q u, (hdV g)[q]? = some u → W.cell? ((a.add (i * 68)).add q) = some u := fun i hi => by
      obtain ⟨cs', h1, h2⟩ := hx i (by omega)
      rw [Tryd.cellsHd] at h1
      obtain ⟨_, hl, hc⟩ := World.cells?_some h1
      obtain ⟨g, hg, e⟩ := trod_hd h2
      refine ⟨g, hg, fun q u hq => ?_⟩
      have hq2 := (List.getElem?_eq_some_iff.1 hq).1
      rw [hc q (by rw [← hl, e]; exact hq2), e]
      exact hq
    obtain ⟨f, hf'⟩ := Deep.choose_lt (α := Hd) (p := fun i g => g.Ok ∧ ∀ q u, (hdV g)[q]? = some u → W.cell? ((a.add (i * 68)).add q) = some u) each
    refine ⟨some a, n, c, (List.range n).map f, ⟨hlc, by unfold maxLen at hcm; omega, by simp, fun g hg => ?_, fun hn => ?_⟩, rfl⟩
    · simp only [List.mem_map, List.mem_range] at hg
      obtain ⟨i, hi, rfl⟩ := hg
      exact (hf' i hi).1
    · have c0 := (hf' 0 hn).2 0 (u32v (f 0).v) rfl
      have e0 : (a.add (0 * 68)).add 0 = a := rfl
      rw [e0] at c0
      obtain ⟨b, o, rfl⟩ : ∃ b o, a = ⟨b, o, none⟩ := by
        unfold World.cell? at c0
        split at c0
        · split at c0
          · cases c0
          · rename_i hs
            obtain ⟨b, o, s⟩ := a
            cases s with
            | none => exact ⟨b, o, rfl⟩
            | some x => simp at hs
        · cases c0
      refine ⟨b, o, rfl, World.block_lt_of_cell? _ _ c0, range_hs _ _ (fun g hg => ?_) (fun i hi => ?_)⟩
      · simp only [List.mem_map, List.mem_range] at hg
        obtain ⟨i, hi, rfl⟩ := hg
        exact (hf' i hi).1
      · have hi' : i < n := by simpa using hi
        have e : nthH ((List.range n).map f) i = f i := by simp [nthH, List.getD, hi']
        rw [e]
        intro q u hq
        have := (hf' i hi').2 q u hq
        rwa [add_at, add_at] at this
end
end Go.Proofs.YtkocbkckfkbmhaaDoor
