/- Bytes and numbers that came in as arguments; the door's own heap. No condition. -/
import Derived.Test.YthglegjnkhifeaaDoorLaid
import Derived.Test.YthglegjnkhifeaaDoorInts
import Derived.ChangeOld
import Derived.ChangeMaps5
import Derived.Laws.IdiomArrays
import Derived.Below
namespace Go.Proofs.YthglegjnkhifeaaDoor
open Go.ChangeShapes Go.WideShapes Go.ChangeAt Go.RowKit Go.ChangeMaps

theorem Tryd.laidOut : laidOutB Tryd.prog = true := by kernel_rfl
set_option maxRecDepth 100000 in
/-- The door's own heap meets the condition. -/
theorem door_met (os : Os) (args : Array Value) : laidMetH Tryd.prog laidL ((World.doorLaid Tryd.prog 19 os).forCall (fun _ _ => 0) ⟨#[], args, []⟩).memory :=
  laidMetH_of_parts3 (fuel := 8) (laidMet_of_run' 8 (by kernel_rfl) (by kernel_rfl)) (by kernel_rfl) (by kernel_rfl)
section
variable {H : Type} {enc : TypeId × Value → H} {W : World} {base : Nat} {v : Value} {d : DataW H} {p : List MemPlace}
theorem open_u16 (hv : Value.okWide Tryd.prog W .any base 33 v) (h : DataW.Trod enc Tryd.prog W 0 (fun _ => true) true 33 v d p) : ∃ x : Nat, x < 65536 ∧ v = .int .u16 (x : Nat) := by
  obtain ⟨n, rfl, rfl, rfl, w⟩ := open_int Tryd.underlying33 hv h
  have b := bounds_u16 w
  exact ⟨n.toNat, by omega, by rw [Int.toNat_of_nonneg b.1]⟩
theorem open_u8 (hv : Value.okWide Tryd.prog W .any base 5 v) (h : DataW.Trod enc Tryd.prog W 0 (fun _ => true) true 5 v d p) : ∃ x : Nat, x < 256 ∧ v = .int .u8 (x : Nat) := by
  obtain ⟨n, rfl, rfl, rfl, w⟩ := open_int Tryd.underlying5 hv h
  have b := bounds_u8 w
  exact ⟨n.toNat, by omega, by rw [Int.toNat_of_nonneg b.1]⟩
theorem open_bytes (hv : Value.okWide Tryd.prog W .any base 22 v) (h : DataW.Trod enc Tryd.prog W 0 (fun _ => true) true 22 v d p) :
    ∃ (A : Option Addr) (n c : Nat) (L : List Nat), (n ≤ c ∧ c ≤ 9223372036854775807 ∧ Bs W A n L) ∧ v = .slice A n c := by
  obtain ⟨fuel, hf⟩ := h
  obtain ⟨A, n, c, rfl⟩ := okWide_slice Tryd.underlying22 hv
  rcases Deep.open_slice1 Tryd.underlying22 Tryd.cellsByte hf with ⟨e, _⟩ | ⟨a, len, cap, m, _, V, D, Pl, e, _, hlc, hcm, hm, _, hx⟩
  · simp [Value.cells] at e
    obtain ⟨rfl, rfl, rfl⟩ := e
    exact ⟨none, 0, 0, [], ⟨Nat.le_refl _, by omega, Bs.nil _ _⟩, rfl⟩
  · simp [Value.cells] at e
    obtain ⟨rfl, rfl, rfl⟩ := e
    have hm' : n ≤ m := by rw [hm]; split <;> omega
    have each : ∀ i, i < n → ∃ x : Nat, x < 256 ∧ W.cell? (a.add i) = some (.int .u8 (x : Nat)) := fun i hi => by
      obtain ⟨h1, h2⟩ := hx i (by omega)
      obtain ⟨q, e0, _, w0⟩ := DataW.trod_int Tryd.underlying5 h2
      simp at e0
      have b0 := bounds_u8 w0
      exact ⟨q.toNat, by omega, by rw [h1, e0, Int.toNat_of_nonneg b0.1]⟩
    obtain ⟨f, hf'⟩ := Deep.choose_lt (α := Nat) (p := fun i x => x < 256 ∧ W.cell? (a.add i) = some (.int .u8 (x : Nat))) each
    refine ⟨some a, n, c, (List.range n).map f, ⟨hlc, by unfold maxLen at hcm; omega, by simp, fun x hx => ?_, fun hn => ⟨a, rfl, ?_, fun k hk => ?_⟩⟩, rfl⟩
    · simp only [List.mem_map, List.mem_range] at hx
      obtain ⟨i, hi, rfl⟩ := hx
      exact (hf' i hi).1
    · have := World.block_lt_of_cell? _ _ (hf' 0 hn).2
      rwa [add_block] at this
    · rw [(hf' k hk).2]
      simp [nth, List.getD, hk]

theorem open_i64 (hv : Value.okWide Tryd.prog W .any base 3 v) (h : DataW.Trod enc Tryd.prog W 0 (fun _ => true) true 3 v d p) : ∃ x : Int, (-9223372036854775808 ≤ x ∧ x ≤ 9223372036854775807) ∧ v = .int .i64 x := by
  obtain ⟨n, rfl, rfl, rfl, w⟩ := open_int Tryd.underlying3 hv h
  have b := bounds_i64 w
  exact ⟨n, by omega, rfl⟩
theorem Tryd.cellsInt : Tryd.prog.cellsOf 3 = 1 := by kernel_rfl
theorem open_ints (hv : Value.okWide Tryd.prog W .any base 23 v) (h : DataW.Trod enc Tryd.prog W 0 (fun _ => true) true 23 v d p) :
    ∃ (A : Option Addr) (n c : Nat) (L : List Int), (n ≤ c ∧ c ≤ 9223372036854775807 ∧ Is W A n L) ∧ v = .slice A n c := by
  obtain ⟨fuel, hf⟩ := h
  obtain ⟨A, n, c, rfl⟩ := okWide_slice Tryd.underlying23 hv
  rcases Deep.open_slice1 Tryd.underlying23 Tryd.cellsInt hf with ⟨e, _⟩ | ⟨a, len, cap, m, _, V, D, Pl, e, _, hlc, hcm, hm, _, hx⟩
  · simp [Value.cells] at e
    obtain ⟨rfl, rfl, rfl⟩ := e
    exact ⟨none, 0, 0, [], ⟨Nat.le_refl _, by omega, Is.nil _ _⟩, rfl⟩
  · simp [Value.cells] at e
    obtain ⟨rfl, rfl, rfl⟩ := e
    have hm' : n ≤ m := by rw [hm]; split <;> omega
    have each : ∀ i, i < n → ∃ x : Int, (-9223372036854775808 ≤ x ∧ x ≤ 9223372036854775807) ∧ W.cell? (a.add i) = some (.int .i64 x) := fun i hi => by
      obtain ⟨h1, h2⟩ := hx i (by omega)
      obtain ⟨q, e0, _, w0⟩ := DataW.trod_int Tryd.underlying3 h2
      simp at e0
      have b0 := bounds_i64 w0
      exact ⟨q, by omega, by rw [h1, e0]⟩
    obtain ⟨f, hf'⟩ := Deep.choose_lt (α := Int) (p := fun i x => (-9223372036854775808 ≤ x ∧ x ≤ 9223372036854775807) ∧ W.cell? (a.add i) = some (.int .i64 x)) each
    refine ⟨some a, n, c, (List.range n).map f, ⟨hlc, by unfold maxLen at hcm; omega, by simp, fun x hx => ?_, fun hn => ?_⟩, rfl⟩
    · simp only [List.mem_map, List.mem_range] at hx
      obtain ⟨i, hi, rfl⟩ := hx
      exact (hf' i hi).1
    · have c0 := (hf' 0 hn).2
      rw [show a.add 0 = a from rfl] at c0
      obtain ⟨b, o, rfl⟩ : ∃ b o, a = ⟨b, o, none⟩ := by
        unfold World.cell? at c0
        split at c0
        · split at c0
          · cases c0
          · rename_i hs
            obtain ⟨b, o, s⟩ := a
            cases s with
            | none => exact ⟨b, o, rfl⟩
            | some x => simp at hs
        · cases c0
      refine ⟨b, o, rfl, World.block_lt_of_cell? _ _ c0, fun k hk => ?_⟩
      have := (hf' k hk).2
      rw [add_at] at this
      rw [this]
      simp [ith, List.getD, hk]
end
end Go.Proofs.YthglegjnkhifeaaDoor
