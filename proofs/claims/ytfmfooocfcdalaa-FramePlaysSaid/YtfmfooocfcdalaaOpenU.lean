/- A slice of numbers of 16 bits that came in. No condition. -/
import Derived.Test.YtfmfooocfcdalaaFOpen
namespace Go.Proofs.Ytfmfooocfcdalaa
open Go.ChangeShapes Go.WideShapes Go.ChangeAt Go.RowKit Go.ChangeMaps

theorem Try.cellsU16 : Try.prog.cellsOf 31 = 1 := by kernel_rfl
/-- A slice of numbers of 16 bits that reads as a list. -/
structure U16s (w : World) (A : Option Addr) (n : Nat) (L : List Nat) : Prop where
  len : L.length = n
  byt : ∀ x ∈ L, x < 65536
  cel : 0 < n → ∃ a, A = some a ∧ a.block < w.heap.size ∧ ∀ k, k < n → w.cell? (a.add k) = some (.int .u16 (nth L k : Nat))
theorem U16s.nil (w : World) (A : Option Addr) : U16s w A 0 [] := ⟨rfl, fun x hx => (by cases hx), fun h => absurd h (by omega)⟩
theorem U16s.later {w w1 : World} {A : Option Addr} {n : Nat} {L : List Nat} (h : U16s w A n L) (g : Below w.heap.size w w1) : U16s w1 A n L :=
  ⟨h.len, h.byt, fun hn => by
    obtain ⟨a, e, hb, hc⟩ := h.cel hn
    exact ⟨a, e, Nat.lt_of_lt_of_le hb g.size, fun k hk => (World.cell?_of_block (by rw [add_block]; exact g.block _ hb)).trans (hc k hk)⟩⟩

section
variable {H : Type} {enc : TypeId × Value → H} {W : World} {base : Nat} {v : Value} {d : DataW H} {p : List MemPlace}
theorem open_u16s (hv : Value.okWide Try.prog W .any base 42 v) (h : DataW.Trod enc Try.prog W 0 (fun _ => true) true 42 v d p) :
    ∃ (A : Option Addr) (n c : Nat) (L : List Nat), (n ≤ c ∧ c ≤ 9223372036854775807 ∧ U16s W A n L) ∧ v = .slice A n c := by
  obtain ⟨fuel, hf⟩ := h
  obtain ⟨A, n, c, rfl⟩ := okWide_slice Try.underlying42 hv
  rcases Deep.open_slice1 Try.underlying42 Try.cellsU16 hf with ⟨e, _⟩ | ⟨a, len, cap, m, _, V, D, Pl, e, _, hlc, hcm, hm, _, hx⟩
  · simp [Value.cells] at e
    obtain ⟨rfl, rfl, rfl⟩ := e
    exact ⟨none, 0, 0, [], ⟨Nat.le_refl _, by omega, U16s.nil _ _⟩, rfl⟩
  · simp [Value.cells] at e
    obtain ⟨rfl, rfl, rfl⟩ := e
    have hm' : n ≤ m := by rw [hm]; split <;> omega
    have each : ∀ i, i < n → ∃ x : Nat, x < 65536 ∧ W.cell? (a.add i) = some (.int .u16 (x : Nat)) := fun i hi => by
      obtain ⟨h1, h2⟩ := hx i (by omega)
      obtain ⟨q, e0, _, w0⟩ := DataW.trod_int Try.underlying31 h2
      simp at e0
      have b0 := bounds_u16 w0
      exact ⟨q.toNat, by omega, by rw [h1, e0, Int.toNat_of_nonneg b0.1]⟩
    obtain ⟨f, hf'⟩ := Deep.choose_lt (α := Nat) (p := fun i x => x < 65536 ∧ W.cell? (a.add i) = some (.int .u16 (x : Nat))) each
    refine ⟨some a, n, c, (List.range n).map f, ⟨hlc, by unfold maxLen at hcm; omega, by simp, fun x hx => ?_, fun hn => ⟨a, rfl, ?_, fun k hk => ?_⟩⟩, rfl⟩
    · simp only [List.mem_map, List.mem_range] at hx
      obtain ⟨i, hi, rfl⟩ := hx
      exact (hf' i hi).1
    · have := World.block_lt_of_cell? _ _ (hf' 0 hn).2
      rwa [add_block] at this
    · rw [(hf' k hk).2]
      simp [nth, List.getD, hk]
end
end Go.Proofs.Ytfmfooocfcdalaa
