/- Bytes, texts, hashes and numbers that came in as arguments of a law. No condition. -/
import Derived.Test.YtcnmplkljpkheaaRows
import Derived.Test.YtcnmplkljpkheaaHash
import Derived.Test.YtcnmplkljpkheaaUnhex
import Derived.ProofKit
import Derived.Laws.IdiomArrays
import Derived.OpenShut
import Derived.ChangeOld
import Derived.ChangeMaps5
import Derived.Deep.Slices
import Derived.Below
namespace Go.Proofs.Ytcnmplkljpkheaa
open Go.ChangeShapes Go.WideShapes Go.ChangeAt Go.RowKit Go.ChangeMaps

theorem Try.own : ownKnob Try.prog.godebug = none := by kernel_rfl
theorem Try.laidOut : laidOutB Try.prog = true := by kernel_rfl
theorem Try.cellsByte : Try.prog.cellsOf 5 = 1 := by kernel_rfl
theorem Try.cellsHash : Try.prog.cellsOf 42 = 32 := by kernel_rfl

section
variable {H : Type} {enc : TypeId × Value → H} {W : World} {base : Nat} {v : Value} {d : DataW H} {p : List MemPlace}
theorem open_u64 (hv : Value.okWide Try.prog W .any base 23 v) (h : DataW.Trod enc Try.prog W 0 (fun _ => true) true 23 v d p) : ∃ x : Nat, x < 18446744073709551616 ∧ v = .int .u64 (x : Nat) := by
  obtain ⟨n, rfl, rfl, rfl, w⟩ := open_int Try.underlying23 hv h
  have b := bounds_u64 w
  exact ⟨n.toNat, by omega, by rw [Int.toNat_of_nonneg b.1]⟩
theorem open_u8 (hv : Value.okWide Try.prog W .any base 5 v) (h : DataW.Trod enc Try.prog W 0 (fun _ => true) true 5 v d p) : ∃ x : Nat, x < 256 ∧ v = .int .u8 (x : Nat) := by
  obtain ⟨n, rfl, rfl, rfl, w⟩ := open_int Try.underlying5 hv h
  have b := bounds_u8 w
  exact ⟨n.toNat, by omega, by rw [Int.toNat_of_nonneg b.1]⟩
theorem open_i64 (hv : Value.okWide Try.prog W .any base 3 v) (h : DataW.Trod enc Try.prog W 0 (fun _ => true) true 3 v d p) : ∃ x : Int, (-9223372036854775808 ≤ x ∧ x ≤ 9223372036854775807) ∧ v = .int .i64 x := by
  obtain ⟨n, rfl, rfl, rfl, w⟩ := open_int Try.underlying3 hv h
  have b := bounds_i64 w
  exact ⟨n, by omega, rfl⟩
theorem open_str (hv : Value.okWide Try.prog W .any base 9 v) (h : DataW.Trod enc Try.prog W 0 (fun _ => true) true 9 v d p) : ∃ s : ByteArray, s.size ≤ 9223372036854775807 ∧ v = .string s := by
  obtain ⟨s, rfl, _, _, hs⟩ := open_string Try.underlying9 hv h
  exact ⟨s, hs, rfl⟩
/-- A slice of bytes that came in. -/
theorem open_bytes (hv : Value.okWide Try.prog W .any base 22 v) (h : DataW.Trod enc Try.prog W 0 (fun _ => true) true 22 v d p) :
    ∃ (A : Option Addr) (n c : Nat) (L : List Nat), (n ≤ c ∧ c ≤ 9223372036854775807 ∧ Bs W A n L) ∧ v = .slice A n c := by
  obtain ⟨fuel, hf⟩ := h
  obtain ⟨A, n, c, rfl⟩ := okWide_slice Try.underlying22 hv
  rcases Deep.open_slice1 Try.underlying22 Try.cellsByte hf with ⟨e, _⟩ | ⟨a, len, cap, m, _, V, D, Pl, e, _, hlc, hcm, hm, _, hx⟩
  · simp [Value.cells] at e
    obtain ⟨rfl, rfl, rfl⟩ := e
    exact ⟨none, 0, 0, [], ⟨Nat.le_refl _, by omega, Bs.nil _ _⟩, rfl⟩
  · simp [Value.cells] at e
    obtain ⟨rfl, rfl, rfl⟩ := e
    have hm' : n ≤ m := by rw [hm]; split <;> omega
    have each : ∀ i, i < n → ∃ x : Nat, x < 256 ∧ W.cell? (a.add i) = some (.int .u8 (x : Nat)) := fun i hi => by
      obtain ⟨h1, h2⟩ := hx i (by omega)
      obtain ⟨q, e0, _, w0⟩ := DataW.trod_int Try.underlying5 h2
      simp at e0
      have b0 := bounds_u8 w0
      exact ⟨q.toNat, by omega, by rw [h1, e0, Int.toNat_of_nonneg b0.1]⟩
    obtain ⟨f, hf'⟩ := Deep.choose_lt (α := Nat) (p := fun i x => x < 256 ∧ W.cell? (a.add i) = some (.int .u8 (x : Nat))) each
    refine ⟨some a, n, c, (List.range n).map f, ⟨hlc, by unfold maxLen at hcm; omega, by simp, fun x hx => ?_, fun hn => ⟨a, rfl, ?_, fun k hk => ?_⟩⟩, rfl⟩
    · simp only [List.mem_map, List.mem_range] at hx
      obtain ⟨i, hi, rfl⟩ := hx
      exact (hf' i hi).1
    · have := World.block_lt_of_cell? _ _ (hf' 0 hn).2
      rwa [add_block] at this
    · rw [(hf' k hk).2]
      simp [nth, List.getD, hk]
/-- A hash that came in. -/
theorem open_hash (hv : Value.okWide Try.prog W .any base 42 v) (h : DataW.Trod enc Try.prog W 0 (fun _ => true) true 42 v d p) : ∃ L : List Nat, H32 L ∧ v = hashV L := by
  obtain ⟨cs, rfl, hsz, _⟩ : ∃ cs, v = .agg cs ∧ cs.size = Try.prog.cellsOf 42 ∧ Row.okWide Try.prog W .any base 42 cs := by
    simpa [Value.okWide, Try.underlying42] using hv
  rw [Try.cellsHash] at hsz
  obtain ⟨l⟩ := cs
  have hlen : l.length = 32 := by simpa using hsz
  obtain ⟨fuel, hf⟩ := h
  obtain ⟨xs, m, _, _, _, hxl, hx⟩ := Go.DataW.trod_array Try.underlying42 hf
  have each : ∀ i, i < 32 → ∃ n : Nat, n < 256 ∧ l[i]? = some (.int .u8 (n : Nat)) := fun i hi => by
    have h1 := hx i hi
    rw [Try.cellsByte, Nat.mul_one, List.getElem?_eq_getElem (by omega)] at h1
    have hl : l[i]? = some l[i] := List.getElem?_eq_getElem (by omega)
    have hdt : (l.drop i).take 1 = [l[i]] := by
      rw [List.drop_eq_getElem_cons (by omega)]; rfl
    have h2 : DataW.trod enc Try.prog W 0 (fun _ => true) true m 5 [l[i]] = some xs[i] := by
      rw [← hdt]; simpa [Value.cells] using h1
    obtain ⟨n, e0, _, w0⟩ := DataW.trod_int Try.underlying5 h2
    have b0 := bounds_u8 w0
    refine ⟨n.toNat, by omega, ?_⟩
    rw [hl, Int.toNat_of_nonneg b0.1]
    simpa using e0
  obtain ⟨f, hf'⟩ := Deep.choose_lt (α := Nat) (p := fun i n => n < 256 ∧ l[i]? = some (.int .u8 (n : Nat))) each
  refine ⟨(List.range 32).map f, ⟨by simp, fun x hx => ?_⟩, ?_⟩
  · simp only [List.mem_map, List.mem_range] at hx
    obtain ⟨i, hi, rfl⟩ := hx
    exact (hf' i hi).1
  · have : l = vals ((List.range 32).map f) := by
      refine List.ext_getElem? fun i => ?_
      by_cases hi : i < 32
      · rw [(hf' i hi).2, vals, List.map_map, List.getElem?_map, List.getElem?_range hi]; rfl
      · rw [List.getElem?_eq_none (by omega), List.getElem?_eq_none (by simp [vals]; omega)]
    rw [this]; rfl
end
end Go.Proofs.Ytcnmplkljpkheaa
