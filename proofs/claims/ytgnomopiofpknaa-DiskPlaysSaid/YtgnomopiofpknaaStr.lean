/- Bytes as strings; a struct built. No condition. -/
import Derived.Test.YtgnomopiofpknaaOn
import Derived.Laws.IdiomStrings
import Derived.Laws.BytesString
namespace Go.Proofs.Ytgnomopiofpknaa
open Go.RowKit

/-- A string of these bytes. -/
def strB (L : List Nat) : ByteArray := ⟨(L.map UInt8.ofNat).toArray⟩
def strL (s : ByteArray) : List Nat := s.data.toList.map UInt8.toNat
theorem strL_strB {L : List Nat} (h : AllB L) : strL (strB L) = L := by
  simp only [strL, strB, List.map_map]
  conv => rhs; rw [← List.map_id L]
  apply List.map_congr_left
  intro x hx
  have := h x hx
  simp; omega
theorem strB_inj {L M : List Nat} (h : AllB L) (k : AllB M) (e : strB L = strB M) : L = M := by rw [← strL_strB h, e, strL_strB k]
theorem strB_size (L : List Nat) : (strB L).size = L.length := by
  show ((L.map UInt8.ofNat).toArray).size = _
  simp
theorem run_str {A : Option Addr} {n c : Nat} {L : List Nat} {w : World} (h : Bs w A n L) : (convert 33 9 (.slice A n c)).run Try.prog w = .ok (.string (strB L)) w := by
  rcases A with _ | a
  · obtain rfl : n = 0 := by
      rcases Nat.eq_zero_or_pos n with h0 | h0
      · exact h0
      · obtain ⟨_, e, _⟩ := h.cel h0
        cases e
    obtain rfl : L = [] := List.eq_nil_of_length_eq_zero h.len
    rw [run_convert_bytes_string w 33 9 5 none 0 c Try.underlying33 Try.underlying5 Try.underlying9]
    rfl
  · have hl := h.len
    have := run_convert_bytes_back (P := Try.prog) w 33 9 5 a c (L.map UInt8.ofNat) Try.underlying33 Try.underlying5 Try.underlying9 (fun j hj => by
      have hj' : j < L.length := by simpa using hj
      obtain ⟨b, e, _, hc⟩ := h.cel (by omega)
      injection e with e
      subst e
      rw [hc j (by omega)]
      have hlt := nth_lt h.byt j
      have e2 : nth L j = L[j] := by simp [nth, List.getD, hj']
      simp only [List.getElem_map]
      rw [UInt8.toNat_ofNat', ← e2, Nat.mod_eq_of_lt hlt])
    rw [List.length_map, hl] at this
    exact this
theorem str_iff {L M : List Nat} (h : AllB L) (k : AllB M) : ((strB L).toList == (strB M).toList) = true ↔ L = M := by
  rw [beq_iff_eq]
  constructor
  · intro e
    refine strB_inj h k ?_
    rw [ByteArray.toList_eq, ByteArray.toList_eq] at e
    exact ByteArray.ext (Array.toList_inj.1 e)
  · rintro rfl; rfl
theorem str_dec {L M : List Nat} (h : AllB L) (k : AllB M) : ((strB L).toList == (strB M).toList) = decide (L = M) := by
  rw [Bool.eq_iff_iff, str_iff h k, decide_eq_true_iff]

section
variable {w : World} {o : Oper} {a : Act} {Q : Exit → Act → World → Prop} {K : Act → World → Prop} {d : Option Tmp}
theorem wp_buildR (hd : o.dst = d) (T : TypeId) (parts : Array (Nat × Operand)) (ho : o.op = .build T parts) {us : Array (Nat × Value)} {v : Value} (hx : (parts.map fun y => (y.1, a.eval y.2)) = us) (hrun : (Instr.build T us).run Try.prog w = .ok v w)
    (h : K (a.put d v) w) : o.wp Try.prog a w K Q := by
  subst hd
  have hx' : (parts.map fun (x : Nat × Operand) => match x with | (i, x) => (i, a.eval x)) = us := hx
  unfold Oper.wp execOp
  simp only [ho, Sem.run_bind, hx', hrun, Result.andThen_ok, Sem.run_pure]
  exact h
end
end Go.Proofs.Ytgnomopiofpknaa
