/- Bytes as strings. No condition. -/
import Derived.Test.YtkocbkckfkbmhaaDoorWorks
import Derived.Laws.IdiomStrings
namespace Go.Proofs.YtkocbkckfkbmhaaDoor
open Go.RowKit

/-- A string of these bytes. -/
def strB (L : List Nat) : ByteArray := ⟨(L.map UInt8.ofNat).toArray⟩
def strL (s : ByteArray) : List Nat := s.data.toList.map UInt8.toNat
theorem strL_strB {L : List Nat} (h : AllB L) : strL (strB L) = L := by
  simp only [strL, strB, List.map_map]
  conv => rhs; rw [← List.map_id L]
  apply List.map_congr_left
  intro x hx
  have := h x hx
  simp; omega
theorem strB_inj {L M : List Nat} (h : AllB L) (k : AllB M) (e : strB L = strB M) : L = M := by rw [← strL_strB h, e, strL_strB k]
theorem strB_size (L : List Nat) : (strB L).size = L.length := by
  show ((L.map UInt8.ofNat).toArray).size = _
  simp
theorem run_str {A : Option Addr} {n c : Nat} {L : List Nat} {w : World} (h : Bs w A n L) : (convert 27 9 (.slice A n c)).run Tryd.prog w = .ok (.string (strB L)) w := by
  rcases A with _ | a
  · obtain rfl : n = 0 := by
      rcases Nat.eq_zero_or_pos n with h0 | h0
      · exact h0
      · obtain ⟨_, e, _⟩ := h.cel h0
        cases e
    obtain rfl : L = [] := List.eq_nil_of_length_eq_zero h.len
    rw [run_convert_bytes_string w 27 9 5 none 0 c Tryd.underlying27 Tryd.underlying5 Tryd.underlying9]
    rfl
  · have hl := h.len
    have := run_convert_bytes_back (P := Tryd.prog) w 27 9 5 a c (L.map UInt8.ofNat) Tryd.underlying27 Tryd.underlying5 Tryd.underlying9 (fun j hj => by
      have hj' : j < L.length := by simpa using hj
      obtain ⟨b, e, _, hc⟩ := h.cel (by omega)
      injection e with e
      subst e
      rw [hc j (by omega)]
      have hlt := nth_lt h.byt j
      have e2 : nth L j = L[j] := by simp [nth, List.getD, hj']
      simp only [List.getElem_map]
      rw [UInt8.toNat_ofNat', ← e2, Nat.mod_eq_of_lt hlt])
    rw [List.length_map, hl] at this
    exact this
theorem str_eq {L M : List Nat} (h : AllB L) (k : AllB M) : ((strB L).toList == (strB M).toList) = decide (L = M) := by
  rw [Bool.eq_iff_iff, beq_iff_eq, decide_eq_true_eq]
  constructor
  · intro e
    refine strB_inj h k ?_
    rw [ByteArray.toList_eq, ByteArray.toList_eq] at e
    exact ByteArray.ext (Array.toList_inj.1 e)
  · rintro rfl; rfl
/-- The header that Get tells, right or not, and its code. -/
def gotA (L : List Nat) : Hd := if L.length = 80 then getH L else zeroH
def gotE (L : List Nat) : Nat := if L.length = 80 then 0 else 5
theorem gotA_ok {L : List Nat} (h : AllB L) : (gotA L).Ok := by
  unfold gotA
  split
  · rename_i e; exact getH_ok h e
  · exact zeroH_ok
theorem get_gen {A : Option Addr} {n c : Nat} {L : List Nat} (w : World) (hnc : n ≤ c) (hL : Bs w A n L) : Calls Tryd.prog 12 #[.slice A n c] w fun e w' => e = .returned (.tuple #[.agg (hdV (gotA L)).toArray, .int .i64 (gotE L : Nat)]) ∧ Below w.heap.size w w' := by
  by_cases h : n = 80
  · rw [show gotA L = getH L from if_pos (hL.len.trans h), show gotE L = 0 from if_pos (hL.len.trans h)]
    exact get_any w h hnc hL
  · rw [show gotA L = zeroH from if_neg (fun e => h (hL.len.symm.trans e)), show gotE L = 5 from if_neg (fun e => h (hL.len.symm.trans e))]
    exact get_bad h w
theorem refGet_gen {A : Option Addr} {n c : Nat} {L : List Nat} (w : World) (hL : Bs w A n L) : Calls Tryd.prog 13 #[.slice A n c] w fun e w' => e = .returned (.tuple #[.agg (hdV (gotA L)).toArray, .int .i64 (gotE L : Nat)]) ∧ Below w.heap.size w w' := by
  by_cases h : n = 80
  · rw [show gotA L = getH L from if_pos (hL.len.trans h), show gotE L = 0 from if_pos (hL.len.trans h)]
    exact refGet_any w h hL
  · rw [show gotA L = zeroH from if_neg (fun e => h (hL.len.symm.trans e)), show gotE L = 5 from if_neg (fun e => h (hL.len.symm.trans e))]
    exact refGet_bad h w
/-- What follows a law's drawn region: works. -/
theorem works_at {w w1 : World} (hLd : Laid w) (b : Below w.heap.size w w1) : Calls Tryd.prog 11 #[] w1 fun e w' => e = .returned (.bool true) ∧ Below w1.heap.size w1 w' := works_any w1 (hLd.later hLd.lt b)
end Go.Proofs.YtkocbkckfkbmhaaDoor
