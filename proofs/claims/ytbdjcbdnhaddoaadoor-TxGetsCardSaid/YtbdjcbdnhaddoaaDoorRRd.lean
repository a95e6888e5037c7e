/- The reference's reader: how it takes bytes, numbers, counts and items. No condition. -/
import Derived.Test.YtbdjcbdnhaddoaaDoorGi
import Derived.Deep.Cut
import Derived.Deep.CutRange
namespace Go.Proofs.YtbdjcbdnhaddoaaDoor
open Go.RowKit

/-- The reference's reader at block r: L is still to read; bad says whether it has met an end. -/
structure RR (w0 w : World) (r : Nat) (L : List Nat) (bad : Bool) : Prop where
  box : ∃ A n c, Ro w r 65 [.slice A n c, .bool bad] ∧ n ≤ c ∧ n ≤ 1073741824 ∧ Bs w0 A n L
  lo : w0.heap.size ≤ r
  bel : Below w0.heap.size w0 w
section
variable {w0 w w1 w2 : World} {r : Nat} {L : List Nat} {bad : Bool}
theorem RR.lt (R : RR w0 w r L bad) : r < w.heap.size := by
  obtain ⟨A, m, c, h1, _⟩ := R.box
  exact h1.lt
theorem RR.later (R : RR w0 w r L bad) (g : Below w.heap.size w w1) : RR w0 w1 r L bad := by
  obtain ⟨A, m, c, h1, h2, h3, h4⟩ := R.box
  exact ⟨⟨A, m, c, h1.later g, h2, h3, h4⟩, R.lo, R.bel.trans (g.mono R.bel.size)⟩
/-- Behind what turns a row that is not the reader's box. -/
theorem RR.far {row : Option Nat} (R : RR w0 w r L bad) (g : w.grownBy w1 row) (hr : some r ≠ row) (hb : ∀ b, row = some b → w0.heap.size ≤ b) : RR w0 w1 r L bad := by
  obtain ⟨A, m, c, h1, h2, h3, h4⟩ := R.box
  exact ⟨⟨A, m, c, h1.far g hr, h2, h3, h4⟩, R.lo, R.bel.grown g R.bel.size hb⟩
theorem RR.byt (R : RR w0 w r L bad) : AllB L := by
  obtain ⟨A, m, c, h1, h2, h3, h4⟩ := R.box
  exact h4.byt
theorem RR.len (R : RR w0 w r L bad) : L.length ≤ 1073741824 := by
  obtain ⟨A, m, c, h1, h2, h3, h4⟩ := R.box
  have := h4.len
  omega
end
/-- What a step of the reader has read: what p says, or it has met an end. -/
def St {α : Type} (p : List Nat → Option (α × List Nat)) (bad : Bool) (L : List Nat) (x : α) (L' : List Nat) (bad' : Bool) : Prop := (bad = false ∧ bad' = false ∧ p L = some (x, L')) ∨ (bad' = true ∧ (bad = false → p L = none))

/-- What take gives. -/
def Takes (w0 : World) (r : Nat) (w : World) (n : Nat) (L : List Nat) (bad : Bool) (e : Ending) (w' : World) : Prop := ∃ A m c L' bad', e = .returned (.slice A m c) ∧ m ≤ c ∧ m ≤ 1073741824 ∧ RR w0 w' r L' bad' ∧ Gr r w w' ∧
  ((bad = false ∧ n ≤ L.length ∧ m = n ∧ Bs w0 A n (L.take n) ∧ L' = L.drop n ∧ bad' = false) ∨ (A = none ∧ m = 0 ∧ c = 0 ∧ bad' = true ∧ L' = L ∧ (bad = false → L.length < n)))
set_option maxRecDepth 100000 in
set_option maxHeartbeats 2000000 in
theorem rtake_any {w0 w : World} {r : Nat} {L : List Nat} {bad : Bool} {n : Nat} (R : RR w0 w r L bad) (hn : n < 9223372036854775808) :
    Calls Tryd.prog 40 #[.pointer (some ⟨r, 0, none⟩), .int .i64 (n : Int)] w (Takes w0 r w n L bad) := by
  obtain ⟨A, m, c, h1, h2, h3, h4⟩ := R.box
  obtain rfl := h4.len
  have c0 := h1.cell (k := 0) (v := .slice A L.length c) rfl
  have c1 := h1.cell (k := 1) (v := .bool bad) rfl
  have f0 := h1.free 0
  have f1 := h1.free 1
  have H1 := Lib.hid h1
  have H4 := Lib.hid h4
  have HR := Lib.hid R
  clear R h1 h4
  go_enter Tryd.func40, Tryd.ntmps40
  have h6 := HR.out.lo
  have B1 := Lib.hid (H1.out.set 1 (.bool true))
  have G1 := Lib.hid (gr_set w r 1 (.bool true))
  have E1 : Hid (RR w0 (w.setCell ⟨r, 1, none⟩ (.bool true)) r L true) := Lib.hid ⟨⟨A, _, c, B1.out, h2, h3, H4.out⟩, h6, HR.out.bel.setCell (p := ⟨r, 1, none⟩) h6 _⟩
  cases bad with
  | true =>
    go_wp2_with fail
    go_ret
    exact ⟨none, 0, 0, L, true, rfl, Nat.le_refl _, by decide, E1.out, G1.out, .inr ⟨rfl, rfl, rfl, rfl, rfl, fun h => by cases h⟩⟩
  | false =>
    have t0 : decide ((n : Int) < 0) = false := decide_eq_false (by omega)
    by_cases hlt : L.length < n
    · have t1 : decide ((L.length : Int) < (n : Int)) = true := decide_eq_true (by omega)
      have HLT := Lib.hid hlt
      go_wp2_with fail
      go_ret
      exact ⟨none, 0, 0, L, true, rfl, Nat.le_refl _, by decide, E1.out, G1.out, .inr ⟨rfl, rfl, rfl, rfl, rfl, fun _ => HLT.out⟩⟩
    · have t1 : decide ((L.length : Int) < (n : Int)) = false := decide_eq_false (by omega)
      have hn' : n ≤ L.length := by omega
      go_wp2_with fail
      all_goals go_ret
      all_goals have h7 := H4.out.tail hn' h2
      · subst h
        rw [if_pos rfl] at h7
        exact ⟨A, _, _, L.drop _, false, rfl, by omega, by omega, ⟨⟨_, _, _, H1.out.set 0 _, by omega, by omega, h7⟩, h6, HR.out.bel.setCell (p := ⟨r, 0, none⟩) h6 _⟩, gr_set w r 0 _, .inl ⟨rfl, hn', rfl, H4.out.front hn', rfl, rfl⟩⟩
      · rw [if_neg (by omega)] at h7
        exact ⟨A, _, _, L.drop _, false, rfl, by omega, by omega, ⟨⟨_, _, _, H1.out.set 0 _, by omega, by omega, h7⟩, h6, HR.out.bel.setCell (p := ⟨r, 0, none⟩) h6 _⟩, gr_set w r 0 _, .inl ⟨rfl, hn', rfl, H4.out.front hn', rfl, rfl⟩⟩
theorem takes_st {w0 : World} {n m : Nat} {L L' : List Nat} {bad bad' : Bool} {A : Option Addr} {c : Nat} (h : (bad = false ∧ n ≤ L.length ∧ m = n ∧ Bs w0 A n (L.take n) ∧ L' = L.drop n ∧ bad' = false) ∨ (A = none ∧ m = 0 ∧ c = 0 ∧ bad' = true ∧ L' = L ∧ (bad = false → L.length < n))) : ∃ y, Bs w0 A m y ∧ St (takeP n) bad L y L' bad' ∧ (bad' = true → y = []) := by
  rcases h with ⟨h1, h2, rfl, h4, rfl, rfl⟩ | ⟨rfl, rfl, rfl, rfl, rfl, h⟩
  · exact ⟨_, h4, .inl ⟨h1, rfl, takeP_yes h2⟩, fun h => by cases h⟩
  · exact ⟨[], Bs.nil _ _, .inr ⟨rfl, fun k => takeP_none (h k)⟩, fun _ => rfl⟩
end Go.Proofs.YtbdjcbdnhaddoaaDoor
