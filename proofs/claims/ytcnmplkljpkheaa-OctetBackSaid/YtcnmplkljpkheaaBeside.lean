/- A row of the call's own that is appended to beside bytes that it does not share memory with. No condition. -/
import Derived.Test.YtcnmplkljpkheaaWorks
namespace Go.Proofs.Ytcnmplkljpkheaa
open Go.RowKit

/-- v is a row of the call's own; the bytes at C do not lie in its block. -/
structure Beside (w0 : World) (v : Value) (n : Nat) (L : List Nat) (C : Option Addr) (m : Nat) (M : List Nat) (wr : World) : Prop where
  own : Own w0 v n L wr
  oth : Bs wr C m M
  ap : 0 < m → ∀ q a, v.ownBlock = some q → C = some a → a.block ≠ q
theorem Beside.later {w0 wr w1 : World} {v : Value} {n m : Nat} {L M : List Nat} {C : Option Addr} (h : Beside w0 v n L C m M wr) (g : Below wr.heap.size wr w1) : Beside w0 v n L C m M w1 := ⟨h.own.later g, h.oth.later g, h.ap⟩
section
variable {w0 w : World} {ops : Array Oper} {rest : List Oper} {o : Oper} {a : Act} {Q : Exit → Act → World → Prop}
theorem wpList_app_beside (hgd : o.guard = none) (s x : Operand) (ho : o.op = .call { callee := .builtin .append, args := #[s, x], argTypes := #[22, 22] })
    {v : Value} {n : Nat} {L : List Nat} {C : Option Addr} {q : Nat} {N : List Nat} (hs : a.eval s = v) (hown : Beside w0 v n L C q N w) {ad : Addr} {m c : Nat} {M : List Nat} (hx : a.eval x = .slice (some ad) m c) (hr : Bs w (some ad) m M) (hlen : n + m ≤ 1099511627776)
    (h : ∀ A' c' w', n + m ≤ c' → Beside w0 (.slice A' (n + m) c') (n + m) (L ++ M) C q N w' → wpList Try.prog ops Q rest (a.put o.dst (.slice A' (n + m) c')) w') : wpList Try.prog ops Q (o :: rest) a w := by
  obtain ⟨i0, hi, hz0, hz1, hz2⟩ := info_parts Try.infoByte
  have hsz := hown.own.size
  refine wpList_append_own_at (P := Try.prog) w hgd s x 22 ho w0.heap.size 5 i0 (.int .u8 0) 1 1 Try.underlying22 hi hz0 hz1 hz2 rfl (by decide) v n (vals L) hs hown.own.row ad m c (vals M) hx (by rw [vals_length, hr.len]; omega) hr.cells (vals_one M) (by unfold maxLen; omega) (by omega) hsz ?_
  intro v' w' h1 h2 _ h4
  have h5 := hown.own.grown hr.byt h1 h2
  obtain ⟨A', c', rfl, hc⟩ := h5.shape
  by_cases hq : 0 < q
  · obtain ⟨b, rfl, hb, _⟩ := hown.oth.cel hq
    have far := hown.ap hq
    refine h A' c' w' hc ⟨h5, hown.oth.far h2 (fun b' e e2 => ?_), fun _ q' a' e1 e2 => ?_⟩
    · injection e with e
      subst e
      exact far _ _ e2.symm rfl rfl
    · injection e2 with e2
      subst e2
      rcases h4 with h4 | h4
      · rw [h4] at e1; exact far _ _ e1 rfl
      · rw [h4] at e1
        injection e1 with e1
        omega
  · obtain rfl : q = 0 := by omega
    obtain rfl : N = [] := List.eq_nil_of_length_eq_zero hown.oth.len
    exact h A' c' w' hc ⟨h5, Bs.nil _ _, fun hq => absurd hq (by omega)⟩
end
/-- A part of a row of the call's own, from its head on. -/
theorem Own.headed {w0 wr : World} {A : Option Addr} {n c : Nat} {L : List Nat} (h : Own w0 (.slice A n c) n L wr) (hn : 0 < n) : ∃ g, A = some ⟨g, 0, none⟩ := by
  obtain ⟨g, cap, hv, _, _⟩ := h.row.form hn
  injection hv with hA
  exact ⟨g, hA⟩
end Go.Proofs.Ytcnmplkljpkheaa
