/- append onto a slice of bytes that is full: a row of the call's own. And what two hashes are together. No condition. -/
import Derived.Test.YtdenibigefchpaaDoorGs
import Derived.ArgAppend
namespace Go.Proofs.YtdenibigefchpaaDoor
open Go.RowKit

/-- What two hashes are together. -/
def joinS (a b : List Nat) : List Nat := shaS (shaS (a ++ b))
theorem joinS_len (a b : List Nat) : (joinS a b).length = 32 := shaS_len _
theorem joinS_byt (a b : List Nat) : AllB (joinS a b) := shaS_byt _
theorem joinS_ok (a b : List Nat) : (joinS a b).length = 32 ∧ AllB (joinS a b) := ⟨joinS_len a b, joinS_byt a b⟩
section
variable {w0 w : World} {ops : Array Oper} {rest : List Oper} {o : Oper} {a : Act} {Q : Exit → Act → World → Prop} {K : Act → World → Prop}
theorem run_appFull (ty : TypeId) {A B : Addr} {n m c : Nat} {L M : List Nat} (hL : Bs w (some A) n L) (hM : Bs w (some B) m M) (hm : 0 < m) (hlen : n + m ≤ 1099511627776) :
    ∃ A' c' w', (Builtin.append_ #[38, 38] ty #[.slice (some A) n n, .slice (some B) m c]).run Tryd.prog w = .ok (.slice A' (n + m) c') w' ∧ n + m ≤ c' ∧ Own w (.slice A' (n + m) c') (n + m) (L ++ M) w' ∧ w.grownBy w' none := by
  obtain ⟨i0, hi, hz0, hz1, hz2⟩ := info_parts Tryd.infoByte
  obtain ⟨v', w', r1, r2, r3⟩ := run_append_arg_grows (P := Tryd.prog) w 38 ty 5 i0 (.int .u8 0) 1 1 Tryd.underlying38 hi hz0 hz1 hz2 rfl (by decide) A n n (vals L) (by rw [vals_length, hL.len]; omega) hL.cells B m c (vals M) (by rw [vals_length, hM.len]; omega) hM.cells (by omega) (by unfold maxLen; omega) (by omega)
  have O : Own w v' (n + m) (L ++ M) w' := ⟨by rw [vals_append]; exact r2, hL.byt.app hM.byt, (Below.refl w.heap.size w).grown r3 (Nat.le_refl _) (fun q hq => by cases hq)⟩
  obtain ⟨A', c', rfl, hc⟩ := O.shape
  exact ⟨A', c', w', r1, hc, O, r3⟩
theorem wp_appFull (s x : Operand) (ho : o.op = .call { callee := .builtin .append, args := #[s, x], argTypes := #[38, 38] })
    {A B : Addr} {n m c : Nat} {L M : List Nat} (hs : a.eval s = .slice (some A) n n) (hL : Bs w (some A) n L) (hx : a.eval x = .slice (some B) m c) (hM : Bs w (some B) m M) (hm : 0 < m) (hlen : n + m ≤ 1099511627776)
    (h : ∀ A' c' w', n + m ≤ c' → Own w (.slice A' (n + m) c') (n + m) (L ++ M) w' → w.grownBy w' none → K (a.put o.dst (.slice A' (n + m) c')) w') : o.wp Tryd.prog a w K Q := by
  obtain ⟨A', c', w', r1, r2, r3, r4⟩ := run_appFull (c := c) o.type hL hM hm hlen
  have e := h A' c' w' r2 r3 r4
  unfold Oper.wp
  simp [execOp, ho, resolve, invoke, builtin, hs, hx, r1, Result.andThen]
  exact e
theorem wpList_appFull (hgd : o.guard = none) (s x : Operand) (ho : o.op = .call { callee := .builtin .append, args := #[s, x], argTypes := #[38, 38] })
    {A B : Addr} {n m c : Nat} {L M : List Nat} (hs : a.eval s = .slice (some A) n n) (hL : Bs w (some A) n L) (hx : a.eval x = .slice (some B) m c) (hM : Bs w (some B) m M) (hm : 0 < m) (hlen : n + m ≤ 1099511627776)
    (h : ∀ A' c' w', n + m ≤ c' → Own w (.slice A' (n + m) c') (n + m) (L ++ M) w' → w.grownBy w' none → wpList Tryd.prog ops Q rest (a.put o.dst (.slice A' (n + m) c')) w') : wpList Tryd.prog ops Q (o :: rest) a w :=
  wpList_plain hgd fun _ hK => wp_appFull s x ho hs hL hx hM hm hlen fun A' c' w' h1 h2 h3 => hK _ _ (h A' c' w' h1 h2 h3)
end
end Go.Proofs.YtdenibigefchpaaDoor
