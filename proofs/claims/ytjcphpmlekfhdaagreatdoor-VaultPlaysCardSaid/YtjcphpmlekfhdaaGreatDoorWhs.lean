/- A range over a vault's whole frames. No condition but bounds on the lengths. -/
import Derived.Test.YtjcphpmlekfhdaaGreatDoorWhl
namespace Go.Proofs.YtjcphpmlekfhdaaGreatDoor
open Go.RowKit Go.Shelf
attribute [local go_sem] Oper.semAt_some

theorem whole_in (g : Nat) (A : Option Addr) (n c : Nat) (w : World) : CallsIn Fence.wide 2 Tryz.prog 72 #[.slice A n c, .int .u64 (g : Nat)] w fun e w' => e = .returned (.func (.func 97) #[] #[.pointer (some ⟨w.heap.size, 0, none⟩), .pointer (some ⟨w.heap.size + 1, 0, none⟩)]) ∧ w' = (w.alloc (.cells #[.slice A n c] 40)).alloc (.cells #[.int .u64 (g : Nat)] 49) := by
  refine callsIn_of_wp Tryz.func72 rfl trivial ?_ rfl
  simp only [Tryz.ntmps72, List.size_toArray, List.length_cons, List.length_nil, Nat.reduceAdd, Nat.reduceSub, Array.replicate_succ, Array.replicate_zero, List.push_toArray, List.append_toArray, List.nil_append, List.cons_append]
  gi_wp2
  go_ret
  exact ⟨rfl, rfl⟩

theorem whole_turns (Bx Gx g : Nat) (A : Option Addr) (len cap : Nat) (L : List Nat) (hg : g < 18446744073709551616) (hcap : len ≤ cap) (hreach : cap ≤ 9223372036854775807) (hlen : len ≤ 549755813888) (Q : Nat → Prop)
    (hQB : Q Bx) (hQG : Q Gx) (hQ0 : Q 0) (hQ1 : Q 1) (hG : Gx ≠ Bx) (hB : 2 ≤ Bx) (hQA : 0 < len → ∀ a, A = some a → Q a.block ∧ a.block ≠ Bx)
    (w : World) (hBx : Boxed w Bx 40 (.slice A len cap)) (hGx : Boxed w Gx 49 (.int .u64 (g : Nat))) (hL : Bs w A len L) (hLd : Laid w) :
    SeqTurns Fence.wide 2 Tryz.prog 97 #[.pointer (some ⟨Bx, 0, none⟩), .pointer (some ⟨Gx, 0, none⟩)] trV (Tw Bx) (Kq Q) (AllR g A cap L) (TellsR g A cap L) w := fun l J Jx W hW _ _ hT hY h0 =>
  whole1_in l Bx Gx g A len cap L hg hcap hreach hlen J Jx Q hQB hQG hQ0 hQ1 hG hB hQA hT hY W ((hW.block Bx (Array.getElem?_eq_some_iff.1 hBx).1).trans hBx) ((hW.block Gx (Array.getElem?_eq_some_iff.1 hGx).1).trans hGx) (hL.later hW) (hLd.later hLd.lt hW) h0
end Go.Proofs.YtjcphpmlekfhdaaGreatDoor
