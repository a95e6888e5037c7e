/- slices.Clone of bytes. No condition but a bound. -/
import Derived.Test.YtgnomopiofpknaaApp
import Derived.Great.BuildSlice
import Derived.Laws.Cover3
namespace Go.Proofs.Ytgnomopiofpknaa
open Go.RowKit

theorem wp_lit0 {w : World} {o : Oper} {a : Act} {Q : Exit → Act → World → Prop} {K : Act → World → Prop} {d : Option Tmp} (hd : o.dst = d) (ho : o.op = .buildSlice 33 0 #[]) (h : K (a.put d (.slice (some ⟨w.heap.size, 0, none⟩) 0 0)) (w.alloc (.cells #[] 5))) : o.wp Try.prog a w K Q := by
  subst hd
  have hi : ∃ i, Try.prog.info? 5 = some i ∧ i.zero = some (.int .u8 0) ∧ i.size = 1 := by
    obtain ⟨i0, hi, hz0, hz1, _⟩ := info_parts Try.infoByte
    exact ⟨i0, hi, hz0, hz1⟩
  obtain ⟨i0, hi, hz, hs⟩ := hi
  have key : (Instr.buildSlice 33 0 #[]).run Try.prog w = .ok (.slice (some ⟨w.heap.size, 0, none⟩) 0 0) (w.alloc (.cells #[] 5)) := by
    simp [Instr.buildSlice, run_underlying Try.underlying33, sizeOf, typeInfo, hi, newRow, Instr.fill, Array.range_zero']
  unfold Oper.wp execOp
  simp only [ho, Sem.run_bind]
  rw [show (#[].map fun (x : Nat × Operand) => match x with | (i, x) => (i, a.eval x)) = (#[] : Array (Nat × Value)) by simp, key]
  exact h
theorem eql_nil (A : Option Addr) (n c : Nat) (w : World) : (binOp .eql 33 (.slice A n c) (.slice none 0 0)).run Try.prog w = .ok (.bool A.isNone) w := by
  simp [binOp, run_equal_slice_nil w _ _ A n c Try.underlying33]
set_option maxRecDepth 100000 in
theorem clone_any {w : World} {A : Option Addr} {n c : Nat} {L : List Nat} (hL : Bs w A n L) (hn : n ≤ 1099511627776) (hc : n ≤ c) :
    Calls Try.prog 37 #[.slice A n c] w (GivesB w L) := by
  have HL := Lib.hid hL
  rcases A with _ | a
  · obtain rfl : n = 0 := by
      rcases Nat.eq_zero_or_pos n with h | h
      · exact h
      · obtain ⟨_, e, _⟩ := hL.cel h
        cases e
    obtain rfl : L = [] := List.eq_nil_of_length_eq_zero hL.len
    clear hL
    have eq1 := eql_nil none 0 c w
    simp only [Option.isNone] at eq1
    go_enter Try.func37, Try.ntmps37
    go_wp2_with fail
    go_ret
    exact ⟨none, 0, 0, rfl, Nat.le_refl _, World.ownsRow_nil _ _ _ _, allB_nil, Below.refl _ _⟩
  · clear hL
    have B1 : Hid (Below w.heap.size w (w.alloc (.cells #[] 5))) := Lib.hid ((Below.refl _ _).alloc (Nat.le_refl _) _)
    have eq1 := eql_nil (some a) n c w
    simp only [Option.isNone] at eq1
    have O1 : Hid (Own w (.slice (some ⟨w.heap.size, 0, none⟩) 0 0) 0 [] (w.alloc (.cells #[] 5))) := Lib.hid (Own.made (Below.refl _ _) #[] 0 (by decide) rfl)
    go_enter Try.func37, Try.ntmps37
    go_wp2_with (first
      | (refine wpList_plain rfl fun _ hK => wp_lit0 rfl rfl (hK _ _ ?_))
      | (at_builtin; refine wpList_appB rfl _ _ rfl rfl O1.out rfl (HL.out.later B1.out) ?e1 ?_))
    case e1 => omega
    intro A' N c' w' h1 h2 h3
    have hN := h2.len
    rw [HL.out.len] at hN
    subst hN
    have H2 := Lib.hid h2
    clear h2 h3
    go_wp2_with fail
    go_ret
    exact ⟨A', _, c', rfl, h1, H2.out⟩
end Go.Proofs.Ytgnomopiofpknaa
