/- Sizes. No condition. -/
import Derived.Test.YthglegjnkhifeaaDoorB
import Derived.WalkSmall
import Derived.WalkSpells
namespace Go.Proofs.YthglegjnkhifeaaDoor
open Go.RowKit

def sizeB (n : Int) : Bool := decide (n = 1 ∨ n = 2 ∨ n = 4 ∨ n = 8)
theorem sizeB_cases {n : Int} (h : sizeB n = true) : n = 1 ∨ n = 2 ∨ n = 4 ∨ n = 8 := of_decide_eq_true h
theorem sizeB_no {n : Int} (h : sizeB n = false) : n ≠ 1 ∧ n ≠ 2 ∧ n ≠ 4 ∧ n ≠ 8 := by
  have := of_decide_eq_false h
  omega

theorem isSize_any (n : Int) (w : World) : Calls Tryd.prog 26 #[.int .i64 n] w fun e w' => e = .returned (.bool (sizeB n)) ∧ w' = w := by
  cases h : sizeB n with
  | true =>
    rcases sizeB_cases h with rfl | rfl | rfl | rfl
    all_goals
      go_enter Tryd.func26, Tryd.ntmps26
      go_wp2_with fail
      go_ret
      exact ⟨rfl, rfl⟩
  | false =>
    obtain ⟨h1, h2, h4, h8⟩ := sizeB_no h
    have t1 : (n == 1) = false := beq_eq_false_iff_ne.2 h1
    have t2 : (n == 2) = false := beq_eq_false_iff_ne.2 h2
    have t4 : (n == 4) = false := beq_eq_false_iff_ne.2 h4
    have t8 : (n == 8) = false := beq_eq_false_iff_ne.2 h8
    clear h
    go_enter Tryd.func26, Tryd.ntmps26
    go_wp2_with fail
    go_ret
    exact ⟨rfl, rfl⟩
theorem rsize_any (n : Int) (w : World) : Calls Tryd.prog 28 #[.int .i64 n] w fun e w' => e = .returned (.bool (sizeB n)) ∧ w' = w := by
  cases h : sizeB n with
  | true =>
    rcases sizeB_cases h with rfl | rfl | rfl | rfl
    all_goals
      go_enter Tryd.func28, Tryd.ntmps28
      go_wp2_with fail
      go_ret
      exact ⟨rfl, rfl⟩
  | false =>
    obtain ⟨h1, h2, h4, h8⟩ := sizeB_no h
    have t1 : (n == 1) = false := beq_eq_false_iff_ne.2 h1
    have t2 : (n == 2) = false := beq_eq_false_iff_ne.2 h2
    have t4 : (n == 4) = false := beq_eq_false_iff_ne.2 h4
    have t8 : (n == 8) = false := beq_eq_false_iff_ne.2 h8
    clear h
    go_enter Tryd.func28, Tryd.ntmps28
    go_wp2_with fail
    go_ret
    exact ⟨rfl, rfl⟩

end Go.Proofs.YthglegjnkhifeaaDoor
