/- What the functions of the package big return at the numbers of the anchor 'works', and that the anchor is true. -/
import Derived.Test.YtcjggdoopehkpaaShift
import Derived.BigQuiet
import Derived.BigGuardPart
import Derived.Deep.QuietTactic
import Derived.Deep.RegionHeld3
namespace Go.Proofs.Ytcjggdoopehkpaa
open Go.RowKit

set_option maxHeartbeats 1000000 in
theorem of_int (n : Int) (w : World) : Calls Try.prog 19 #[.int .u64 n] w fun e w' => e = .returned (.agg #[.int .u64 n, .int .u64 0, .int .u64 0, .int .u64 0]) ∧ Below w.heap.size w w' := by
  go_enter Try.func19, Try.ntmps19
  go_wp2_with fail
  go_returns
  refine ⟨rfl, ?_⟩
  go_grown
set_option maxHeartbeats 1000000 in
theorem most_any (w : World) : Calls Try.prog 38 #[] w fun e w' => e = .returned (.agg #[.int .u64 18446744073709551615, .int .u64 18446744073709551615, .int .u64 18446744073709551615, .int .u64 18446744073709551615]) ∧ Below w.heap.size w w' := by
  go_enter Try.func38, Try.ntmps38
  go_wp2_with fail
  go_returns
  refine ⟨rfl, ?_⟩
  go_grown

theorem lit_add (w : World) : Calls Try.prog 9 #[.agg #[.int .u64 18446744073709551615, .int .u64 18446744073709551615, .int .u64 18446744073709551615, .int .u64 18446744073709551615], .agg #[.int .u64 1, .int .u64 0, .int .u64 0, .int .u64 0]] w fun e w' =>
    e = .returned (.tuple #[.agg #[.int .u64 0, .int .u64 0, .int .u64 0, .int .u64 0], .bool true]) ∧ Below w.heap.size w w' :=
  add_words 18446744073709551615 18446744073709551615 18446744073709551615 18446744073709551615 1 0 0 0 0 0 0 0 1 1 1 1 w
    (gives_add _ _ _ _ _ (by decide) (by decide) (by decide)) (gives_add _ _ _ _ _ (by decide) (by decide) (by decide)) (gives_add _ _ _ _ _ (by decide) (by decide) (by decide)) (gives_add _ _ _ _ _ (by decide) (by decide) (by decide))
theorem lit_sub (w : World) : Calls Try.prog 11 #[.agg #[.int .u64 0, .int .u64 0, .int .u64 0, .int .u64 0], .agg #[.int .u64 1, .int .u64 0, .int .u64 0, .int .u64 0]] w fun e w' =>
    e = .returned (.tuple #[.agg #[.int .u64 18446744073709551615, .int .u64 18446744073709551615, .int .u64 18446744073709551615, .int .u64 18446744073709551615], .bool true]) ∧ Below w.heap.size w w' :=
  sub_words 0 0 0 0 1 0 0 0 18446744073709551615 18446744073709551615 18446744073709551615 18446744073709551615 1 1 1 1 w
    (gives_sub _ _ _ _ _ (by decide) (by decide) (by decide)) (gives_sub _ _ _ _ _ (by decide) (by decide) (by decide)) (gives_sub _ _ _ _ _ (by decide) (by decide) (by decide)) (gives_sub _ _ _ _ _ (by decide) (by decide) (by decide))
theorem lit_up (w : World) : Calls Try.prog 24 #[.agg #[.int .u64 1, .int .u64 0, .int .u64 0, .int .u64 0], .int .i64 255] w fun e w' =>
    e = .returned (.agg #[.int .u64 0, .int .u64 0, .int .u64 0, .int .u64 9223372036854775808]) ∧ Below w.heap.size w w' :=
  up_3 1 0 0 0 63 9223372036854775808 255 w (by decide) (by decide) (by decide) (by decide) (by decide) (by decide)
theorem lit_mul (w : World) : Calls Try.prog 13 #[.agg #[.int .u64 0, .int .u64 0, .int .u64 0, .int .u64 9223372036854775808], .int .u64 6] w fun e w' =>
    e = .returned (.tuple #[.agg #[.int .u64 0, .int .u64 0, .int .u64 0, .int .u64 0], .int .u64 3]) ∧ Below w.heap.size w w' :=
  mul_words 0 0 0 9223372036854775808 6 0 0 0 3 0 0 0 3 0 0 0 0 0 0 0 0 0 0 0 0 w
    (times _ _ _ _ (by decide) (by decide) (by decide) (by decide)) (times _ _ _ _ (by decide) (by decide) (by decide) (by decide)) (times _ _ _ _ (by decide) (by decide) (by decide) (by decide)) (times _ _ _ _ (by decide) (by decide) (by decide) (by decide))
    (gives_add _ _ _ _ _ (by decide) (by decide) (by decide)) (gives_add _ _ _ _ _ (by decide) (by decide) (by decide)) (gives_add _ _ _ _ _ (by decide) (by decide) (by decide)) (gives_add _ _ _ _ _ (by decide) (by decide) (by decide))
    (by decide) (by decide) (by decide) (by decide)

/-- Len64 at a word. -/
theorem lenIs (x l : Nat) (hx : x < 18446744073709551616) (hl : Lib.bitLen x = l) : LenIs x l := by
  intro w
  have h := Try.bits_Len64 (x : Int) w (by omega) (by omega)
  rw [Int.toNat_natCast, hl] at h
  exact h
theorem lit_bits (w : World) : Calls Try.prog 17 #[.agg #[.int .u64 255, .int .u64 0, .int .u64 0, .int .u64 0]] w fun e w' => e = .returned (.int .i64 8) ∧ Below w.heap.size w w' :=
  bits_words 255 0 0 0 8 0 0 0 8 8 8 8 w (lenIs _ _ (by decide) (by decide)) (lenIs _ _ (by decide) (by decide)) (lenIs _ _ (by decide) (by decide)) (lenIs _ _ (by decide) (by decide))
    (by decide) (by decide) (by decide) (by decide) (by decide) (by decide) (by decide) (by decide)

set_option maxRecDepth 100000 in
set_option maxHeartbeats 1000000 in
theorem lit_div64a (w : World) : Calls Try.prog 40 #[.int .u64 0, .int .u64 0, .int .u64 7] w fun e w' => e = .returned (.tuple #[.int .u64 0, .int .u64 0]) ∧ w' = w.drew := by
  go_enter Try.func40, Try.ntmps40
  go_wp2_with fail
  go_region
  go_wp2_with fail
  go_returns
  exact ⟨rfl, rfl⟩
set_option maxRecDepth 100000 in
set_option maxHeartbeats 1000000 in
theorem lit_div64b (w : World) : Calls Try.prog 40 #[.int .u64 0, .int .u64 100, .int .u64 7] w fun e w' => e = .returned (.tuple #[.int .u64 14, .int .u64 2]) ∧ w' = w.drew := by
  go_enter Try.func40, Try.ntmps40
  go_wp2_with fail
  go_region
  go_wp2_with fail
  go_returns
  exact ⟨rfl, rfl⟩

set_option maxHeartbeats 1000000 in
theorem lit_divWord (w : World) : Calls Try.prog 39 #[.agg #[.int .u64 100, .int .u64 0, .int .u64 0, .int .u64 0], .int .u64 7] w fun e w' => e = .returned (.tuple #[.agg #[.int .u64 14, .int .u64 0, .int .u64 0, .int .u64 0], .int .u64 2]) ∧ Below w.heap.size w w' := by
  go_enter Try.func39, Try.ntmps39
  go_wp2_with fail
  refine wp_loop_rounds 5 ?_
  rw [rounds_succ]
  go_wp2_with fail
  refine (lit_div64a _).mono ?_
  rintro e w1 ⟨rfl, rfl⟩
  go_wp2_with fail
  rw [rounds_succ]
  go_wp2_with fail
  refine (lit_div64a _).mono ?_
  rintro e w1 ⟨rfl, rfl⟩
  go_wp2_with fail
  rw [rounds_succ]
  go_wp2_with fail
  refine (lit_div64a _).mono ?_
  rintro e w1 ⟨rfl, rfl⟩
  go_wp2_with fail
  rw [rounds_succ]
  go_wp2_with fail
  refine (lit_div64b _).mono ?_
  rintro e w1 ⟨rfl, rfl⟩
  go_wp2_with fail
  rw [rounds_succ]
  go_wp2_with fail
  go_returns
  refine ⟨rfl, ?_⟩
  go_grown

end Go.Proofs.Ytcjggdoopehkpaa
