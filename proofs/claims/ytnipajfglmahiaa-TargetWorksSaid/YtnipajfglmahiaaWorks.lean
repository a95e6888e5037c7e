/- What the functions of the package big return at the numbers of the anchor 'works', and that the anchor is true. -/
import Derived.Test.YtnipajfglmahiaaShift
import Derived.BigQuiet
import Derived.BigGuardPart
import Derived.Deep.QuietTactic
import Derived.Deep.RegionHeld3
namespace Go.Proofs.Ytnipajfglmahiaa
open Go.RowKit

set_option maxHeartbeats 1000000 in
theorem of_int (n : Int) (w : World) : Calls Try.prog 24 #[.int .u64 n] w fun e w' => e = .returned (.agg #[.int .u64 n, .int .u64 0, .int .u64 0, .int .u64 0]) ∧ Below w.heap.size w w' := by
  go_enter Try.func24, Try.ntmps24
  go_wp2_with fail
  go_returns
  refine ⟨rfl, ?_⟩
  go_grown
/-- Len64 at a word. -/
theorem lenIs (x l : Nat) (hx : x < 18446744073709551616) (hl : Lib.bitLen x = l) : LenIs x l := by
  intro w
  have h := Try.bits_Len64 (x : Int) w (by omega) (by omega)
  rw [Int.toNat_natCast, hl] at h
  exact h
end Go.Proofs.Ytnipajfglmahiaa
