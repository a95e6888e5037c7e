/- What divWord of the package big returns: a number of four words divided by one word. -/
import Derived.Test.YtnipajfglmahiaaDiv64At
import Derived.Test.YtnipajfglmahiaaWorks
namespace Go.Proofs.Ytnipajfglmahiaa
open Go.RowKit

set_option maxRecDepth 100000 in
set_option maxHeartbeats 1000000 in
theorem div64_low_walk (lo y q : Nat) (w : World) (hy : 0 < y) (Q : IntKind.u64.wrap ((lo : Int) / (y : Int)) = (q : Int)) :
    Calls Try.prog 44 #[.int .u64 0, .int .u64 (lo : Nat), .int .u64 (y : Nat)] w fun e w' => e = .returned (.tuple #[.int .u64 (q : Nat), .int .u64 ((lo : Int) % (y : Int))]) ∧ w' = w.drew := by
  go_enter Try.func44, Try.ntmps44
  go_wp2_with fail
  go_region
  go_wp2_with fail
  go_returns
  exact ⟨rfl, rfl⟩

/-- A call of Div64 at these words gives these words. -/
def Div64Is (hi lo y q r : Nat) : Prop := ∀ w : World, Calls Try.prog 44 #[.int .u64 (hi : Nat), .int .u64 (lo : Nat), .int .u64 (y : Nat)] w fun e w' => e = .returned (.tuple #[.int .u64 (q : Nat), .int .u64 (r : Nat)]) ∧ (w' = w ∨ w' = w.drew)
theorem Div64Is.at0 {lo y q r : Nat} (h : Div64Is 0 lo y q r) (w : World) : Calls Try.prog 44 #[.int .u64 0, .int .u64 (lo : Nat), .int .u64 (y : Nat)] w fun e w' => e = .returned (.tuple #[.int .u64 (q : Nat), .int .u64 (r : Nat)]) ∧ (w' = w ∨ w' = w.drew) := h w
theorem div64Is (hi lo y : Nat) (h : hi < y) (hy : y < 18446744073709551616) (hl : lo < 18446744073709551616) :
    Div64Is hi lo y ((hi * 18446744073709551616 + lo) / y) ((hi * 18446744073709551616 + lo) % y) := by
  intro w
  rcases Nat.eq_zero_or_pos hi with h0 | h0
  · subst h0
    rw [Nat.zero_mul, Nat.zero_add]
    have q := Nat.div_le_self lo y
    refine (div64_low_walk lo y (lo / y) w h ?_).mono fun e w' ⟨he, hw⟩ => ⟨by rw [he, Int.natCast_emod], Or.inr hw⟩
    rw [← Int.natCast_ediv]; exact wrap_u64 _ (by omega)
  · exact (div64_hi hi lo y w h0 h hy hl).mono fun e w' ⟨he, hw⟩ => ⟨he, Or.inl hw⟩

set_option maxRecDepth 100000 in
set_option maxHeartbeats 4000000 in
theorem divWord_words (a0 a1 a2 a3 n q0 q1 q2 q3 r0 r1 r2 r3 : Nat) (w : World) (g3 : Div64Is 0 a3 n q3 r3) (g2 : Div64Is r3 a2 n q2 r2) (g1 : Div64Is r2 a1 n q1 r1) (g0 : Div64Is r1 a0 n q0 r0) :
    Calls Try.prog 42 #[.agg #[.int .u64 (a0 : Nat), .int .u64 (a1 : Nat), .int .u64 (a2 : Nat), .int .u64 (a3 : Nat)], .int .u64 (n : Nat)] w fun e w' => e = .returned (.tuple #[.agg #[.int .u64 (q0 : Nat), .int .u64 (q1 : Nat), .int .u64 (q2 : Nat), .int .u64 (q3 : Nat)], .int .u64 (r0 : Nat)]) ∧ Below w.heap.size w w' := by
  have G3 := Lib.hid g3
  have G2 := Lib.hid g2
  have G1 := Lib.hid g1
  have G0 := Lib.hid g0
  clear g3 g2 g1 g0
  go_enter Try.func42, Try.ntmps42
  go_wp2_with fail
  refine wp_loop_rounds 5 ?_
  rw [rounds_succ]
  go_wp2_with fail
  refine (G3.out.at0 _).mono ?_
  rintro e w1 ⟨rfl, rfl | rfl⟩
  all_goals
    go_wp2_with fail
    rw [rounds_succ]
    go_wp2_with fail
    refine (G2.out _).mono ?_
    rintro e w1 ⟨rfl, rfl | rfl⟩
  all_goals
    go_wp2_with fail
    rw [rounds_succ]
    go_wp2_with fail
    refine (G1.out _).mono ?_
    rintro e w1 ⟨rfl, rfl | rfl⟩
  all_goals
    go_wp2_with fail
    rw [rounds_succ]
    go_wp2_with fail
    refine (G0.out _).mono ?_
    rintro e w1 ⟨rfl, rfl | rfl⟩
  all_goals
    go_wp2_with fail
    rw [rounds_succ]
    go_wp2_with fail
    go_returns
    refine ⟨rfl, ?_⟩
    go_grown

end Go.Proofs.Ytnipajfglmahiaa
