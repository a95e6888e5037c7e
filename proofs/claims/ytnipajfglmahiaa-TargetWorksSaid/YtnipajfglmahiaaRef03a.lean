/- Up, Down and Of of the document's answers of layer 2, as layer 3 calls them. -/
import Derived.Test.YtnipajfglmahiaaTCompact
import Derived.Test.YtnipajfglmahiaaRefLess
namespace Go.Proofs.Ytnipajfglmahiaa
open Go.RowKit

set_option maxHeartbeats 1000000 in
theorem refup_low (a0 a1 a2 a3 : Nat) (n : Int) (w : World) (h : n ≤ 0) : Calls Try.prog 30 #[.agg #[.int .u64 (a0 : Nat), .int .u64 (a1 : Nat), .int .u64 (a2 : Nat), .int .u64 (a3 : Nat)], .int .i64 n] w fun e w' => e = .returned (.agg #[.int .u64 (a0 : Nat), .int .u64 (a1 : Nat), .int .u64 (a2 : Nat), .int .u64 (a3 : Nat)]) ∧ Below w.heap.size w w' := by
  go_enter Try.func30, Try.ntmps30
  go_wp2_with fail
  go_returns
  refine ⟨rfl, ?_⟩
  go_grown

set_option maxHeartbeats 1000000 in
theorem refdown_low (a0 a1 a2 a3 : Nat) (n : Int) (w : World) (h : n ≤ 0) : Calls Try.prog 29 #[.agg #[.int .u64 (a0 : Nat), .int .u64 (a1 : Nat), .int .u64 (a2 : Nat), .int .u64 (a3 : Nat)], .int .i64 n] w fun e w' => e = .returned (.agg #[.int .u64 (a0 : Nat), .int .u64 (a1 : Nat), .int .u64 (a2 : Nat), .int .u64 (a3 : Nat)]) ∧ Below w.heap.size w w' := by
  go_enter Try.func29, Try.ntmps29
  go_wp2_with fail
  go_returns
  refine ⟨rfl, ?_⟩
  go_grown

set_option maxHeartbeats 1000000 in
theorem refof (n : Nat) (w : World) : Calls Try.prog 28 #[.int .u64 (n : Nat)] w fun e w' => e = .returned (.agg #[.int .u64 (n : Nat), .int .u64 0, .int .u64 0, .int .u64 0]) ∧ Below w.heap.size w w' := by
  go_enter Try.func28, Try.ntmps28
  go_wp2_with fail
  go_returns
  refine ⟨rfl, ?_⟩
  go_grown

def RUpZ (x0 x1 x2 x3 : Nat) (n : Int) (s0 s1 s2 s3 : Nat) : Prop := ∀ w : World, Calls Try.prog 30 #[.agg #[.int .u64 (x0 : Nat), .int .u64 (x1 : Nat), .int .u64 (x2 : Nat), .int .u64 (x3 : Nat)], .int .i64 n] w fun e w' => e = .returned (.agg #[.int .u64 (s0 : Nat), .int .u64 (s1 : Nat), .int .u64 (s2 : Nat), .int .u64 (s3 : Nat)]) ∧ Below w.heap.size w w'
def RDownZ (x0 x1 x2 x3 : Nat) (n : Int) (s0 s1 s2 s3 : Nat) : Prop := ∀ w : World, Calls Try.prog 29 #[.agg #[.int .u64 (x0 : Nat), .int .u64 (x1 : Nat), .int .u64 (x2 : Nat), .int .u64 (x3 : Nat)], .int .i64 n] w fun e w' => e = .returned (.agg #[.int .u64 (s0 : Nat), .int .u64 (s1 : Nat), .int .u64 (s2 : Nat), .int .u64 (s3 : Nat)]) ∧ Below w.heap.size w w'
def RBitsIs (x0 x1 x2 x3 n : Nat) : Prop := ∀ w : World, Calls Try.prog 31 #[.agg #[.int .u64 (x0 : Nat), .int .u64 (x1 : Nat), .int .u64 (x2 : Nat), .int .u64 (x3 : Nat)]] w fun e w' => e = .returned (.int .i64 (n : Nat)) ∧ Below w.heap.size w w'
theorem rupZ {a0 a1 a2 a3 s0 s1 s2 s3 : Nat} (ha : Words a0 a1 a2 a3) (n : Int) (hn : n ≤ 9223372036854775807) (hs : Words s0 s1 s2 s3) (h : val s0 s1 s2 s3 = val a0 a1 a2 a3 * 2 ^ n.toNat % 115792089237316195423570985008687907853269984665640564039457584007913129639936) : RUpZ a0 a1 a2 a3 n s0 s1 s2 s3 := by
  by_cases h0 : n ≤ 0
  · rw [show n.toNat = 0 by omega, Nat.pow_zero, Nat.mul_one, Nat.mod_eq_of_lt (val_lt ha)] at h
    obtain ⟨rfl, rfl, rfl, rfl⟩ := val_inj hs ha h
    exact fun w => refup_low _ _ _ _ n w h0
  · obtain ⟨k, rfl⟩ : ∃ k : Nat, n = (k : Int) := ⟨n.toNat, by omega⟩
    rw [Int.toNat_natCast] at h
    intro w
    refine (refup_any ha k (by omega) (by omega) w).mono fun e w' ⟨o0, o1, o2, o3, he, wo, vo, hb⟩ => ?_
    obtain ⟨rfl, rfl, rfl, rfl⟩ := val_inj wo hs (vo.trans h.symm)
    exact ⟨he, hb⟩
theorem rdownZ {a0 a1 a2 a3 s0 s1 s2 s3 : Nat} (ha : Words a0 a1 a2 a3) (n : Int) (hn : n ≤ 9223372036854775807) (hs : Words s0 s1 s2 s3) (h : val s0 s1 s2 s3 = val a0 a1 a2 a3 / 2 ^ n.toNat) : RDownZ a0 a1 a2 a3 n s0 s1 s2 s3 := by
  by_cases h0 : n ≤ 0
  · rw [show n.toNat = 0 by omega, Nat.pow_zero, Nat.div_one] at h
    obtain ⟨rfl, rfl, rfl, rfl⟩ := val_inj hs ha h
    exact fun w => refdown_low _ _ _ _ n w h0
  · obtain ⟨k, rfl⟩ : ∃ k : Nat, n = (k : Int) := ⟨n.toNat, by omega⟩
    rw [Int.toNat_natCast] at h
    intro w
    refine (refdown_any ha k (by omega) (by omega) w).mono fun e w' ⟨o0, o1, o2, o3, he, wo, vo, hb⟩ => ?_
    have hl : val a0 a1 a2 a3 / 2 ^ k < 115792089237316195423570985008687907853269984665640564039457584007913129639936 := Nat.lt_of_le_of_lt (Nat.div_le_self _ _) (val_lt ha)
    rw [Nat.mod_eq_of_lt hl] at vo
    obtain ⟨rfl, rfl, rfl, rfl⟩ := val_inj wo hs (vo.trans h.symm)
    exact ⟨he, hb⟩
theorem RUpZ.word {n s0 s1 s2 s3 : Nat} {d : Int} (h : RUpZ n 0 0 0 d s0 s1 s2 s3) (w : World) : Calls Try.prog 30 #[.agg #[.int .u64 (n : Nat), .int .u64 0, .int .u64 0, .int .u64 0], .int .i64 d] w fun e w' => e = .returned (.agg #[.int .u64 (s0 : Nat), .int .u64 (s1 : Nat), .int .u64 (s2 : Nat), .int .u64 (s3 : Nat)]) ∧ Below w.heap.size w w' := h w
theorem RDownZ.word {n s0 s1 s2 s3 : Nat} {d : Int} (h : RDownZ n 0 0 0 d s0 s1 s2 s3) (w : World) : Calls Try.prog 29 #[.agg #[.int .u64 (n : Nat), .int .u64 0, .int .u64 0, .int .u64 0], .int .i64 d] w fun e w' => e = .returned (.agg #[.int .u64 (s0 : Nat), .int .u64 (s1 : Nat), .int .u64 (s2 : Nat), .int .u64 (s3 : Nat)]) ∧ Below w.heap.size w w' := h w
theorem RBitsIs.word {n b : Nat} (h : RBitsIs n 0 0 0 b) (w : World) : Calls Try.prog 31 #[.agg #[.int .u64 (n : Nat), .int .u64 0, .int .u64 0, .int .u64 0]] w fun e w' => e = .returned (.int .i64 (b : Nat)) ∧ Below w.heap.size w w' := h w

end Go.Proofs.Ytnipajfglmahiaa
