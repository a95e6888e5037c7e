/- Up and Down of the package big and of the document's answers of layer 2 at any number of bits, below 0 too; Div of both by 0. -/
import Derived.Test.YtcjggdoopehkpaaCon
import Derived.Test.YtcjggdoopehkpaaRefDiv
namespace Go.Proofs.Ytcjggdoopehkpaa
open Go.RowKit

def EqZ (x0 x1 x2 x3 : Nat) (r : Bool) : Prop := ∀ w : World, (Op.equalIn 10000 24 (.agg #[.int .u64 (x0 : Nat), .int .u64 (x1 : Nat), .int .u64 (x2 : Nat), .int .u64 (x3 : Nat)]) (.agg #[.int .u64 0, .int .u64 0, .int .u64 0, .int .u64 0])).run Try.prog w = .ok r w
def DownZ (x0 x1 x2 x3 : Nat) (n : Int) (s0 s1 s2 s3 : Nat) : Prop := ∀ w : World, Calls Try.prog 26 #[.agg #[.int .u64 (x0 : Nat), .int .u64 (x1 : Nat), .int .u64 (x2 : Nat), .int .u64 (x3 : Nat)], .int .i64 n] w fun e w' => e = .returned (.agg #[.int .u64 (s0 : Nat), .int .u64 (s1 : Nat), .int .u64 (s2 : Nat), .int .u64 (s3 : Nat)]) ∧ Below w.heap.size w w'
def UpZ (x0 x1 x2 x3 : Nat) (n : Int) (s0 s1 s2 s3 : Nat) : Prop := ∀ w : World, Calls Try.prog 24 #[.agg #[.int .u64 (x0 : Nat), .int .u64 (x1 : Nat), .int .u64 (x2 : Nat), .int .u64 (x3 : Nat)], .int .i64 n] w fun e w' => e = .returned (.agg #[.int .u64 (s0 : Nat), .int .u64 (s1 : Nat), .int .u64 (s2 : Nat), .int .u64 (s3 : Nat)]) ∧ Below w.heap.size w w'
theorem eqZ {x0 x1 x2 x3 : Nat} (h : Words x0 x1 x2 x3) (r : Bool) (hr : r = decide (val x0 x1 x2 x3 = 0)) : EqZ x0 x1 x2 x3 r := eqz h (c := 0) (by omega) r hr
theorem zero_words {x0 x1 x2 x3 : Nat} (h : val x0 x1 x2 x3 = 0) : x0 = 0 ∧ x1 = 0 ∧ x2 = 0 ∧ x3 = 0 := by unfold val at h; omega
theorem pow_big (k : Nat) (h : 256 ≤ k) : 115792089237316195423570985008687907853269984665640564039457584007913129639936 ≤ 2 ^ k := by
  have e256 : (2 : Nat) ^ 256 = 115792089237316195423570985008687907853269984665640564039457584007913129639936 := by decide
  rw [← e256]; exact Nat.pow_le_pow_right (by omega) h
theorem downZ {a0 a1 a2 a3 s0 s1 s2 s3 : Nat} (ha : Words a0 a1 a2 a3) (n : Int) (hs : Words s0 s1 s2 s3) (h : val s0 s1 s2 s3 = val a0 a1 a2 a3 / 2 ^ n.toNat) : DownZ a0 a1 a2 a3 n s0 s1 s2 s3 := by
  by_cases h0 : n ≤ 0
  · rw [show n.toNat = 0 by omega, Nat.pow_zero, Nat.div_one] at h
    obtain ⟨rfl, rfl, rfl, rfl⟩ := val_inj hs ha h
    exact fun w => down_low _ _ _ _ n w h0
  · obtain ⟨k, rfl⟩ : ∃ k : Nat, n = (k : Int) := ⟨n.toNat, by omega⟩
    rw [Int.toNat_natCast] at h
    by_cases h1 : k < 256
    · exact downIs ha h1 hs h
    · rw [Nat.div_eq_of_lt (Nat.lt_of_lt_of_le (val_lt ha) (pow_big k (by omega)))] at h
      obtain ⟨rfl, rfl, rfl, rfl⟩ := zero_words h
      exact fun w => down_high _ _ _ _ _ w (by omega)
theorem upZ {a0 a1 a2 a3 s0 s1 s2 s3 : Nat} (ha : Words a0 a1 a2 a3) (n : Int) (hs : Words s0 s1 s2 s3) (h : val s0 s1 s2 s3 = val a0 a1 a2 a3 * 2 ^ n.toNat % 115792089237316195423570985008687907853269984665640564039457584007913129639936) : UpZ a0 a1 a2 a3 n s0 s1 s2 s3 := by
  by_cases h0 : n ≤ 0
  · rw [show n.toNat = 0 by omega, Nat.pow_zero, Nat.mul_one, Nat.mod_eq_of_lt (val_lt ha)] at h
    obtain ⟨rfl, rfl, rfl, rfl⟩ := val_inj hs ha h
    exact fun w => up_low _ _ _ _ n w h0
  · obtain ⟨k, rfl⟩ : ∃ k : Nat, n = (k : Int) := ⟨n.toNat, by omega⟩
    rw [Int.toNat_natCast] at h
    by_cases h1 : k < 256
    · exact upIs ha h1 hs h
    · have e256 : (2 : Nat) ^ 256 = 115792089237316195423570985008687907853269984665640564039457584007913129639936 := by decide
      rw [show k = k - 256 + 256 by omega, Nat.pow_add, e256, ← Nat.mul_assoc, Nat.mul_mod_left] at h
      obtain ⟨rfl, rfl, rfl, rfl⟩ := zero_words h
      exact fun w => up_high _ _ _ _ _ w (by omega)
set_option maxHeartbeats 1000000 in
theorem refup_low (a0 a1 a2 a3 : Nat) (n : Int) (w : World) (h : n ≤ 0) : Calls Try.prog 25 #[.agg #[.int .u64 (a0 : Nat), .int .u64 (a1 : Nat), .int .u64 (a2 : Nat), .int .u64 (a3 : Nat)], .int .i64 n] w fun e w' => e = .returned (.agg #[.int .u64 (a0 : Nat), .int .u64 (a1 : Nat), .int .u64 (a2 : Nat), .int .u64 (a3 : Nat)]) ∧ Below w.heap.size w w' := by
  go_enter Try.func25, Try.ntmps25
  go_wp2_with fail
  go_returns
  refine ⟨rfl, ?_⟩
  go_grown
set_option maxHeartbeats 1000000 in
theorem refdown_low (a0 a1 a2 a3 : Nat) (n : Int) (w : World) (h : n ≤ 0) : Calls Try.prog 27 #[.agg #[.int .u64 (a0 : Nat), .int .u64 (a1 : Nat), .int .u64 (a2 : Nat), .int .u64 (a3 : Nat)], .int .i64 n] w fun e w' => e = .returned (.agg #[.int .u64 (a0 : Nat), .int .u64 (a1 : Nat), .int .u64 (a2 : Nat), .int .u64 (a3 : Nat)]) ∧ Below w.heap.size w w' := by
  go_enter Try.func27, Try.ntmps27
  go_wp2_with fail
  go_returns
  refine ⟨rfl, ?_⟩
  go_grown
def RUpZ (x0 x1 x2 x3 : Nat) (n : Int) (s0 s1 s2 s3 : Nat) : Prop := ∀ w : World, Calls Try.prog 25 #[.agg #[.int .u64 (x0 : Nat), .int .u64 (x1 : Nat), .int .u64 (x2 : Nat), .int .u64 (x3 : Nat)], .int .i64 n] w fun e w' => e = .returned (.agg #[.int .u64 (s0 : Nat), .int .u64 (s1 : Nat), .int .u64 (s2 : Nat), .int .u64 (s3 : Nat)]) ∧ Below w.heap.size w w'
def RDownZ (x0 x1 x2 x3 : Nat) (n : Int) (s0 s1 s2 s3 : Nat) : Prop := ∀ w : World, Calls Try.prog 27 #[.agg #[.int .u64 (x0 : Nat), .int .u64 (x1 : Nat), .int .u64 (x2 : Nat), .int .u64 (x3 : Nat)], .int .i64 n] w fun e w' => e = .returned (.agg #[.int .u64 (s0 : Nat), .int .u64 (s1 : Nat), .int .u64 (s2 : Nat), .int .u64 (s3 : Nat)]) ∧ Below w.heap.size w w'
theorem rupZ {a0 a1 a2 a3 s0 s1 s2 s3 : Nat} (ha : Words a0 a1 a2 a3) (n : Int) (hn : n ≤ 9223372036854775807) (hs : Words s0 s1 s2 s3) (h : val s0 s1 s2 s3 = val a0 a1 a2 a3 * 2 ^ n.toNat % 115792089237316195423570985008687907853269984665640564039457584007913129639936) : RUpZ a0 a1 a2 a3 n s0 s1 s2 s3 := by
  by_cases h0 : n ≤ 0
  · rw [show n.toNat = 0 by omega, Nat.pow_zero, Nat.mul_one, Nat.mod_eq_of_lt (val_lt ha)] at h
    obtain ⟨rfl, rfl, rfl, rfl⟩ := val_inj hs ha h
    exact fun w => refup_low _ _ _ _ n w h0
  · obtain ⟨k, rfl⟩ : ∃ k : Nat, n = (k : Int) := ⟨n.toNat, by omega⟩
    rw [Int.toNat_natCast] at h
    intro w
    refine (refup_any ha k (by omega) (by omega) w).mono fun e w' ⟨o0, o1, o2, o3, he, wo, vo, hb⟩ => ?_
    obtain ⟨rfl, rfl, rfl, rfl⟩ := val_inj wo hs (vo.trans h.symm)
    exact ⟨he, hb⟩
theorem rdownZ {a0 a1 a2 a3 s0 s1 s2 s3 : Nat} (ha : Words a0 a1 a2 a3) (n : Int) (hn : n ≤ 9223372036854775807) (hs : Words s0 s1 s2 s3) (h : val s0 s1 s2 s3 = val a0 a1 a2 a3 / 2 ^ n.toNat) : RDownZ a0 a1 a2 a3 n s0 s1 s2 s3 := by
  by_cases h0 : n ≤ 0
  · rw [show n.toNat = 0 by omega, Nat.pow_zero, Nat.div_one] at h
    obtain ⟨rfl, rfl, rfl, rfl⟩ := val_inj hs ha h
    exact fun w => refdown_low _ _ _ _ n w h0
  · obtain ⟨k, rfl⟩ : ∃ k : Nat, n = (k : Int) := ⟨n.toNat, by omega⟩
    rw [Int.toNat_natCast] at h
    intro w
    refine (refdown_any ha k (by omega) (by omega) w).mono fun e w' ⟨o0, o1, o2, o3, he, wo, vo, hb⟩ => ?_
    have hl : val a0 a1 a2 a3 / 2 ^ k < 115792089237316195423570985008687907853269984665640564039457584007913129639936 := Nat.lt_of_le_of_lt (Nat.div_le_self _ _) (val_lt ha)
    rw [Nat.mod_eq_of_lt hl] at vo
    obtain ⟨rfl, rfl, rfl, rfl⟩ := val_inj wo hs (vo.trans h.symm)
    exact ⟨he, hb⟩
set_option maxHeartbeats 1000000 in
theorem div_zero (a0 a1 a2 a3 : Nat) (w : World) : Calls Try.prog 22 #[.agg #[.int .u64 (a0 : Nat), .int .u64 (a1 : Nat), .int .u64 (a2 : Nat), .int .u64 (a3 : Nat)], .agg #[.int .u64 0, .int .u64 0, .int .u64 0, .int .u64 0]] w fun e w' =>
    e = .returned (.tuple #[.agg #[.int .u64 0, .int .u64 0, .int .u64 0, .int .u64 0], .agg #[.int .u64 0, .int .u64 0, .int .u64 0, .int .u64 0], .int .i64 1]) ∧ Below w.heap.size w w' := by
  have EQ := eq_big
  go_enter Try.func22, Try.ntmps22
  go_wp2_with fail
  go_region
  go_wp2_with fail
  go_returns
  refine ⟨rfl, ?_⟩
  go_grown

set_option maxHeartbeats 1000000 in
theorem refdiv_zero (a0 a1 a2 a3 : Nat) (w : World) : Calls Try.prog 23 #[.agg #[.int .u64 (a0 : Nat), .int .u64 (a1 : Nat), .int .u64 (a2 : Nat), .int .u64 (a3 : Nat)], .agg #[.int .u64 0, .int .u64 0, .int .u64 0, .int .u64 0]] w fun e w' =>
    e = .returned (.tuple #[.agg #[.int .u64 0, .int .u64 0, .int .u64 0, .int .u64 0], .agg #[.int .u64 0, .int .u64 0, .int .u64 0, .int .u64 0], .int .i64 1]) ∧ Below w.heap.size w w' := by
  have EQ := eq_big
  go_enter Try.func23, Try.ntmps23
  go_wp2_with fail
  go_region
  go_wp2_with fail
  go_returns
  refine ⟨rfl, ?_⟩
  go_grown

end Go.Proofs.Ytcjggdoopehkpaa
