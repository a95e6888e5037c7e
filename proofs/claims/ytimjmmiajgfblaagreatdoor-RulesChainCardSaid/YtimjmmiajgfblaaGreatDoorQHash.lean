/- OfHash of the package big at every hash, as a number; and a hash that came in as an argument of a law. No condition. -/
import Derived.Test.YtimjmmiajgfblaaGreatDoorGan
import Derived.Test.YtimjmmiajgfblaaGreatDoorQOpen

namespace Go.Proofs.YtimjmmiajgfblaaGreatDoor.Bg
set_option maxRecDepth 100000
open Go.ChangeShapes Go.WideShapes Go.ChangeAt Go.RowKit

/-- The number of the first k bytes, the lowest first. -/
def hashNum (hb : Nat → Nat) : Nat → Nat
  | 0 => 0
  | k + 1 => hashNum hb k + hb k * 2 ^ (8 * k)
def Bytes (hb : Nat → Nat) : Prop := ∀ k, k < 32 → hb k < 256
theorem hashNum_lt {hb : Nat → Nat} (h : Bytes hb) : ∀ k, k ≤ 32 → hashNum hb k < 2 ^ (8 * k)
  | 0, _ => by rw [hashNum]; exact Nat.two_pow_pos _
  | k + 1, hk => by
    have h1 := hashNum_lt h k (by omega)
    have h2 := h k (by omega)
    have h3 : hb k * 2 ^ (8 * k) ≤ 255 * 2 ^ (8 * k) := Nat.mul_le_mul_right _ (by omega)
    rw [hashNum, show 8 * (k + 1) = 8 * k + 8 by omega, Nat.pow_add, show (2 : Nat) ^ 8 = 256 by decide]
    omega
def wordAt (hb : Nat → Nat) (k j : Nat) : Nat := hashNum hb k / 2 ^ (64 * j) % 18446744073709551616
theorem gathersOf {hb : Nat → Nat} (h : Bytes hb) : Gathers hb (wordAt hb) := {
  byte := h
  zero := fun j => by unfold wordAt; rw [hashNum, Nat.zero_div]
  same := fun k j hk hj => by
    unfold wordAt
    have h1 := hashNum_lt h (k + 1) (by omega)
    have h2 := hashNum_lt h k (by omega)
    rcases Nat.lt_or_ge (k / 8) j with hlt | hge
    · have h3 : 2 ^ (8 * (k + 1)) ≤ 2 ^ (64 * j) := Nat.pow_le_pow_right (by omega) (by omega)
      have h4 : 2 ^ (8 * k) ≤ 2 ^ (64 * j) := Nat.pow_le_pow_right (by omega) (by omega)
      rw [Nat.div_eq_of_lt (by omega), Nat.div_eq_of_lt (by omega)]
    · have e : 2 ^ (8 * k) = 2 ^ (8 * k - 64 * j - 64) * 18446744073709551616 * 2 ^ (64 * j) := by
        rw [show (18446744073709551616 : Nat) = 2 ^ 64 by decide, ← Nat.pow_add, ← Nat.pow_add, show 8 * k - 64 * j - 64 + 64 + 64 * j = 8 * k by omega]
      rw [hashNum, e, ← Nat.mul_assoc, Nat.add_mul_div_right _ _ (Nat.two_pow_pos _), ← Nat.mul_assoc, Nat.add_mul_mod_self_right]
  step := fun k hk => by
    have hbk := h k hk
    have h2 := hashNum_lt h k (by omega)
    have e : 2 ^ (8 * k) = 2 ^ (k % 8 * 8) * 2 ^ (64 * (k / 8)) := by rw [← Nat.pow_add, show k % 8 * 8 + 64 * (k / 8) = 8 * k by omega]
    have hx : hashNum hb k / 2 ^ (64 * (k / 8)) < 2 ^ (k % 8 * 8) := by
      rw [Nat.div_lt_iff_lt_mul (Nat.two_pow_pos _), ← e]; exact h2
    have hr : 2 ^ (k % 8 * 8) ≤ 2 ^ 56 := Nat.pow_le_pow_right (by omega) (by omega)
    have e56 : (2 : Nat) ^ 56 = 72057594037927936 := by decide
    unfold wordAt
    rw [hashNum, e, ← Nat.mul_assoc, Nat.add_mul_div_right _ _ (Nat.two_pow_pos _)]
    generalize hashNum hb k / 2 ^ (64 * (k / 8)) = x at *
    generalize hb k = q at *
    have orr := Nat.two_pow_add_eq_or_of_lt hx q
    have e2 : ((q : Nat) : Int) * 2 ^ (k % 8 * 8) = ((q * 2 ^ (k % 8 * 8) : Nat) : Int) := by
      rw [Int.natCast_mul, Int.natCast_pow]; rfl
    rw [e2]
    have hle : q * 2 ^ (k % 8 * 8) ≤ 255 * 2 ^ (k % 8 * 8) := Nat.mul_le_mul_right _ (by omega)
    have hsum : x + q * 2 ^ (k % 8 * 8) < 18446744073709551616 := by
      have h8 : 256 * 2 ^ (k % 8 * 8) ≤ 256 * 2 ^ 56 := Nat.mul_le_mul_left _ hr
      omega
    rw [Nat.mul_comm] at orr
    clear e e2
    generalize q * 2 ^ (k % 8 * 8) = y at *
    rw [Nat.mod_eq_of_lt hsum, Nat.mod_eq_of_lt (show x < 18446744073709551616 by omega), IntKind.wrap_u64]
    rw [show ((y : Nat) : Int) % 18446744073709551616 = ((y : Nat) : Int) by omega, bits_or_u64_nat x y (by omega) (by omega), Nat.or_comm, ← orr, Nat.add_comm] }

theorem words_of_num {H : Nat} (h : H < 115792089237316195423570985008687907853269984665640564039457584007913129639936) : Words (H / 2 ^ (64 * 0) % 18446744073709551616) (H / 2 ^ (64 * 1) % 18446744073709551616) (H / 2 ^ (64 * 2) % 18446744073709551616) (H / 2 ^ (64 * 3) % 18446744073709551616) ∧
    val (H / 2 ^ (64 * 0) % 18446744073709551616) (H / 2 ^ (64 * 1) % 18446744073709551616) (H / 2 ^ (64 * 2) % 18446744073709551616) (H / 2 ^ (64 * 3) % 18446744073709551616) = H := by
  rw [show (2 : Nat) ^ (64 * 0) = 1 by decide, show (2 : Nat) ^ (64 * 1) = 18446744073709551616 by decide, show (2 : Nat) ^ (64 * 2) = 18446744073709551616 * 18446744073709551616 by decide, show (2 : Nat) ^ (64 * 3) = 18446744073709551616 * 18446744073709551616 * 18446744073709551616 by decide]
  rw [← Nat.div_div_eq_div_mul, ← Nat.div_div_eq_div_mul, ← Nat.div_div_eq_div_mul]
  unfold Words val
  omega
def OfHashIs (hb : Nat → Nat) (s0 s1 s2 s3 : Nat) : Prop := ∀ w : World, Calls Tryz.prog 92 #[.agg #[.int .u8 (hb 0 : Nat), .int .u8 (hb 1 : Nat), .int .u8 (hb 2 : Nat), .int .u8 (hb 3 : Nat), .int .u8 (hb 4 : Nat), .int .u8 (hb 5 : Nat), .int .u8 (hb 6 : Nat), .int .u8 (hb 7 : Nat), .int .u8 (hb 8 : Nat), .int .u8 (hb 9 : Nat), .int .u8 (hb 10 : Nat), .int .u8 (hb 11 : Nat), .int .u8 (hb 12 : Nat), .int .u8 (hb 13 : Nat), .int .u8 (hb 14 : Nat), .int .u8 (hb 15 : Nat), .int .u8 (hb 16 : Nat), .int .u8 (hb 17 : Nat), .int .u8 (hb 18 : Nat), .int .u8 (hb 19 : Nat), .int .u8 (hb 20 : Nat), .int .u8 (hb 21 : Nat), .int .u8 (hb 22 : Nat), .int .u8 (hb 23 : Nat), .int .u8 (hb 24 : Nat), .int .u8 (hb 25 : Nat), .int .u8 (hb 26 : Nat), .int .u8 (hb 27 : Nat), .int .u8 (hb 28 : Nat), .int .u8 (hb 29 : Nat), .int .u8 (hb 30 : Nat), .int .u8 (hb 31 : Nat)]] w fun e w' => e = .returned (.agg #[.int .u64 (s0 : Nat), .int .u64 (s1 : Nat), .int .u64 (s2 : Nat), .int .u64 (s3 : Nat)]) ∧ Below w.heap.size w w'
theorem hash_lt {hb : Nat → Nat} (h : Bytes hb) : hashNum hb 32 < 115792089237316195423570985008687907853269984665640564039457584007913129639936 := by
  have := hashNum_lt h 32 (by omega)
  rw [show (2 : Nat) ^ (8 * 32) = 115792089237316195423570985008687907853269984665640564039457584007913129639936 by decide] at this
  exact this
theorem ofHashIs {hb : Nat → Nat} {s0 s1 s2 s3 : Nat} (h : Bytes hb) (hs : Words s0 s1 s2 s3) (e : val s0 s1 s2 s3 = hashNum hb 32) : OfHashIs hb s0 s1 s2 s3 := by
  obtain ⟨ww, ev⟩ := words_of_num (hash_lt h)
  obtain ⟨rfl, rfl, rfl, rfl⟩ := val_inj hs ww (e.trans ev.symm)
  exact fun w => ofHash_words hb (wordAt hb) w (gathersOf h)

theorem Tryz.cellsHash : Tryz.prog.cellsOf 25 = 32 := by kernel_rfl
theorem Tryz.cellsByte : Tryz.prog.cellsOf 5 = 1 := by kernel_rfl
end Go.Proofs.YtimjmmiajgfblaaGreatDoor.Bg
