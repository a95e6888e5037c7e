/- Up of the package big, as numbers: times a power of two, what goes beyond 2^256 cut off. -/
import Derived.Test.YtnipajfglmahiaaShift
import Derived.Test.YtnipajfglmahiaaMath
import Derived.Test.YtnipajfglmahiaaDiv64At
namespace Go.Proofs.Ytnipajfglmahiaa
open Go.RowKit

/-- A word moved up by r bits: what stays and what goes beyond. -/
theorem moved_word {a P R : Nat} (pr : P * R = 18446744073709551616) (p0 : 0 < P) (r0 : 0 < R) (ha : a < 18446744073709551616) :
    a * P = a / R * 18446744073709551616 + a * P % 18446744073709551616 ∧ a / R < P ∧ a * P % 18446744073709551616 + P ≤ 18446744073709551616 ∧ a * P % 18446744073709551616 = a % R * P := by
  have e : a * P = a / R * 18446744073709551616 + a % R * P := by
    have h := Nat.div_add_mod a R
    have : (R * (a / R) + a % R) * P = a / R * (P * R) + a % R * P := by
      rw [Nat.add_mul, Nat.mul_comm R (a / R), Nat.mul_assoc, Nat.mul_comm R P]
    rw [h, pr] at this
    exact this
  have lt : (a % R + 1) * P ≤ R * P := Nat.mul_le_mul_right _ (Nat.mod_lt _ r0)
  rw [Nat.mul_comm R P, pr, Nat.add_mul] at lt
  have hm : a * P % 18446744073709551616 = a % R * P := by rw [e]; omega
  refine ⟨by omega, ?_, by omega, hm⟩
  rw [Nat.div_lt_iff_lt_mul r0, pr]; exact ha

theorem wrap_pow (a r : Nat) : IntKind.u64.wrap ((a : Int) * 2 ^ r) = ((a * 2 ^ r % 18446744073709551616 : Nat) : Int) := by
  have h : (a : Int) * 2 ^ r = ((a * 2 ^ r : Nat) : Int) := by rw [Int.natCast_mul, Int.natCast_pow]; rfl
  rw [h, IntKind.wrap_u64]; omega
theorem div_pow (a r : Nat) : (a : Int) / 2 ^ r = ((a / 2 ^ r : Nat) : Int) := by
  rw [Int.natCast_ediv, Int.natCast_pow]; rfl
theorem or_words (x y r : Nat) (hx : x % 2 ^ r = 0) (hx' : x < 18446744073709551616) (hy : y < 2 ^ r) (hy' : y < 18446744073709551616) : bits .or .u64 (x : Int) (y : Int) = ((x + y : Nat) : Int) := by
  have hp : ((2 ^ r : Nat) : Int) = (2 : Int) ^ r := Int.natCast_pow 2 r
  rw [bits_join .u64 64 (by decide) wraps_u64 r (x : Int) (y : Int) (by omega) (by rw [← hp]; omega) (by omega) (by omega) (by rw [← hp]; omega) (by omega)]
  omega

theorem pow_split (r : Nat) (hr : r < 64) : 2 ^ r * 2 ^ (64 - r) = 18446744073709551616 := by
  rw [← Nat.pow_add, show r + (64 - r) = 64 by omega]

/-- The words of a number moved up. -/
def upWord (a0 a1 a2 a3 n : Nat) (i : Nat) : Nat := val a0 a1 a2 a3 * 2 ^ n / 2 ^ (64 * i) % 18446744073709551616

theorem val_mul (a0 a1 a2 a3 P : Nat) : val a0 a1 a2 a3 * P = a0 * P + 18446744073709551616 * (a1 * P + 18446744073709551616 * (a2 * P + 18446744073709551616 * (a3 * P))) := by
  simp only [val, Nat.add_mul, Nat.mul_add, Nat.mul_assoc]

theorem up_any (a0 a1 a2 a3 n : Nat) (ha : Words a0 a1 a2 a3) (hn : n < 256) :
    ∃ s0 s1 s2 s3 : Nat, Words s0 s1 s2 s3 ∧ val s0 s1 s2 s3 = val a0 a1 a2 a3 * 2 ^ n % 115792089237316195423570985008687907853269984665640564039457584007913129639936 ∧
    ∀ w : World, Calls Try.prog 26 #[.agg #[.int .u64 (a0 : Nat), .int .u64 (a1 : Nat), .int .u64 (a2 : Nat), .int .u64 (a3 : Nat)], .int .i64 (n : Nat)] w fun e w' => e = .returned (.agg #[.int .u64 (s0 : Nat), .int .u64 (s1 : Nat), .int .u64 (s2 : Nat), .int .u64 (s3 : Nat)]) ∧ Below w.heap.size w w' := by
  by_cases h0 : n = 0
  · subst h0
    refine ⟨a0, a1, a2, a3, ha, ?_, fun w => up_low a0 a1 a2 a3 _ w (by omega)⟩
    obtain ⟨h0, h1, h2, h3⟩ := ha
    unfold val; omega
  obtain ⟨r, hr⟩ : ∃ r, r = n % 64 := ⟨_, rfl⟩
  have r64 : r < 64 := by omega
  have pr := pow_split r r64
  have p0 : 0 < 2 ^ r := Nat.two_pow_pos r
  have r0 : 0 < 2 ^ (64 - r) := Nat.two_pow_pos _
  obtain ⟨w0, w1, w2, w3⟩ := ha
  obtain ⟨x0, y0, z0, m0⟩ := moved_word pr p0 r0 w0
  obtain ⟨x1, y1, z1, m1⟩ := moved_word pr p0 r0 w1
  obtain ⟨x2, y2, z2, m2⟩ := moved_word pr p0 r0 w2
  obtain ⟨x3, y3, z3, m3⟩ := moved_word pr p0 r0 w3
  have vm := val_mul a0 a1 a2 a3 (2 ^ r)
  have d0 : a0 * 2 ^ r % 18446744073709551616 % 2 ^ r = 0 := by rw [m0]; exact Nat.mul_mod_left _ _
  have d1 : a1 * 2 ^ r % 18446744073709551616 % 2 ^ r = 0 := by rw [m1]; exact Nat.mul_mod_left _ _
  have d2 : a2 * 2 ^ r % 18446744073709551616 % 2 ^ r = 0 := by rw [m2]; exact Nat.mul_mod_left _ _
  have d3 : a3 * 2 ^ r % 18446744073709551616 % 2 ^ r = 0 := by rw [m3]; exact Nat.mul_mod_left _ _
  have e1 : (2 : Nat) ^ 64 = 18446744073709551616 := by decide
  have e2 : (2 : Nat) ^ 128 = 340282366920938463463374607431768211456 := by decide
  have e3 : (2 : Nat) ^ 192 = 6277101735386680763835789423207666416102355444464034512896 := by decide
  have hf : n / 64 = 0 ∨ n / 64 = 1 ∨ n / 64 = 2 ∨ n / 64 = 3 := by omega
  rcases hf with hf | hf | hf | hf
  · have pn : 2 ^ n = 2 ^ r := by rw [show n = r by omega]
    refine ⟨(a0 * 2 ^ r % 18446744073709551616), (a1 * 2 ^ r % 18446744073709551616 + a0 / 2 ^ (64 - r)), (a2 * 2 ^ r % 18446744073709551616 + a1 / 2 ^ (64 - r)), (a3 * 2 ^ r % 18446744073709551616 + a2 / 2 ^ (64 - r)), ⟨by omega, by omega, by omega, by omega⟩, ?_, fun w => up_0 a0 a1 a2 a3 r (a0 * 2 ^ r % 18446744073709551616) (a1 * 2 ^ r % 18446744073709551616) (a1 * 2 ^ r % 18446744073709551616 + a0 / 2 ^ (64 - r)) (a2 * 2 ^ r % 18446744073709551616) (a2 * 2 ^ r % 18446744073709551616 + a1 / 2 ^ (64 - r)) (a3 * 2 ^ r % 18446744073709551616) (a3 * 2 ^ r % 18446744073709551616 + a2 / 2 ^ (64 - r)) (n : Nat) w (by omega) (by omega) (by omega) (by omega) r64 (wrap_pow a0 r) (wrap_pow a1 r) (by rw [div_pow]; exact or_words _ _ r d1 (by omega) y0 (by omega)) (wrap_pow a2 r) (by rw [div_pow]; exact or_words _ _ r d2 (by omega) y1 (by omega)) (wrap_pow a3 r) (by rw [div_pow]; exact or_words _ _ r d3 (by omega) y2 (by omega))⟩
    rw [pn, vm]
    clear vm d0 d1 d2 d3 m0 m1 m2 m3 pn
    unfold val
    omega
  · have pn : 2 ^ n = 2 ^ r * 18446744073709551616 := by rw [show n = r + 64 by omega, Nat.pow_add]
    refine ⟨0, (a0 * 2 ^ r % 18446744073709551616), (a1 * 2 ^ r % 18446744073709551616 + a0 / 2 ^ (64 - r)), (a2 * 2 ^ r % 18446744073709551616 + a1 / 2 ^ (64 - r)), ⟨by omega, by omega, by omega, by omega⟩, ?_, fun w => up_1 a0 a1 a2 a3 r (a0 * 2 ^ r % 18446744073709551616) (a1 * 2 ^ r % 18446744073709551616) (a1 * 2 ^ r % 18446744073709551616 + a0 / 2 ^ (64 - r)) (a2 * 2 ^ r % 18446744073709551616) (a2 * 2 ^ r % 18446744073709551616 + a1 / 2 ^ (64 - r)) (n : Nat) w (by omega) (by omega) (by omega) (by omega) r64 (wrap_pow a0 r) (wrap_pow a1 r) (by rw [div_pow]; exact or_words _ _ r d1 (by omega) y0 (by omega)) (wrap_pow a2 r) (by rw [div_pow]; exact or_words _ _ r d2 (by omega) y1 (by omega))⟩
    rw [pn, ← Nat.mul_assoc, vm]
    clear vm d0 d1 d2 d3 m0 m1 m2 m3 pn
    unfold val
    omega
  · have pn : 2 ^ n = 2 ^ r * 340282366920938463463374607431768211456 := by rw [show n = r + 128 by omega, Nat.pow_add]
    refine ⟨0, 0, (a0 * 2 ^ r % 18446744073709551616), (a1 * 2 ^ r % 18446744073709551616 + a0 / 2 ^ (64 - r)), ⟨by omega, by omega, by omega, by omega⟩, ?_, fun w => up_2 a0 a1 a2 a3 r (a0 * 2 ^ r % 18446744073709551616) (a1 * 2 ^ r % 18446744073709551616) (a1 * 2 ^ r % 18446744073709551616 + a0 / 2 ^ (64 - r)) (n : Nat) w (by omega) (by omega) (by omega) (by omega) r64 (wrap_pow a0 r) (wrap_pow a1 r) (by rw [div_pow]; exact or_words _ _ r d1 (by omega) y0 (by omega))⟩
    rw [pn, ← Nat.mul_assoc, vm]
    clear vm d0 d1 d2 d3 m0 m1 m2 m3 pn
    unfold val
    omega
  · have pn : 2 ^ n = 2 ^ r * 6277101735386680763835789423207666416102355444464034512896 := by rw [show n = r + 192 by omega, Nat.pow_add]
    refine ⟨0, 0, 0, (a0 * 2 ^ r % 18446744073709551616), ⟨by omega, by omega, by omega, by omega⟩, ?_, fun w => up_3 a0 a1 a2 a3 r (a0 * 2 ^ r % 18446744073709551616) (n : Nat) w (by omega) (by omega) (by omega) (by omega) r64 (wrap_pow a0 r)⟩
    rw [pn, ← Nat.mul_assoc, vm]
    clear vm d0 d1 d2 d3 m0 m1 m2 m3 pn
    unfold val
    omega

/-- A word moved down by r bits: what stays, and what goes to the word below. -/
theorem down_word {a P R : Nat} (pr : P * R = 18446744073709551616) (p0 : 0 < P) (r0 : 0 < R) :
    a = a / P * P + a % P ∧ a % P < P ∧ a * R % 18446744073709551616 = a % P * R := by
  have h := Nat.div_add_mod a P
  rw [Nat.mul_comm P] at h
  have m := Nat.mod_lt a p0
  refine ⟨h.symm, m, ?_⟩
  have e : a * R = a / P * 18446744073709551616 + a % P * R := by
    have : (a / P * P + a % P) * R = a / P * (P * R) + a % P * R := by rw [Nat.add_mul, Nat.mul_assoc]
    rw [h, pr] at this; exact this
  have lt : (a % P + 1) * R ≤ P * R := Nat.mul_le_mul_right _ m
  rw [pr, Nat.add_mul] at lt
  rw [e]; omega

theorem wrap_pow' (a r : Nat) : IntKind.u64.wrap ((a : Int) * 2 ^ (64 - r)) = ((a * 2 ^ (64 - r) % 18446744073709551616 : Nat) : Int) := wrap_pow a (64 - r)
theorem or_words' (x y r : Nat) (hx : x < 2 ^ (64 - r)) (hx' : x < 18446744073709551616) (hy : y % 2 ^ (64 - r) = 0) (hy' : y < 18446744073709551616) : bits .or .u64 (x : Int) (y : Int) = ((x + y : Nat) : Int) := by
  have hp : ((2 ^ (64 - r) : Nat) : Int) = (2 : Int) ^ (64 - r) := Int.natCast_pow 2 (64 - r)
  rw [bits_join_low .u64 64 (by decide) wraps_u64 (64 - r) (x : Int) (y : Int) (by omega) (by rw [← hp]; omega) (by omega) (by omega) (by rw [← hp]; omega) (by omega)]
  omega

/-- A number out of the words of its quotient and a rest. -/
theorem div_of (V D P q : Nat) (h : V = q * P + D) (hD : D < P) : V / P = q := by
  rw [h, Nat.mul_comm, Nat.mul_add_div (by omega), Nat.div_eq_of_lt hD]; rfl

theorem down_any (a0 a1 a2 a3 n : Nat) (ha : Words a0 a1 a2 a3) (hn : n < 256) :
    ∃ s0 s1 s2 s3 : Nat, Words s0 s1 s2 s3 ∧ val s0 s1 s2 s3 = val a0 a1 a2 a3 / 2 ^ n ∧
    ∀ w : World, Calls Try.prog 27 #[.agg #[.int .u64 (a0 : Nat), .int .u64 (a1 : Nat), .int .u64 (a2 : Nat), .int .u64 (a3 : Nat)], .int .i64 (n : Nat)] w fun e w' => e = .returned (.agg #[.int .u64 (s0 : Nat), .int .u64 (s1 : Nat), .int .u64 (s2 : Nat), .int .u64 (s3 : Nat)]) ∧ Below w.heap.size w w' := by
  by_cases h0 : n = 0
  · subst h0
    exact ⟨a0, a1, a2, a3, ha, by rw [Nat.pow_zero, Nat.div_one], fun w => down_low a0 a1 a2 a3 _ w (by omega)⟩
  obtain ⟨r, hr⟩ : ∃ r, r = n % 64 := ⟨_, rfl⟩
  have r64 : r < 64 := by omega
  have pr := pow_split r r64
  have p0 : 0 < 2 ^ r := Nat.two_pow_pos r
  have r0 : 0 < 2 ^ (64 - r) := Nat.two_pow_pos _
  obtain ⟨w0, w1, w2, w3⟩ := ha
  obtain ⟨x0, y0, z0⟩ := @down_word a0 _ _ pr p0 r0
  obtain ⟨x1, y1, z1⟩ := @down_word a1 _ _ pr p0 r0
  obtain ⟨x2, y2, z2⟩ := @down_word a2 _ _ pr p0 r0
  obtain ⟨x3, y3, z3⟩ := @down_word a3 _ _ pr p0 r0
  have k0 : a0 / 2 ^ r < 2 ^ (64 - r) := by rw [Nat.div_lt_iff_lt_mul p0, Nat.mul_comm, pr]; exact w0
  have k1 : a1 / 2 ^ r < 2 ^ (64 - r) := by rw [Nat.div_lt_iff_lt_mul p0, Nat.mul_comm, pr]; exact w1
  have k2 : a2 / 2 ^ r < 2 ^ (64 - r) := by rw [Nat.div_lt_iff_lt_mul p0, Nat.mul_comm, pr]; exact w2
  have k3 : a3 / 2 ^ r < 2 ^ (64 - r) := by rw [Nat.div_lt_iff_lt_mul p0, Nat.mul_comm, pr]; exact w3
  have hh : ∀ a, a % 2 ^ r * 2 ^ (64 - r) + 2 ^ (64 - r) ≤ 18446744073709551616 := fun a => by
    have : (a % 2 ^ r + 1) * 2 ^ (64 - r) ≤ 2 ^ r * 2 ^ (64 - r) := Nat.mul_le_mul_right _ (Nat.mod_lt _ p0)
    rw [pr, Nat.add_mul] at this; omega
  have g1 := hh a1
  have g2 := hh a2
  have g3 := hh a3
  have d1 : a1 * 2 ^ (64 - r) % 18446744073709551616 % 2 ^ (64 - r) = 0 := by rw [z1]; exact Nat.mul_mod_left _ _
  have d2 : a2 * 2 ^ (64 - r) % 18446744073709551616 % 2 ^ (64 - r) = 0 := by rw [z2]; exact Nat.mul_mod_left _ _
  have d3 : a3 * 2 ^ (64 - r) % 18446744073709551616 % 2 ^ (64 - r) = 0 := by rw [z3]; exact Nat.mul_mod_left _ _
  have mm : ∀ a, a % 2 ^ r * 2 ^ (64 - r) * 2 ^ r = a % 2 ^ r * 18446744073709551616 := fun a => by rw [Nat.mul_assoc, Nat.mul_comm (2 ^ (64 - r)), pr]
  have q1 := mm a1
  have q2 := mm a2
  have q3 := mm a3
  clear mm hh
  have hf : n / 64 = 0 ∨ n / 64 = 1 ∨ n / 64 = 2 ∨ n / 64 = 3 := by omega
  rcases hf with hf | hf | hf | hf
  · have pn : 2 ^ n = 2 ^ r := by rw [show n = r by omega]
    refine ⟨(a0 / 2 ^ r + a1 * 2 ^ (64 - r) % 18446744073709551616), (a1 / 2 ^ r + a2 * 2 ^ (64 - r) % 18446744073709551616), (a2 / 2 ^ r + a3 * 2 ^ (64 - r) % 18446744073709551616), (a3 / 2 ^ r), ⟨by omega, by omega, by omega, by omega⟩, ?_, fun w => down_0 a0 a1 a2 a3 r (a0 / 2 ^ r) (a1 * 2 ^ (64 - r) % 18446744073709551616) (a0 / 2 ^ r + a1 * 2 ^ (64 - r) % 18446744073709551616) (a1 / 2 ^ r) (a2 * 2 ^ (64 - r) % 18446744073709551616) (a1 / 2 ^ r + a2 * 2 ^ (64 - r) % 18446744073709551616) (a2 / 2 ^ r) (a3 * 2 ^ (64 - r) % 18446744073709551616) (a2 / 2 ^ r + a3 * 2 ^ (64 - r) % 18446744073709551616) (a3 / 2 ^ r) (n : Nat) w (by omega) (by omega) (by omega) (by omega) r64 (div_pow a0 r) (wrap_pow' a1 r) (or_words' _ _ r k0 (by omega) d1 (by omega)) (div_pow a1 r) (wrap_pow' a2 r) (or_words' _ _ r k1 (by omega) d2 (by omega)) (div_pow a2 r) (wrap_pow' a3 r) (or_words' _ _ r k2 (by omega) d3 (by omega)) (div_pow a3 r)⟩
    rw [pn]
    refine (div_of _ (a0 % 2 ^ r) _ _ ?_ (by omega)).symm
    rw [val_mul]
    simp only [Nat.add_mul, z1, z2, z3]
    clear d1 d2 d3 z0 z1 z2 z3 pn
    unfold val
    omega
  · have pn : 2 ^ n = 2 ^ r * 18446744073709551616 := by rw [show n = r + 64 by omega, Nat.pow_add]
    refine ⟨(a1 / 2 ^ r + a2 * 2 ^ (64 - r) % 18446744073709551616), (a2 / 2 ^ r + a3 * 2 ^ (64 - r) % 18446744073709551616), (a3 / 2 ^ r), 0, ⟨by omega, by omega, by omega, by omega⟩, ?_, fun w => down_1 a0 a1 a2 a3 r (a1 / 2 ^ r) (a2 * 2 ^ (64 - r) % 18446744073709551616) (a1 / 2 ^ r + a2 * 2 ^ (64 - r) % 18446744073709551616) (a2 / 2 ^ r) (a3 * 2 ^ (64 - r) % 18446744073709551616) (a2 / 2 ^ r + a3 * 2 ^ (64 - r) % 18446744073709551616) (a3 / 2 ^ r) (n : Nat) w (by omega) (by omega) (by omega) (by omega) r64 (div_pow a1 r) (wrap_pow' a2 r) (or_words' _ _ r k1 (by omega) d2 (by omega)) (div_pow a2 r) (wrap_pow' a3 r) (or_words' _ _ r k2 (by omega) d3 (by omega)) (div_pow a3 r)⟩
    rw [pn]
    refine (div_of _ (a0 + 18446744073709551616 * (a1 % 2 ^ r)) _ _ ?_ (by omega)).symm
    rw [← Nat.mul_assoc, val_mul]
    simp only [Nat.add_mul, z1, z2, z3]
    clear d1 d2 d3 z0 z1 z2 z3 pn
    unfold val
    omega
  · have pn : 2 ^ n = 2 ^ r * 340282366920938463463374607431768211456 := by rw [show n = r + 128 by omega, Nat.pow_add]
    refine ⟨(a2 / 2 ^ r + a3 * 2 ^ (64 - r) % 18446744073709551616), (a3 / 2 ^ r), 0, 0, ⟨by omega, by omega, by omega, by omega⟩, ?_, fun w => down_2 a0 a1 a2 a3 r (a2 / 2 ^ r) (a3 * 2 ^ (64 - r) % 18446744073709551616) (a2 / 2 ^ r + a3 * 2 ^ (64 - r) % 18446744073709551616) (a3 / 2 ^ r) (n : Nat) w (by omega) (by omega) (by omega) (by omega) r64 (div_pow a2 r) (wrap_pow' a3 r) (or_words' _ _ r k2 (by omega) d3 (by omega)) (div_pow a3 r)⟩
    rw [pn]
    refine (div_of _ ((a0 + 18446744073709551616 * a1) + 340282366920938463463374607431768211456 * (a2 % 2 ^ r)) _ _ ?_ (by omega)).symm
    rw [← Nat.mul_assoc, val_mul]
    simp only [Nat.add_mul, z1, z2, z3]
    clear d1 d2 d3 z0 z1 z2 z3 pn
    unfold val
    omega
  · have pn : 2 ^ n = 2 ^ r * 6277101735386680763835789423207666416102355444464034512896 := by rw [show n = r + 192 by omega, Nat.pow_add]
    refine ⟨(a3 / 2 ^ r), 0, 0, 0, ⟨by omega, by omega, by omega, by omega⟩, ?_, fun w => down_3 a0 a1 a2 a3 r (a3 / 2 ^ r) (n : Nat) w (by omega) (by omega) (by omega) (by omega) r64 (div_pow a3 r)⟩
    rw [pn]
    refine (div_of _ ((a0 + 18446744073709551616 * (a1 + 18446744073709551616 * a2)) + 6277101735386680763835789423207666416102355444464034512896 * (a3 % 2 ^ r)) _ _ ?_ (by omega)).symm
    rw [← Nat.mul_assoc, val_mul]
    simp only [Nat.add_mul, z1, z2, z3]
    clear d1 d2 d3 z0 z1 z2 z3 pn
    unfold val
    omega

end Go.Proofs.Ytnipajfglmahiaa
