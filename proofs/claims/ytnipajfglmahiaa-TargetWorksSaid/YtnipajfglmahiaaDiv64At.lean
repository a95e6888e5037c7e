/- math/bits.Div64 at every two words and divisor, the high word below the divisor: the quotient and the rest. -/
import Derived.Test.YtnipajfglmahiaaDiv64Math
namespace Go.Proofs.Ytnipajfglmahiaa
open Go.RowKit

/-- The numbers of the division of hi, lo by y, moved up by s bits: P is 2^s, R is 2^(64-s). -/
structure Moved (hi lo y P R : Nat) : Prop where
  pr : P * R = 18446744073709551616
  top0 : 0 < hi
  topy : hi < y
  yl : y * P < 18446744073709551616
  yh : 9223372036854775808 ≤ y * P
  lows : lo < 18446744073709551616
  p0 : 0 < P
  r0 : 0 < R

theorem Moved.ul {hi lo y P R : Nat} (m : Moved hi lo y P R) : lo / R < P := by
  rw [Nat.div_lt_iff_lt_mul m.r0, m.pr]; exact m.lows
theorem Moved.low {hi lo y P R : Nat} (m : Moved hi lo y P R) : lo * P % 18446744073709551616 = lo % R * P ∧ lo * P = lo / R * 18446744073709551616 + lo % R * P := by
  have e : lo * P = lo / R * 18446744073709551616 + lo % R * P := by
    have h := Nat.div_add_mod lo R
    have : (R * (lo / R) + lo % R) * P = lo / R * (P * R) + lo % R * P := by
      rw [Nat.add_mul, Nat.mul_comm R (lo / R), Nat.mul_assoc, Nat.mul_comm R P]
    rw [h, m.pr] at this
    exact this
  have lt : lo % R * P < 18446744073709551616 := by
    rw [← m.pr, Nat.mul_comm P R]
    exact Nat.mul_lt_mul_of_pos_right (Nat.mod_lt _ m.r0) m.p0
  refine ⟨?_, e⟩
  rw [e]; omega
theorem Moved.num {hi lo y P R : Nat} (m : Moved hi lo y P R) : (hi * 18446744073709551616 + lo) * P = (hi * P + lo / R) * 18446744073709551616 + lo % R * P := by
  rw [Nat.add_mul, m.low.2, Nat.mul_right_comm]; omega
theorem Moved.top {hi lo y P R : Nat} (m : Moved hi lo y P R) : hi * P + lo / R < y * P := by
  have h1 : (hi * 18446744073709551616 + lo) * P < y * 18446744073709551616 * P := by
    apply Nat.mul_lt_mul_of_pos_right _ m.p0
    have := m.topy; have := m.lows
    have : (hi + 1) * 18446744073709551616 ≤ y * 18446744073709551616 := Nat.mul_le_mul_right _ m.topy
    omega
  rw [m.num, Nat.mul_right_comm] at h1
  omega

/-- The two digits, put together. -/
theorem Moved.done {hi lo y P R d1 d0 z u21 u1 u0 : Nat} (m : Moved hi lo y P R) (h1 : (hi * P + lo / R) * 4294967296 + u1 = d1 * (y * P) + u21) (h0 : u21 * 4294967296 + u0 = d0 * (y * P) + z) (hz : z < y * P)
    (hu : lo % R * P = u1 * 4294967296 + u0) :
    d1 * 4294967296 + d0 = (hi * 18446744073709551616 + lo) / y ∧ z / P = (hi * 18446744073709551616 + lo) % y := by
  have n := m.num
  have hP := m.p0
  rw [hu] at n
  obtain ⟨v, hv⟩ : ∃ v, v = y * P := ⟨_, rfl⟩
  obtain ⟨N, hN⟩ : ∃ N, N = hi * 18446744073709551616 + lo := ⟨_, rfl⟩
  obtain ⟨q, hq⟩ : ∃ q, q = d1 * 4294967296 + d0 := ⟨_, rfl⟩
  rw [← hv] at h1 h0 hz
  rw [← hN] at n ⊢
  rw [← hq]
  have ex : q * v = d1 * v * 4294967296 + d0 * v := by rw [hq, Nat.add_mul, Nat.mul_right_comm]
  have e : N * P = q * v + z := by omega
  have e2 : N * P = q * y * P + z := by rw [e, hv, Nat.mul_assoc]
  have zr : z = (N - q * y) * P := by rw [Nat.sub_mul]; omega
  have le : q * y ≤ N := Nat.le_of_mul_le_mul_right (by omega) hP
  have lt : N - q * y < y := Nat.lt_of_mul_lt_mul_right (a := P) (by rw [← zr, ← hv]; exact hz)
  obtain ⟨r, hr⟩ : ∃ r, r = N - q * y := ⟨_, rfl⟩
  have nr : N = y * q + r := by rw [Nat.mul_comm y q]; omega
  rw [← hr] at zr lt
  rw [zr, Nat.mul_div_cancel _ hP, nr]
  exact ⟨by rw [Nat.mul_add_div (by omega), Nat.div_eq_of_lt lt]; rfl, by rw [Nat.mul_add_mod, Nat.mod_eq_of_lt lt]⟩

theorem moved_of {hi lo y s : Nat} (h1 : 0 < hi) (h2 : hi < y) (hy : y < 18446744073709551616) (hl : lo < 18446744073709551616) (hs : s = 64 - Lib.bitLen y) : Moved hi lo y (2 ^ s) (2 ^ (64 - s)) ∧ s < 64 := by
  obtain ⟨L1, L2, L3⟩ := (bitLen_of y hy).2 (by omega)
  have L4 := bitLen_le64 y hy
  have e64 : (2 : Nat) ^ 64 = 18446744073709551616 := by decide
  have e63 : (2 : Nat) ^ 63 = 9223372036854775808 := by decide
  have p0 : 0 < 2 ^ s := Nat.two_pow_pos s
  refine ⟨⟨?_, h1, h2, ?_, ?_, hl, p0, Nat.two_pow_pos _⟩, by omega⟩
  · rw [← Nat.pow_add, show s + (64 - s) = 64 by omega, e64]
  · have : y * 2 ^ s < 2 ^ Lib.bitLen y * 2 ^ s := Nat.mul_lt_mul_of_pos_right L3 p0
    rw [← Nat.pow_add, show Lib.bitLen y + s = 64 by omega, e64] at this
    exact this
  · have : 2 ^ (Lib.bitLen y - 1) * 2 ^ s ≤ y * 2 ^ s := Nat.mul_le_mul_right _ L2
    rw [← Nat.pow_add, show Lib.bitLen y - 1 + s = 63 by omega, e63] at this
    exact this

theorem and_low (v : Nat) (h : v < 18446744073709551616) : bits .and .u64 (v : Int) 4294967295 = ((v % 4294967296 : Nat) : Int) := by
  have := u64_and_nat v 4294967295 h (by omega)
  rw [show (4294967295 : Nat) = 2 ^ 32 - 1 by decide, Nat.and_two_pow_sub_one_eq_mod] at this
  exact this

theorem div64_hi (hi lo y : Nat) (w : World) (h1 : 0 < hi) (h2 : hi < y) (hy : y < 18446744073709551616) (hl : lo < 18446744073709551616) :
    Calls Try.prog 44 #[.int .u64 (hi : Nat), .int .u64 (lo : Nat), .int .u64 (y : Nat)] w fun e w' =>
      e = .returned (.tuple #[.int .u64 (((hi * 18446744073709551616 + lo) / y : Nat) : Int), .int .u64 (((hi * 18446744073709551616 + lo) % y : Nat) : Int)]) ∧ w' = w := by
  obtain ⟨s, hs⟩ : ∃ s, s = 64 - Lib.bitLen y := ⟨_, rfl⟩
  obtain ⟨m, s64⟩ := moved_of h1 h2 hy hl hs
  have L4 := bitLen_le64 y hy
  have hz : LzIs y s := fun w => by
    have h := Try.bits_LeadingZeros64 (y : Int) w (by omega) (by omega)
    rw [Int.toNat_natCast] at h
    refine h.mono fun e w' ⟨he, hw⟩ => ⟨?_, hw⟩
    rw [he, hs, show ((64 - Lib.bitLen y : Nat) : Int) = 64 - (Lib.bitLen y : Int) by omega]
  have ul := m.ul
  have top := m.top
  obtain ⟨low1, low2⟩ := m.low
  have yl := m.yl
  have yh := m.yh
  have p0 := m.p0
  obtain ⟨v, hv⟩ : ∃ v, v = y * 2 ^ s := ⟨_, rfl⟩
  obtain ⟨uh, huh⟩ : ∃ u, u = hi * 2 ^ s := ⟨_, rfl⟩
  obtain ⟨l, hl'⟩ : ∃ l, l = lo / 2 ^ (64 - s) := ⟨_, rfl⟩
  obtain ⟨u, hu⟩ : ∃ u, u = uh + l := ⟨_, rfl⟩
  obtain ⟨u10, hu10⟩ : ∃ x, x = lo % 2 ^ (64 - s) * 2 ^ s := ⟨_, rfl⟩
  have u10lt : u10 < 18446744073709551616 := by omega
  have dn := fun d1 d0 z u21 u1 u0 => @Moved.done hi lo y (2 ^ s) (2 ^ (64 - s)) d1 d0 z u21 u1 u0 m
  simp only [← hv, ← huh, ← hl', ← hu, ← hu10] at dn yl yh top ul low1 low2
  have V10 : 0 < v / 4294967296 := by omega
  obtain ⟨q1, hq1⟩ : ∃ q, q = u / (v / 4294967296) := ⟨_, rfl⟩
  have hq1m : q1 * (v / 4294967296) ≤ u := by rw [hq1]; exact Nat.div_mul_le_self _ _
  obtain ⟨D1, hD1⟩ : ∃ d, d = (u * 4294967296 + u10 / 4294967296) / v := ⟨_, rfl⟩
  obtain ⟨u21, hu21⟩ : ∃ d, d = (u * 4294967296 + u10 / 4294967296) % v := ⟨_, rfl⟩
  have E1 : u * 4294967296 + u10 / 4294967296 = D1 * v + u21 := by rw [hD1, hu21, Nat.mul_comm _ v]; exact (Nat.div_add_mod _ _).symm
  have u21lt : u21 < v := by rw [hu21]; exact Nat.mod_lt _ (by omega)
  obtain ⟨p1, hp1⟩ : ∃ q, q = u21 / (v / 4294967296) := ⟨_, rfl⟩
  have hp1m : p1 * (v / 4294967296) ≤ u21 := by rw [hp1]; exact Nat.div_mul_le_self _ _
  obtain ⟨D0, hD0⟩ : ∃ d, d = (u21 * 4294967296 + u10 % 4294967296) / v := ⟨_, rfl⟩
  obtain ⟨z, hz'⟩ : ∃ d, d = (u21 * 4294967296 + u10 % 4294967296) % v := ⟨_, rfl⟩
  have E0 : u21 * 4294967296 + u10 % 4294967296 = D0 * v + z := by rw [hD0, hz', Nat.mul_comm _ v]; exact (Nat.div_add_mod _ _).symm
  have zlt : z < v := by rw [hz']; exact Nat.mod_lt _ (by omega)
  have D1lt : D1 < 4294967296 := by rw [hD1, Nat.div_lt_iff_lt_mul (by omega)]; omega
  have D0lt : D0 < 4294967296 := by rw [hD0, Nat.div_lt_iff_lt_mul (by omega)]; omega
  obtain ⟨f1, f2⟩ := dn D1 D0 z u21 (u10 / 4294967296) (u10 % 4294967296) E1 E0 zlt (by omega)
  have ev : ((v / 4294967296 : Nat) : Int) * 4294967296 + ((v % 4294967296 : Nat) : Int) = (v : Int) := by omega
  have I1 := dig_start u (v / 4294967296 : Nat) (v % 4294967296 : Nat) (u10 / 4294967296 : Nat) (by omega) (by omega) (by omega) (by omega) (by omega) (by omega) (by omega) (by omega)
  have C1 := dig_corrects u (v / 4294967296 : Nat) (v % 4294967296 : Nat) (u10 / 4294967296 : Nat) (by omega) (by omega) (by omega) (by omega) (by omega) (by omega) (by omega) (by omega)
  have I0 := dig_start u21 (v / 4294967296 : Nat) (v % 4294967296 : Nat) (u10 % 4294967296 : Nat) (by omega) (by omega) (by omega) (by omega) (by omega) (by omega) (by omega) (by omega)
  have C0 := dig_corrects u21 (v / 4294967296 : Nat) (v % 4294967296 : Nat) (u10 % 4294967296 : Nat) (by omega) (by omega) (by omega) (by omega) (by omega) (by omega) (by omega) (by omega)
  have i1 : (((u : Int) * 4294967296 + ((u10 / 4294967296 : Nat) : Int)) / (v : Int)) = (D1 : Int) := by
    rw [hD1, show (u : Int) * 4294967296 + ((u10 / 4294967296 : Nat) : Int) = ((u * 4294967296 + u10 / 4294967296 : Nat) : Int) by omega]
    exact (Int.natCast_ediv _ _).symm
  have i0 : (((u21 : Int) * 4294967296 + ((u10 % 4294967296 : Nat) : Int)) / (v : Int)) = (D0 : Int) := by
    rw [hD0, show (u21 : Int) * 4294967296 + ((u10 % 4294967296 : Nat) : Int) = ((u21 * 4294967296 + u10 % 4294967296 : Nat) : Int) by omega]
    exact (Int.natCast_ediv _ _).symm
  rw [ev] at I1 C1 I0 C0
  rw [i1] at C1
  rw [i0] at C0
  have walk := div64_walk hi lo y s v (v / 4294967296) (v % 4294967296) uh l u u10 (u10 / 4294967296) (u10 % 4294967296) (q1 * (v / 4294967296))
    (u * 4294967296 % 18446744073709551616) ((u * 4294967296 % 18446744073709551616 + u10 / 4294967296) % 18446744073709551616) (D1 * v % 18446744073709551616) u21 (p1 * (v / 4294967296))
    (D1 * 4294967296) (u21 * 4294967296 % 18446744073709551616) ((u21 * 4294967296 % 18446744073709551616 + u10 % 4294967296) % 18446744073709551616) (D0 * v % 18446744073709551616) z (D1 * 4294967296 + D0) (z / 2 ^ s)
    ((u : Int) / ((v / 4294967296 : Nat) : Int)) ((u : Int) - (u : Int) / ((v / 4294967296 : Nat) : Int) * ((v / 4294967296 : Nat) : Int)) ((u21 : Int) / ((v / 4294967296 : Nat) : Int)) ((u21 : Int) - (u21 : Int) / ((v / 4294967296 : Nat) : Int) * ((v / 4294967296 : Nat) : Int)) (D1 : Int) (D0 : Int) w
    (Dig u v (v / 4294967296 : Nat) (u10 / 4294967296 : Nat)) (Dig u21 v (v / 4294967296 : Nat) (u10 % 4294967296 : Nat)) s64 hz h2 h1 V10 (by omega) (by omega) (by omega) (by omega)
    ?V ?V1 ?V0 ?UH ?UL ?U32 ?U10 ?U1 ?U0 ?Q ?QM ?R I1 C1 ?X1 ?X2 ?X3 ?U21 ?P ?P' ?PM ?T I0 C0 (by omega) (by omega) ?Z1 ?QUO ?Z2 ?Z3 ?Z4 ?Z5 ?REM
  · rw [← f1, ← f2]; exact walk
  all_goals clear dn C1 C0 I1 I0 f1 f2
  case V =>
    have h : (y : Int) * 2 ^ s = (v : Int) := by rw [hv, Int.natCast_mul, Int.natCast_pow]; rfl
    rw [h]; exact wrap_u64 v yl
  case V1 => omega
  case V0 => exact and_low v yl
  case UH =>
    have h : (hi : Int) * 2 ^ s = (uh : Int) := by rw [huh, Int.natCast_mul, Int.natCast_pow]; rfl
    rw [h]; exact wrap_u64 uh (by omega)
  case UL => rw [hl', Int.natCast_ediv, Int.natCast_pow]; rfl
  case U32 =>
    have h : (hi : Int) * 2 ^ s = (uh : Int) := by rw [huh, Int.natCast_mul, Int.natCast_pow]; rfl
    have hp : ((2 ^ s : Nat) : Int) = (2 : Int) ^ s := Int.natCast_pow 2 s
    rw [bits_join .u64 64 (by decide) wraps_u64 s (uh : Int) (l : Int) (by omega) (by rw [← h]; exact Int.mul_emod_left _ _) (by omega) (by omega) (by rw [← hp]; omega) (by omega)]
    omega
  case U10 =>
    have h : (lo : Int) * 2 ^ s = ((lo * 2 ^ s : Nat) : Int) := by rw [Int.natCast_mul, Int.natCast_pow]; rfl
    rw [h, IntKind.wrap_u64]; omega
  case U1 => omega
  case U0 => exact and_low u10 u10lt
  case Q => exact IntWalk.u64_in _ ⟨Int.ediv_nonneg (by omega) (by omega), by have := Int.ediv_le_self ((v / 4294967296 : Nat) : Int) (show (0 : Int) ≤ (u : Int) by omega); omega⟩
  case QM =>
    have h : (u : Int) / ((v / 4294967296 : Nat) : Int) = (q1 : Int) := by rw [hq1]; exact (Int.natCast_ediv u (v / 4294967296)).symm
    rw [h]; exact wrap_mul q1 _ (by omega)
  case R =>
    have h : (u : Int) / ((v / 4294967296 : Nat) : Int) = (q1 : Int) := by rw [hq1]; exact (Int.natCast_ediv u (v / 4294967296)).symm
    rw [h, ← Int.natCast_mul]
    exact IntWalk.u64_in _ ⟨by omega, by omega⟩
  case P => exact IntWalk.u64_in _ ⟨Int.ediv_nonneg (by omega) (by omega), by have := Int.ediv_le_self ((v / 4294967296 : Nat) : Int) (show (0 : Int) ≤ (u21 : Int) by omega); omega⟩
  case P' =>
    rw [Int.tdiv_eq_ediv_of_nonneg (by omega)]
    exact IntWalk.u64_in _ ⟨Int.ediv_nonneg (by omega) (by omega), by have := Int.ediv_le_self ((v / 4294967296 : Nat) : Int) (show (0 : Int) ≤ (u21 : Int) by omega); omega⟩
  case PM =>
    have h : (u21 : Int) / ((v / 4294967296 : Nat) : Int) = (p1 : Int) := by rw [hp1]; exact (Int.natCast_ediv u21 (v / 4294967296)).symm
    rw [h]; exact wrap_mul p1 _ (by omega)
  case T =>
    have h : (u21 : Int) / ((v / 4294967296 : Nat) : Int) = (p1 : Int) := by rw [hp1]; exact (Int.natCast_ediv u21 (v / 4294967296)).symm
    rw [h, ← Int.natCast_mul]
    exact IntWalk.u64_in _ ⟨by omega, by omega⟩
  case X3 => rw [IntKind.wrap_u64, ← Int.natCast_mul]; omega
  case Z4 => rw [IntKind.wrap_u64, ← Int.natCast_mul]; omega
  case REM => rw [Int.natCast_ediv, Int.natCast_pow]; rfl
  all_goals (rw [IntKind.wrap_u64]; omega)

end Go.Proofs.Ytnipajfglmahiaa
