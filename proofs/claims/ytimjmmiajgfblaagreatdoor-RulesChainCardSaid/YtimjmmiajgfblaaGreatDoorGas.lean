/- The arithmetic of a division of two words by one: a digit of the quotient, guessed and corrected, and the two digits put together. -/
import Derived.Test.YtimjmmiajgfblaaGreatDoorQDiv64
import Derived.Test.YtimjmmiajgfblaaGreatDoorQMath
import Derived.Laws.BitsAllLaws
import Derived.Lib.EndianBits
import Derived.Test.YtimjmmiajgfblaaGreatDoorGan

namespace Go.Proofs.YtimjmmiajgfblaaGreatDoor.Bg
set_option maxRecDepth 100000
open Go.RowKit

/-- A digit q that is not below the true one, and the rest r of the guess. -/
def Dig (u v v1 u1 q r : Int) : Prop := 0 ≤ q ∧ 0 ≤ r ∧ q * v1 + r = u ∧ (u * 4294967296 + u1) / v ≤ q ∧ q ≤ 4294967297 ∧ r < 4294967296

theorem mul_split (q v1 v0 : Int) : q * (v1 * 4294967296 + v0) = (q * v1) * 4294967296 + q * v0 := by
  rw [Int.mul_add, Int.mul_assoc]

theorem floor_spec (U v : Int) (hv : 0 < v) : U / v * v ≤ U ∧ U < U / v * v + v := by
  have h := Int.ediv_mul_add_emod U v
  have a := Int.emod_nonneg U (show v ≠ 0 by omega)
  have b := Int.emod_lt_of_pos U hv
  omega
theorem floor_uniq (U v q : Int) (hv : 0 < v) (h1 : q * v ≤ U) (h2 : U < q * v + v) : U / v = q := by
  obtain ⟨a, b⟩ := floor_spec U v hv
  have x : U / v < q + 1 := Int.lt_of_mul_lt_mul_right (a := v) (by rw [Int.add_mul]; omega) (by omega)
  have y : q < U / v + 1 := Int.lt_of_mul_lt_mul_right (a := v) (by rw [Int.add_mul]; omega) (by omega)
  omega

theorem dig_corrects (u v1 v0 u1 : Int) (hv0 : 0 ≤ v0) (hv0' : v0 < 4294967296) (hv1 : 2147483648 ≤ v1) (hv1' : v1 < 4294967296) (hu : 0 ≤ u) (hu' : u < v1 * 4294967296 + v0) (hu1 : 0 ≤ u1) (hu1' : u1 < 4294967296) :
    Corrects (Dig u (v1 * 4294967296 + v0) v1 u1) v1 v0 u1 ((u * 4294967296 + u1) / (v1 * 4294967296 + v0)) := by
  have hv : 0 < v1 * 4294967296 + v0 := by omega
  obtain ⟨d1, d2⟩ := floor_spec (u * 4294967296 + u1) (v1 * 4294967296 + v0) hv
  generalize hd : (u * 4294967296 + u1) / (v1 * 4294967296 + v0) = d at *
  refine ⟨?_, ?_, ?_⟩
  · rintro q r ⟨a, b, c, e, f, g⟩; exact ⟨b, g, a, f⟩
  · rintro q r ⟨a, b, c, e, f, g⟩ ht
    rw [hd] at e
    have sp := mul_split q v1 v0
    have lt : d < q := by
      rcases ht with ht | ht
      · have : d < 4294967296 := Int.lt_of_mul_lt_mul_right (a := v1 * 4294967296 + v0) (by omega) (by omega)
        omega
      · exact Int.lt_of_mul_lt_mul_right (a := v1 * 4294967296 + v0) (by rw [sp]; omega) (by omega)
    have q0 : 0 ≤ d := by rw [← hd]; exact Int.ediv_nonneg (by omega) (by omega)
    refine ⟨by omega, fun hr => ⟨by omega, by omega, by rw [Int.sub_mul]; omega, by rw [hd]; omega, by omega, hr⟩, fun hr => ?_⟩
    have sp' := mul_split (q - 1) v1 v0
    have e1 : (q - 1) * v1 = u - (r + v1) := by rw [Int.sub_mul]; omega
    have e2 : (q - 1) * v0 ≤ 4294967296 * 4294967295 := Int.le_trans (Int.mul_le_mul_of_nonneg_right (show q - 1 ≤ 4294967296 by omega) hv0) (Int.mul_le_mul_of_nonneg_left (by omega) (by omega))
    have : q - 1 < d + 1 := Int.lt_of_mul_lt_mul_right (a := v1 * 4294967296 + v0) (by rw [sp', Int.add_mul, e1]; omega) (by omega)
    omega
  · rintro q r ⟨a, b, c, e, f, g⟩ hq ht
    rw [hd] at e
    have sp := mul_split q v1 v0
    have : q < d + 1 := Int.lt_of_mul_lt_mul_right (a := v1 * 4294967296 + v0) (by rw [sp, Int.add_mul]; omega) (by omega)
    omega

theorem dig_start (u v1 v0 u1 : Int) (hv0 : 0 ≤ v0) (hv0' : v0 < 4294967296) (hv1 : 2147483648 ≤ v1) (hv1' : v1 < 4294967296) (hu : 0 ≤ u) (hu' : u < v1 * 4294967296 + v0) (hu1 : 0 ≤ u1) (hu1' : u1 < 4294967296) :
    Dig u (v1 * 4294967296 + v0) v1 u1 (u / v1) (u - u / v1 * v1) := by
  have hv : 0 < v1 * 4294967296 + v0 := by omega
  obtain ⟨d1, d2⟩ := floor_spec (u * 4294967296 + u1) (v1 * 4294967296 + v0) hv
  obtain ⟨e1, e2⟩ := floor_spec u v1 (by omega)
  have q0 : 0 ≤ u / v1 := Int.ediv_nonneg hu (by omega)
  have D0 : 0 ≤ (u * 4294967296 + u1) / (v1 * 4294967296 + v0) := Int.ediv_nonneg (by omega) (by omega)
  refine ⟨q0, by omega, by omega, ?_, ?_, by omega⟩
  · generalize (u * 4294967296 + u1) / (v1 * 4294967296 + v0) = d at *
    have sp := mul_split d v1 v0
    have nn : 0 ≤ d * v0 := Int.mul_nonneg D0 hv0
    have : d < u / v1 + 1 := Int.lt_of_mul_lt_mul_right (a := v1) (by rw [Int.add_mul]; omega) (by omega)
    omega
  · have : u / v1 < 4294967298 := Int.lt_of_mul_lt_mul_right (a := v1) (by omega) (by omega)
    omega

end Go.Proofs.YtimjmmiajgfblaaGreatDoor.Bg

/- math/bits.Div64 at every two words and divisor, the high word below the divisor: the quotient and the rest. -/
namespace Go.Proofs.YtimjmmiajgfblaaGreatDoor.Bg
set_option maxRecDepth 100000
open Go.RowKit

/-- The numbers of the division of hi, lo by y, moved up by s bits: P is 2^s, R is 2^(64-s). -/
structure Moved (hi lo y P R : Nat) : Prop where
  pr : P * R = 18446744073709551616
  top0 : 0 < hi
  topy : hi < y
  yl : y * P < 18446744073709551616
  yh : 9223372036854775808 ≤ y * P
  lows : lo < 18446744073709551616
  p0 : 0 < P
  r0 : 0 < R

theorem Moved.ul {hi lo y P R : Nat} (m : Moved hi lo y P R) : lo / R < P := by
  rw [Nat.div_lt_iff_lt_mul m.r0, m.pr]; exact m.lows
theorem Moved.low {hi lo y P R : Nat} (m : Moved hi lo y P R) : lo * P % 18446744073709551616 = lo % R * P ∧ lo * P = lo / R * 18446744073709551616 + lo % R * P := by
  have e : lo * P = lo / R * 18446744073709551616 + lo % R * P := by
    have h := Nat.div_add_mod lo R
    have : (R * (lo / R) + lo % R) * P = lo / R * (P * R) + lo % R * P := by
      rw [Nat.add_mul, Nat.mul_comm R (lo / R), Nat.mul_assoc, Nat.mul_comm R P]
    rw [h, m.pr] at this
    exact this
  have lt : lo % R * P < 18446744073709551616 := by
    rw [← m.pr, Nat.mul_comm P R]
    exact Nat.mul_lt_mul_of_pos_right (Nat.mod_lt _ m.r0) m.p0
  refine ⟨?_, e⟩
  rw [e]; omega
theorem Moved.num {hi lo y P R : Nat} (m : Moved hi lo y P R) : (hi * 18446744073709551616 + lo) * P = (hi * P + lo / R) * 18446744073709551616 + lo % R * P := by
  rw [Nat.add_mul, m.low.2, Nat.mul_right_comm]; omega
theorem Moved.top {hi lo y P R : Nat} (m : Moved hi lo y P R) : hi * P + lo / R < y * P := by
  have h1 : (hi * 18446744073709551616 + lo) * P < y * 18446744073709551616 * P := by
    apply Nat.mul_lt_mul_of_pos_right _ m.p0
    have := m.topy; have := m.lows
    have : (hi + 1) * 18446744073709551616 ≤ y * 18446744073709551616 := Nat.mul_le_mul_right _ m.topy
    omega
  rw [m.num, Nat.mul_right_comm] at h1
  omega

/-- The two digits, put together. -/
theorem Moved.done {hi lo y P R d1 d0 z u21 u1 u0 : Nat} (m : Moved hi lo y P R) (h1 : (hi * P + lo / R) * 4294967296 + u1 = d1 * (y * P) + u21) (h0 : u21 * 4294967296 + u0 = d0 * (y * P) + z) (hz : z < y * P)
    (hu : lo % R * P = u1 * 4294967296 + u0) :
    d1 * 4294967296 + d0 = (hi * 18446744073709551616 + lo) / y ∧ z / P = (hi * 18446744073709551616 + lo) % y := by
  have n := m.num
  have hP := m.p0
  rw [hu] at n
  obtain ⟨v, hv⟩ : ∃ v, v = y * P := ⟨_, rfl⟩
  obtain ⟨N, hN⟩ : ∃ N, N = hi * 18446744073709551616 + lo := ⟨_, rfl⟩
  obtain ⟨q, hq⟩ : ∃ q, q = d1 * 4294967296 + d0 := ⟨_, rfl⟩
  rw [← hv] at h1 h0 hz
  rw [← hN] at n ⊢
  rw [← hq]
  have ex : q * v = d1 * v * 4294967296 + d0 * v := by rw [hq, Nat.add_mul, Nat.mul_right_comm]
  have e : N * P = q * v + z := by omega
  have e2 : N * P = q * y * P + z := by rw [e, hv, Nat.mul_assoc]
  have zr : z = (N - q * y) * P := by rw [Nat.sub_mul]; omega
  have le : q * y ≤ N := Nat.le_of_mul_le_mul_right (by omega) hP
  have lt : N - q * y < y := Nat.lt_of_mul_lt_mul_right (a := P) (by rw [← zr, ← hv]; exact hz)
  obtain ⟨r, hr⟩ : ∃ r, r = N - q * y := ⟨_, rfl⟩
  have nr : N = y * q + r := by rw [Nat.mul_comm y q]; omega
  rw [← hr] at zr lt
  rw [zr, Nat.mul_div_cancel _ hP, nr]
  exact ⟨by rw [Nat.mul_add_div (by omega), Nat.div_eq_of_lt lt]; rfl, by rw [Nat.mul_add_mod, Nat.mod_eq_of_lt lt]⟩

theorem moved_of {hi lo y s : Nat} (h1 : 0 < hi) (h2 : hi < y) (hy : y < 18446744073709551616) (hl : lo < 18446744073709551616) (hs : s = 64 - Lib.bitLen y) : Moved hi lo y (2 ^ s) (2 ^ (64 - s)) ∧ s < 64 := by
  obtain ⟨L1, L2, L3⟩ := (bitLen_of y hy).2 (by omega)
  have L4 := bitLen_le64 y hy
  have e64 : (2 : Nat) ^ 64 = 18446744073709551616 := by decide
  have e63 : (2 : Nat) ^ 63 = 9223372036854775808 := by decide
  have p0 : 0 < 2 ^ s := Nat.two_pow_pos s
  refine ⟨⟨?_, h1, h2, ?_, ?_, hl, p0, Nat.two_pow_pos _⟩, by omega⟩
  · rw [← Nat.pow_add, show s + (64 - s) = 64 by omega, e64]
  · have : y * 2 ^ s < 2 ^ Lib.bitLen y * 2 ^ s := Nat.mul_lt_mul_of_pos_right L3 p0
    rw [← Nat.pow_add, show Lib.bitLen y + s = 64 by omega, e64] at this
    exact this
  · have : 2 ^ (Lib.bitLen y - 1) * 2 ^ s ≤ y * 2 ^ s := Nat.mul_le_mul_right _ L2
    rw [← Nat.pow_add, show Lib.bitLen y - 1 + s = 63 by omega, e63] at this
    exact this

theorem and_low (v : Nat) (h : v < 18446744073709551616) : bits .and .u64 (v : Int) 4294967295 = ((v % 4294967296 : Nat) : Int) := by
  have := u64_and_nat v 4294967295 h (by omega)
  rw [show (4294967295 : Nat) = 2 ^ 32 - 1 by decide, Nat.and_two_pow_sub_one_eq_mod] at this
  exact this

theorem div64_hi (hi lo y : Nat) (w : World) (h1 : 0 < hi) (h2 : hi < y) (hy : y < 18446744073709551616) (hl : lo < 18446744073709551616) :
    Calls Tryz.prog 98 #[.int .u64 (hi : Nat), .int .u64 (lo : Nat), .int .u64 (y : Nat)] w fun e w' =>
      e = .returned (.tuple #[.int .u64 (((hi * 18446744073709551616 + lo) / y : Nat) : Int), .int .u64 (((hi * 18446744073709551616 + lo) % y : Nat) : Int)]) ∧ w' = w := by
  obtain ⟨s, hs⟩ : ∃ s, s = 64 - Lib.bitLen y := ⟨_, rfl⟩
  obtain ⟨m, s64⟩ := moved_of h1 h2 hy hl hs
  have L4 := bitLen_le64 y hy
  have hz : LzIs y s := fun w => by
    have h := Tryz.bits_LeadingZeros64 (y : Int) w (by omega) (by omega)
    rw [Int.toNat_natCast] at h
    refine h.mono fun e w' ⟨he, hw⟩ => ⟨?_, hw⟩
    rw [he, hs, show ((64 - Lib.bitLen y : Nat) : Int) = 64 - (Lib.bitLen y : Int) by omega]
  have ul := m.ul
  have top := m.top
  obtain ⟨low1, low2⟩ := m.low
  have yl := m.yl
  have yh := m.yh
  have p0 := m.p0
  obtain ⟨v, hv⟩ : ∃ v, v = y * 2 ^ s := ⟨_, rfl⟩
  obtain ⟨uh, huh⟩ : ∃ u, u = hi * 2 ^ s := ⟨_, rfl⟩
  obtain ⟨l, hl'⟩ : ∃ l, l = lo / 2 ^ (64 - s) := ⟨_, rfl⟩
  obtain ⟨u, hu⟩ : ∃ u, u = uh + l := ⟨_, rfl⟩
  obtain ⟨u10, hu10⟩ : ∃ x, x = lo % 2 ^ (64 - s) * 2 ^ s := ⟨_, rfl⟩
  have u10lt : u10 < 18446744073709551616 := by omega
  have dn := fun d1 d0 z u21 u1 u0 => @Moved.done hi lo y (2 ^ s) (2 ^ (64 - s)) d1 d0 z u21 u1 u0 m
  simp only [← hv, ← huh, ← hl', ← hu, ← hu10] at dn yl yh top ul low1 low2
  have V10 : 0 < v / 4294967296 := by omega
  obtain ⟨q1, hq1⟩ : ∃ q, q = u / (v / 4294967296) := ⟨_, rfl⟩
  have hq1m : q1 * (v / 4294967296) ≤ u := by rw [hq1]; exact Nat.div_mul_le_self _ _
  obtain ⟨D1, hD1⟩ : ∃ d, d = (u * 4294967296 + u10 / 4294967296) / v := ⟨_, rfl⟩
  obtain ⟨u21, hu21⟩ : ∃ d, d = (u * 4294967296 + u10 / 4294967296) % v := ⟨_, rfl⟩
  have E1 : u * 4294967296 + u10 / 4294967296 = D1 * v + u21 := by rw [hD1, hu21, Nat.mul_comm _ v]; exact (Nat.div_add_mod _ _).symm
  have u21lt : u21 < v := by rw [hu21]; exact Nat.mod_lt _ (by omega)
  obtain ⟨p1, hp1⟩ : ∃ q, q = u21 / (v / 4294967296) := ⟨_, rfl⟩
  have hp1m : p1 * (v / 4294967296) ≤ u21 := by rw [hp1]; exact Nat.div_mul_le_self _ _
  obtain ⟨D0, hD0⟩ : ∃ d, d = (u21 * 4294967296 + u10 % 4294967296) / v := ⟨_, rfl⟩
  obtain ⟨z, hz'⟩ : ∃ d, d = (u21 * 4294967296 + u10 % 4294967296) % v := ⟨_, rfl⟩
  have E0 : u21 * 4294967296 + u10 % 4294967296 = D0 * v + z := by rw [hD0, hz', Nat.mul_comm _ v]; exact (Nat.div_add_mod _ _).symm
  have zlt : z < v := by rw [hz']; exact Nat.mod_lt _ (by omega)
  have D1lt : D1 < 4294967296 := by rw [hD1, Nat.div_lt_iff_lt_mul (by omega)]; omega
  have D0lt : D0 < 4294967296 := by rw [hD0, Nat.div_lt_iff_lt_mul (by omega)]; omega
  obtain ⟨f1, f2⟩ := dn D1 D0 z u21 (u10 / 4294967296) (u10 % 4294967296) E1 E0 zlt (by omega)
  have ev : ((v / 4294967296 : Nat) : Int) * 4294967296 + ((v % 4294967296 : Nat) : Int) = (v : Int) := by omega
  have I1 := dig_start u (v / 4294967296 : Nat) (v % 4294967296 : Nat) (u10 / 4294967296 : Nat) (by omega) (by omega) (by omega) (by omega) (by omega) (by omega) (by omega) (by omega)
  have C1 := dig_corrects u (v / 4294967296 : Nat) (v % 4294967296 : Nat) (u10 / 4294967296 : Nat) (by omega) (by omega) (by omega) (by omega) (by omega) (by omega) (by omega) (by omega)
  have I0 := dig_start u21 (v / 4294967296 : Nat) (v % 4294967296 : Nat) (u10 % 4294967296 : Nat) (by omega) (by omega) (by omega) (by omega) (by omega) (by omega) (by omega) (by omega)
  have C0 := dig_corrects u21 (v / 4294967296 : Nat) (v % 4294967296 : Nat) (u10 % 4294967296 : Nat) (by omega) (by omega) (by omega) (by omega) (by omega) (by omega) (by omega) (by omega)
  have i1 : (((u : Int) * 4294967296 + ((u10 / 4294967296 : Nat) : Int)) / (v : Int)) = (D1 : Int) := by
    rw [hD1, show (u : Int) * 4294967296 + ((u10 / 4294967296 : Nat) : Int) = ((u * 4294967296 + u10 / 4294967296 : Nat) : Int) by omega]
    exact (Int.natCast_ediv _ _).symm
  have i0 : (((u21 : Int) * 4294967296 + ((u10 % 4294967296 : Nat) : Int)) / (v : Int)) = (D0 : Int) := by
    rw [hD0, show (u21 : Int) * 4294967296 + ((u10 % 4294967296 : Nat) : Int) = ((u21 * 4294967296 + u10 % 4294967296 : Nat) : Int) by omega]
    exact (Int.natCast_ediv _ _).symm
  rw [ev] at I1 C1 I0 C0
  rw [i1] at C1
  rw [i0] at C0
  have walk := div64_walk hi lo y s v (v / 4294967296) (v % 4294967296) uh l u u10 (u10 / 4294967296) (u10 % 4294967296) (q1 * (v / 4294967296))
    (u * 4294967296 % 18446744073709551616) ((u * 4294967296 % 18446744073709551616 + u10 / 4294967296) % 18446744073709551616) (D1 * v % 18446744073709551616) u21 (p1 * (v / 4294967296))
    (D1 * 4294967296) (u21 * 4294967296 % 18446744073709551616) ((u21 * 4294967296 % 18446744073709551616 + u10 % 4294967296) % 18446744073709551616) (D0 * v % 18446744073709551616) z (D1 * 4294967296 + D0) (z / 2 ^ s)
    ((u : Int) / ((v / 4294967296 : Nat) : Int)) ((u : Int) - (u : Int) / ((v / 4294967296 : Nat) : Int) * ((v / 4294967296 : Nat) : Int)) ((u21 : Int) / ((v / 4294967296 : Nat) : Int)) ((u21 : Int) - (u21 : Int) / ((v / 4294967296 : Nat) : Int) * ((v / 4294967296 : Nat) : Int)) (D1 : Int) (D0 : Int) w
    (Dig u v (v / 4294967296 : Nat) (u10 / 4294967296 : Nat)) (Dig u21 v (v / 4294967296 : Nat) (u10 % 4294967296 : Nat)) s64 hz h2 h1 V10 (by omega) (by omega) (by omega) (by omega)
    ?V ?V1 ?V0 ?UH ?UL ?U32 ?U10 ?U1 ?U0 ?Q ?QM ?R I1 C1 ?X1 ?X2 ?X3 ?U21 ?P ?P' ?PM ?T I0 C0 (by omega) (by omega) ?Z1 ?QUO ?Z2 ?Z3 ?Z4 ?Z5 ?REM
  · rw [← f1, ← f2]; exact walk
  all_goals clear dn C1 C0 I1 I0 f1 f2
  case V =>
    have h : (y : Int) * 2 ^ s = (v : Int) := by rw [hv, Int.natCast_mul, Int.natCast_pow]; rfl
    rw [h]; exact wrap_u64 v yl
  case V1 => omega
  case V0 => exact and_low v yl
  case UH =>
    have h : (hi : Int) * 2 ^ s = (uh : Int) := by rw [huh, Int.natCast_mul, Int.natCast_pow]; rfl
    rw [h]; exact wrap_u64 uh (by omega)
  case UL => rw [hl', Int.natCast_ediv, Int.natCast_pow]; rfl
  case U32 =>
    have h : (hi : Int) * 2 ^ s = (uh : Int) := by rw [huh, Int.natCast_mul, Int.natCast_pow]; rfl
    have hp : ((2 ^ s : Nat) : Int) = (2 : Int) ^ s := Int.natCast_pow 2 s
    rw [bits_join .u64 64 (by decide) wraps_u64 s (uh : Int) (l : Int) (by omega) (by rw [← h]; exact Int.mul_emod_left _ _) (by omega) (by omega) (by rw [← hp]; omega) (by omega)]
    omega
  case U10 =>
    have h : (lo : Int) * 2 ^ s = ((lo * 2 ^ s : Nat) : Int) := by rw [Int.natCast_mul, Int.natCast_pow]; rfl
    rw [h, IntKind.wrap_u64]; omega
  case U1 => omega
  case U0 => exact and_low u10 u10lt
  case Q => exact IntWalk.u64_in _ ⟨Int.ediv_nonneg (by omega) (by omega), by have := Int.ediv_le_self ((v / 4294967296 : Nat) : Int) (show (0 : Int) ≤ (u : Int) by omega); omega⟩
  case QM =>
    have h : (u : Int) / ((v / 4294967296 : Nat) : Int) = (q1 : Int) := by rw [hq1]; exact (Int.natCast_ediv u (v / 4294967296)).symm
    rw [h]; exact wrap_mul q1 _ (by omega)
  case R =>
    have h : (u : Int) / ((v / 4294967296 : Nat) : Int) = (q1 : Int) := by rw [hq1]; exact (Int.natCast_ediv u (v / 4294967296)).symm
    rw [h, ← Int.natCast_mul]
    exact IntWalk.u64_in _ ⟨by omega, by omega⟩
  case P => exact IntWalk.u64_in _ ⟨Int.ediv_nonneg (by omega) (by omega), by have := Int.ediv_le_self ((v / 4294967296 : Nat) : Int) (show (0 : Int) ≤ (u21 : Int) by omega); omega⟩
  case P' =>
    rw [Int.tdiv_eq_ediv_of_nonneg (by omega)]
    exact IntWalk.u64_in _ ⟨Int.ediv_nonneg (by omega) (by omega), by have := Int.ediv_le_self ((v / 4294967296 : Nat) : Int) (show (0 : Int) ≤ (u21 : Int) by omega); omega⟩
  case PM =>
    have h : (u21 : Int) / ((v / 4294967296 : Nat) : Int) = (p1 : Int) := by rw [hp1]; exact (Int.natCast_ediv u21 (v / 4294967296)).symm
    rw [h]; exact wrap_mul p1 _ (by omega)
  case T =>
    have h : (u21 : Int) / ((v / 4294967296 : Nat) : Int) = (p1 : Int) := by rw [hp1]; exact (Int.natCast_ediv u21 (v / 4294967296)).symm
    rw [h, ← Int.natCast_mul]
    exact IntWalk.u64_in _ ⟨by omega, by omega⟩
  case X3 => rw [IntKind.wrap_u64, ← Int.natCast_mul]; omega
  case Z4 => rw [IntKind.wrap_u64, ← Int.natCast_mul]; omega
  case REM => rw [Int.natCast_ediv, Int.natCast_pow]; rfl
  all_goals (rw [IntKind.wrap_u64]; omega)

end Go.Proofs.YtimjmmiajgfblaaGreatDoor.Bg

/- Up of the package big, as numbers: times a power of two, what goes beyond 2^256 cut off. -/
namespace Go.Proofs.YtimjmmiajgfblaaGreatDoor.Bg
set_option maxRecDepth 100000
open Go.RowKit

/-- A word moved up by r bits: what stays and what goes beyond. -/
theorem moved_word {a P R : Nat} (pr : P * R = 18446744073709551616) (p0 : 0 < P) (r0 : 0 < R) (ha : a < 18446744073709551616) :
    a * P = a / R * 18446744073709551616 + a * P % 18446744073709551616 ∧ a / R < P ∧ a * P % 18446744073709551616 + P ≤ 18446744073709551616 ∧ a * P % 18446744073709551616 = a % R * P := by
  have e : a * P = a / R * 18446744073709551616 + a % R * P := by
    have h := Nat.div_add_mod a R
    have : (R * (a / R) + a % R) * P = a / R * (P * R) + a % R * P := by
      rw [Nat.add_mul, Nat.mul_comm R (a / R), Nat.mul_assoc, Nat.mul_comm R P]
    rw [h, pr] at this
    exact this
  have lt : (a % R + 1) * P ≤ R * P := Nat.mul_le_mul_right _ (Nat.mod_lt _ r0)
  rw [Nat.mul_comm R P, pr, Nat.add_mul] at lt
  have hm : a * P % 18446744073709551616 = a % R * P := by rw [e]; omega
  refine ⟨by omega, ?_, by omega, hm⟩
  rw [Nat.div_lt_iff_lt_mul r0, pr]; exact ha

theorem wrap_pow (a r : Nat) : IntKind.u64.wrap ((a : Int) * 2 ^ r) = ((a * 2 ^ r % 18446744073709551616 : Nat) : Int) := by
  have h : (a : Int) * 2 ^ r = ((a * 2 ^ r : Nat) : Int) := by rw [Int.natCast_mul, Int.natCast_pow]; rfl
  rw [h, IntKind.wrap_u64]; omega
theorem div_pow (a r : Nat) : (a : Int) / 2 ^ r = ((a / 2 ^ r : Nat) : Int) := by
  rw [Int.natCast_ediv, Int.natCast_pow]; rfl
theorem or_words (x y r : Nat) (hx : x % 2 ^ r = 0) (hx' : x < 18446744073709551616) (hy : y < 2 ^ r) (hy' : y < 18446744073709551616) : bits .or .u64 (x : Int) (y : Int) = ((x + y : Nat) : Int) := by
  have hp : ((2 ^ r : Nat) : Int) = (2 : Int) ^ r := Int.natCast_pow 2 r
  rw [bits_join .u64 64 (by decide) wraps_u64 r (x : Int) (y : Int) (by omega) (by rw [← hp]; omega) (by omega) (by omega) (by rw [← hp]; omega) (by omega)]
  omega

theorem pow_split (r : Nat) (hr : r < 64) : 2 ^ r * 2 ^ (64 - r) = 18446744073709551616 := by
  rw [← Nat.pow_add, show r + (64 - r) = 64 by omega]

/-- The words of a number moved up. -/
def upWord (a0 a1 a2 a3 n : Nat) (i : Nat) : Nat := val a0 a1 a2 a3 * 2 ^ n / 2 ^ (64 * i) % 18446744073709551616

theorem val_mul (a0 a1 a2 a3 P : Nat) : val a0 a1 a2 a3 * P = a0 * P + 18446744073709551616 * (a1 * P + 18446744073709551616 * (a2 * P + 18446744073709551616 * (a3 * P))) := by
  simp only [val, Nat.add_mul, Nat.mul_add, Nat.mul_assoc]

theorem up_any (a0 a1 a2 a3 n : Nat) (ha : Words a0 a1 a2 a3) (hn : n < 256) :
    ∃ s0 s1 s2 s3 : Nat, Words s0 s1 s2 s3 ∧ val s0 s1 s2 s3 = val a0 a1 a2 a3 * 2 ^ n % 115792089237316195423570985008687907853269984665640564039457584007913129639936 ∧
    ∀ w : World, Calls Tryz.prog 59 #[.agg #[.int .u64 (a0 : Nat), .int .u64 (a1 : Nat), .int .u64 (a2 : Nat), .int .u64 (a3 : Nat)], .int .i64 (n : Nat)] w fun e w' => e = .returned (.agg #[.int .u64 (s0 : Nat), .int .u64 (s1 : Nat), .int .u64 (s2 : Nat), .int .u64 (s3 : Nat)]) ∧ Below w.heap.size w w' := by
  by_cases h0 : n = 0
  · subst h0
    refine ⟨a0, a1, a2, a3, ha, ?_, fun w => up_low a0 a1 a2 a3 _ w (by omega)⟩
    obtain ⟨h0, h1, h2, h3⟩ := ha
    unfold val; omega
  obtain ⟨r, hr⟩ : ∃ r, r = n % 64 := ⟨_, rfl⟩
  have r64 : r < 64 := by omega
  have pr := pow_split r r64
  have p0 : 0 < 2 ^ r := Nat.two_pow_pos r
  have r0 : 0 < 2 ^ (64 - r) := Nat.two_pow_pos _
  obtain ⟨w0, w1, w2, w3⟩ := ha
  obtain ⟨x0, y0, z0, m0⟩ := moved_word pr p0 r0 w0
  obtain ⟨x1, y1, z1, m1⟩ := moved_word pr p0 r0 w1
  obtain ⟨x2, y2, z2, m2⟩ := moved_word pr p0 r0 w2
  obtain ⟨x3, y3, z3, m3⟩ := moved_word pr p0 r0 w3
  have vm := val_mul a0 a1 a2 a3 (2 ^ r)
  have d0 : a0 * 2 ^ r % 18446744073709551616 % 2 ^ r = 0 := by rw [m0]; exact Nat.mul_mod_left _ _
  have d1 : a1 * 2 ^ r % 18446744073709551616 % 2 ^ r = 0 := by rw [m1]; exact Nat.mul_mod_left _ _
  have d2 : a2 * 2 ^ r % 18446744073709551616 % 2 ^ r = 0 := by rw [m2]; exact Nat.mul_mod_left _ _
  have d3 : a3 * 2 ^ r % 18446744073709551616 % 2 ^ r = 0 := by rw [m3]; exact Nat.mul_mod_left _ _
  have e1 : (2 : Nat) ^ 64 = 18446744073709551616 := by decide
  have e2 : (2 : Nat) ^ 128 = 340282366920938463463374607431768211456 := by decide
  have e3 : (2 : Nat) ^ 192 = 6277101735386680763835789423207666416102355444464034512896 := by decide
  have hf : n / 64 = 0 ∨ n / 64 = 1 ∨ n / 64 = 2 ∨ n / 64 = 3 := by omega
  rcases hf with hf | hf | hf | hf
  · have pn : 2 ^ n = 2 ^ r := by rw [show n = r by omega]
    refine ⟨(a0 * 2 ^ r % 18446744073709551616), (a1 * 2 ^ r % 18446744073709551616 + a0 / 2 ^ (64 - r)), (a2 * 2 ^ r % 18446744073709551616 + a1 / 2 ^ (64 - r)), (a3 * 2 ^ r % 18446744073709551616 + a2 / 2 ^ (64 - r)), ⟨by omega, by omega, by omega, by omega⟩, ?_, fun w => up_0 a0 a1 a2 a3 r (a0 * 2 ^ r % 18446744073709551616) (a1 * 2 ^ r % 18446744073709551616) (a1 * 2 ^ r % 18446744073709551616 + a0 / 2 ^ (64 - r)) (a2 * 2 ^ r % 18446744073709551616) (a2 * 2 ^ r % 18446744073709551616 + a1 / 2 ^ (64 - r)) (a3 * 2 ^ r % 18446744073709551616) (a3 * 2 ^ r % 18446744073709551616 + a2 / 2 ^ (64 - r)) (n : Nat) w (by omega) (by omega) (by omega) (by omega) r64 (wrap_pow a0 r) (wrap_pow a1 r) (by rw [div_pow]; exact or_words _ _ r d1 (by omega) y0 (by omega)) (wrap_pow a2 r) (by rw [div_pow]; exact or_words _ _ r d2 (by omega) y1 (by omega)) (wrap_pow a3 r) (by rw [div_pow]; exact or_words _ _ r d3 (by omega) y2 (by omega))⟩
    rw [pn, vm]
    clear vm d0 d1 d2 d3 m0 m1 m2 m3 pn
    unfold val
    omega
  · have pn : 2 ^ n = 2 ^ r * 18446744073709551616 := by rw [show n = r + 64 by omega, Nat.pow_add]
    refine ⟨0, (a0 * 2 ^ r % 18446744073709551616), (a1 * 2 ^ r % 18446744073709551616 + a0 / 2 ^ (64 - r)), (a2 * 2 ^ r % 18446744073709551616 + a1 / 2 ^ (64 - r)), ⟨by omega, by omega, by omega, by omega⟩, ?_, fun w => up_1 a0 a1 a2 a3 r (a0 * 2 ^ r % 18446744073709551616) (a1 * 2 ^ r % 18446744073709551616) (a1 * 2 ^ r % 18446744073709551616 + a0 / 2 ^ (64 - r)) (a2 * 2 ^ r % 18446744073709551616) (a2 * 2 ^ r % 18446744073709551616 + a1 / 2 ^ (64 - r)) (n : Nat) w (by omega) (by omega) (by omega) (by omega) r64 (wrap_pow a0 r) (wrap_pow a1 r) (by rw [div_pow]; exact or_words _ _ r d1 (by omega) y0 (by omega)) (wrap_pow a2 r) (by rw [div_pow]; exact or_words _ _ r d2 (by omega) y1 (by omega))⟩
    rw [pn, ← Nat.mul_assoc, vm]
    clear vm d0 d1 d2 d3 m0 m1 m2 m3 pn
    unfold val
    omega
  · have pn : 2 ^ n = 2 ^ r * 340282366920938463463374607431768211456 := by rw [show n = r + 128 by omega, Nat.pow_add]
    refine ⟨0, 0, (a0 * 2 ^ r % 18446744073709551616), (a1 * 2 ^ r % 18446744073709551616 + a0 / 2 ^ (64 - r)), ⟨by omega, by omega, by omega, by omega⟩, ?_, fun w => up_2 a0 a1 a2 a3 r (a0 * 2 ^ r % 18446744073709551616) (a1 * 2 ^ r % 18446744073709551616) (a1 * 2 ^ r % 18446744073709551616 + a0 / 2 ^ (64 - r)) (n : Nat) w (by omega) (by omega) (by omega) (by omega) r64 (wrap_pow a0 r) (wrap_pow a1 r) (by rw [div_pow]; exact or_words _ _ r d1 (by omega) y0 (by omega))⟩
    rw [pn, ← Nat.mul_assoc, vm]
    clear vm d0 d1 d2 d3 m0 m1 m2 m3 pn
    unfold val
    omega
  · have pn : 2 ^ n = 2 ^ r * 6277101735386680763835789423207666416102355444464034512896 := by rw [show n = r + 192 by omega, Nat.pow_add]
    refine ⟨0, 0, 0, (a0 * 2 ^ r % 18446744073709551616), ⟨by omega, by omega, by omega, by omega⟩, ?_, fun w => up_3 a0 a1 a2 a3 r (a0 * 2 ^ r % 18446744073709551616) (n : Nat) w (by omega) (by omega) (by omega) (by omega) r64 (wrap_pow a0 r)⟩
    rw [pn, ← Nat.mul_assoc, vm]
    clear vm d0 d1 d2 d3 m0 m1 m2 m3 pn
    unfold val
    omega

/-- A word moved down by r bits: what stays, and what goes to the word below. -/
theorem down_word {a P R : Nat} (pr : P * R = 18446744073709551616) (p0 : 0 < P) (r0 : 0 < R) :
    a = a / P * P + a % P ∧ a % P < P ∧ a * R % 18446744073709551616 = a % P * R := by
  have h := Nat.div_add_mod a P
  rw [Nat.mul_comm P] at h
  have m := Nat.mod_lt a p0
  refine ⟨h.symm, m, ?_⟩
  have e : a * R = a / P * 18446744073709551616 + a % P * R := by
    have : (a / P * P + a % P) * R = a / P * (P * R) + a % P * R := by rw [Nat.add_mul, Nat.mul_assoc]
    rw [h, pr] at this; exact this
  have lt : (a % P + 1) * R ≤ P * R := Nat.mul_le_mul_right _ m
  rw [pr, Nat.add_mul] at lt
  rw [e]; omega

theorem wrap_pow' (a r : Nat) : IntKind.u64.wrap ((a : Int) * 2 ^ (64 - r)) = ((a * 2 ^ (64 - r) % 18446744073709551616 : Nat) : Int) := wrap_pow a (64 - r)
theorem or_words' (x y r : Nat) (hx : x < 2 ^ (64 - r)) (hx' : x < 18446744073709551616) (hy : y % 2 ^ (64 - r) = 0) (hy' : y < 18446744073709551616) : bits .or .u64 (x : Int) (y : Int) = ((x + y : Nat) : Int) := by
  have hp : ((2 ^ (64 - r) : Nat) : Int) = (2 : Int) ^ (64 - r) := Int.natCast_pow 2 (64 - r)
  rw [bits_join_low .u64 64 (by decide) wraps_u64 (64 - r) (x : Int) (y : Int) (by omega) (by rw [← hp]; omega) (by omega) (by omega) (by rw [← hp]; omega) (by omega)]
  omega

/-- A number out of the words of its quotient and a rest. -/
theorem div_of (V D P q : Nat) (h : V = q * P + D) (hD : D < P) : V / P = q := by
  rw [h, Nat.mul_comm, Nat.mul_add_div (by omega), Nat.div_eq_of_lt hD]; rfl

theorem down_any (a0 a1 a2 a3 n : Nat) (ha : Words a0 a1 a2 a3) (hn : n < 256) :
    ∃ s0 s1 s2 s3 : Nat, Words s0 s1 s2 s3 ∧ val s0 s1 s2 s3 = val a0 a1 a2 a3 / 2 ^ n ∧
    ∀ w : World, Calls Tryz.prog 56 #[.agg #[.int .u64 (a0 : Nat), .int .u64 (a1 : Nat), .int .u64 (a2 : Nat), .int .u64 (a3 : Nat)], .int .i64 (n : Nat)] w fun e w' => e = .returned (.agg #[.int .u64 (s0 : Nat), .int .u64 (s1 : Nat), .int .u64 (s2 : Nat), .int .u64 (s3 : Nat)]) ∧ Below w.heap.size w w' := by
  by_cases h0 : n = 0
  · subst h0
    exact ⟨a0, a1, a2, a3, ha, by rw [Nat.pow_zero, Nat.div_one], fun w => down_low a0 a1 a2 a3 _ w (by omega)⟩
  obtain ⟨r, hr⟩ : ∃ r, r = n % 64 := ⟨_, rfl⟩
  have r64 : r < 64 := by omega
  have pr := pow_split r r64
  have p0 : 0 < 2 ^ r := Nat.two_pow_pos r
  have r0 : 0 < 2 ^ (64 - r) := Nat.two_pow_pos _
  obtain ⟨w0, w1, w2, w3⟩ := ha
  obtain ⟨x0, y0, z0⟩ := @down_word a0 _ _ pr p0 r0
  obtain ⟨x1, y1, z1⟩ := @down_word a1 _ _ pr p0 r0
  obtain ⟨x2, y2, z2⟩ := @down_word a2 _ _ pr p0 r0
  obtain ⟨x3, y3, z3⟩ := @down_word a3 _ _ pr p0 r0
  have k0 : a0 / 2 ^ r < 2 ^ (64 - r) := by rw [Nat.div_lt_iff_lt_mul p0, Nat.mul_comm, pr]; exact w0
  have k1 : a1 / 2 ^ r < 2 ^ (64 - r) := by rw [Nat.div_lt_iff_lt_mul p0, Nat.mul_comm, pr]; exact w1
  have k2 : a2 / 2 ^ r < 2 ^ (64 - r) := by rw [Nat.div_lt_iff_lt_mul p0, Nat.mul_comm, pr]; exact w2
  have k3 : a3 / 2 ^ r < 2 ^ (64 - r) := by rw [Nat.div_lt_iff_lt_mul p0, Nat.mul_comm, pr]; exact w3
  have hh : ∀ a, a % 2 ^ r * 2 ^ (64 - r) + 2 ^ (64 - r) ≤ 18446744073709551616 := fun a => by
    have : (a % 2 ^ r + 1) * 2 ^ (64 - r) ≤ 2 ^ r * 2 ^ (64 - r) := Nat.mul_le_mul_right _ (Nat.mod_lt _ p0)
    rw [pr, Nat.add_mul] at this; omega
  have g1 := hh a1
  have g2 := hh a2
  have g3 := hh a3
  have d1 : a1 * 2 ^ (64 - r) % 18446744073709551616 % 2 ^ (64 - r) = 0 := by rw [z1]; exact Nat.mul_mod_left _ _
  have d2 : a2 * 2 ^ (64 - r) % 18446744073709551616 % 2 ^ (64 - r) = 0 := by rw [z2]; exact Nat.mul_mod_left _ _
  have d3 : a3 * 2 ^ (64 - r) % 18446744073709551616 % 2 ^ (64 - r) = 0 := by rw [z3]; exact Nat.mul_mod_left _ _
  have mm : ∀ a, a % 2 ^ r * 2 ^ (64 - r) * 2 ^ r = a % 2 ^ r * 18446744073709551616 := fun a => by rw [Nat.mul_assoc, Nat.mul_comm (2 ^ (64 - r)), pr]
  have q1 := mm a1
  have q2 := mm a2
  have q3 := mm a3
  clear mm hh
  have hf : n / 64 = 0 ∨ n / 64 = 1 ∨ n / 64 = 2 ∨ n / 64 = 3 := by omega
  rcases hf with hf | hf | hf | hf
  · have pn : 2 ^ n = 2 ^ r := by rw [show n = r by omega]
    refine ⟨(a0 / 2 ^ r + a1 * 2 ^ (64 - r) % 18446744073709551616), (a1 / 2 ^ r + a2 * 2 ^ (64 - r) % 18446744073709551616), (a2 / 2 ^ r + a3 * 2 ^ (64 - r) % 18446744073709551616), (a3 / 2 ^ r), ⟨by omega, by omega, by omega, by omega⟩, ?_, fun w => down_0 a0 a1 a2 a3 r (a0 / 2 ^ r) (a1 * 2 ^ (64 - r) % 18446744073709551616) (a0 / 2 ^ r + a1 * 2 ^ (64 - r) % 18446744073709551616) (a1 / 2 ^ r) (a2 * 2 ^ (64 - r) % 18446744073709551616) (a1 / 2 ^ r + a2 * 2 ^ (64 - r) % 18446744073709551616) (a2 / 2 ^ r) (a3 * 2 ^ (64 - r) % 18446744073709551616) (a2 / 2 ^ r + a3 * 2 ^ (64 - r) % 18446744073709551616) (a3 / 2 ^ r) (n : Nat) w (by omega) (by omega) (by omega) (by omega) r64 (div_pow a0 r) (wrap_pow' a1 r) (or_words' _ _ r k0 (by omega) d1 (by omega)) (div_pow a1 r) (wrap_pow' a2 r) (or_words' _ _ r k1 (by omega) d2 (by omega)) (div_pow a2 r) (wrap_pow' a3 r) (or_words' _ _ r k2 (by omega) d3 (by omega)) (div_pow a3 r)⟩
    rw [pn]
    refine (div_of _ (a0 % 2 ^ r) _ _ ?_ (by omega)).symm
    rw [val_mul]
    simp only [Nat.add_mul, z1, z2, z3]
    clear d1 d2 d3 z0 z1 z2 z3 pn
    unfold val
    omega
  · have pn : 2 ^ n = 2 ^ r * 18446744073709551616 := by rw [show n = r + 64 by omega, Nat.pow_add]
    refine ⟨(a1 / 2 ^ r + a2 * 2 ^ (64 - r) % 18446744073709551616), (a2 / 2 ^ r + a3 * 2 ^ (64 - r) % 18446744073709551616), (a3 / 2 ^ r), 0, ⟨by omega, by omega, by omega, by omega⟩, ?_, fun w => down_1 a0 a1 a2 a3 r (a1 / 2 ^ r) (a2 * 2 ^ (64 - r) % 18446744073709551616) (a1 / 2 ^ r + a2 * 2 ^ (64 - r) % 18446744073709551616) (a2 / 2 ^ r) (a3 * 2 ^ (64 - r) % 18446744073709551616) (a2 / 2 ^ r + a3 * 2 ^ (64 - r) % 18446744073709551616) (a3 / 2 ^ r) (n : Nat) w (by omega) (by omega) (by omega) (by omega) r64 (div_pow a1 r) (wrap_pow' a2 r) (or_words' _ _ r k1 (by omega) d2 (by omega)) (div_pow a2 r) (wrap_pow' a3 r) (or_words' _ _ r k2 (by omega) d3 (by omega)) (div_pow a3 r)⟩
    rw [pn]
    refine (div_of _ (a0 + 18446744073709551616 * (a1 % 2 ^ r)) _ _ ?_ (by omega)).symm
    rw [← Nat.mul_assoc, val_mul]
    simp only [Nat.add_mul, z1, z2, z3]
    clear d1 d2 d3 z0 z1 z2 z3 pn
    unfold val
    omega
  · have pn : 2 ^ n = 2 ^ r * 340282366920938463463374607431768211456 := by rw [show n = r + 128 by omega, Nat.pow_add]
    refine ⟨(a2 / 2 ^ r + a3 * 2 ^ (64 - r) % 18446744073709551616), (a3 / 2 ^ r), 0, 0, ⟨by omega, by omega, by omega, by omega⟩, ?_, fun w => down_2 a0 a1 a2 a3 r (a2 / 2 ^ r) (a3 * 2 ^ (64 - r) % 18446744073709551616) (a2 / 2 ^ r + a3 * 2 ^ (64 - r) % 18446744073709551616) (a3 / 2 ^ r) (n : Nat) w (by omega) (by omega) (by omega) (by omega) r64 (div_pow a2 r) (wrap_pow' a3 r) (or_words' _ _ r k2 (by omega) d3 (by omega)) (div_pow a3 r)⟩
    rw [pn]
    refine (div_of _ ((a0 + 18446744073709551616 * a1) + 340282366920938463463374607431768211456 * (a2 % 2 ^ r)) _ _ ?_ (by omega)).symm
    rw [← Nat.mul_assoc, val_mul]
    simp only [Nat.add_mul, z1, z2, z3]
    clear d1 d2 d3 z0 z1 z2 z3 pn
    unfold val
    omega
  · have pn : 2 ^ n = 2 ^ r * 6277101735386680763835789423207666416102355444464034512896 := by rw [show n = r + 192 by omega, Nat.pow_add]
    refine ⟨(a3 / 2 ^ r), 0, 0, 0, ⟨by omega, by omega, by omega, by omega⟩, ?_, fun w => down_3 a0 a1 a2 a3 r (a3 / 2 ^ r) (n : Nat) w (by omega) (by omega) (by omega) (by omega) r64 (div_pow a3 r)⟩
    rw [pn]
    refine (div_of _ ((a0 + 18446744073709551616 * (a1 + 18446744073709551616 * a2)) + 6277101735386680763835789423207666416102355444464034512896 * (a3 % 2 ^ r)) _ _ ?_ (by omega)).symm
    rw [← Nat.mul_assoc, val_mul]
    simp only [Nat.add_mul, z1, z2, z3]
    clear d1 d2 d3 z0 z1 z2 z3 pn
    unfold val
    omega

end Go.Proofs.YtimjmmiajgfblaaGreatDoor.Bg
