/- The arithmetic of a division of two words by one: a digit of the quotient, guessed and corrected, and the two digits put together. -/
import Derived.Test.YtnipajfglmahiaaDiv64
import Derived.Test.YtnipajfglmahiaaMath
import Derived.Laws.BitsAllLaws
import Derived.Lib.EndianBits
namespace Go.Proofs.Ytnipajfglmahiaa
open Go.RowKit

/-- A digit q that is not below the true one, and the rest r of the guess. -/
def Dig (u v v1 u1 q r : Int) : Prop := 0 ≤ q ∧ 0 ≤ r ∧ q * v1 + r = u ∧ (u * 4294967296 + u1) / v ≤ q ∧ q ≤ 4294967297 ∧ r < 4294967296

theorem mul_split (q v1 v0 : Int) : q * (v1 * 4294967296 + v0) = (q * v1) * 4294967296 + q * v0 := by
  rw [Int.mul_add, Int.mul_assoc]

theorem floor_spec (U v : Int) (hv : 0 < v) : U / v * v ≤ U ∧ U < U / v * v + v := by
  have h := Int.ediv_mul_add_emod U v
  have a := Int.emod_nonneg U (show v ≠ 0 by omega)
  have b := Int.emod_lt_of_pos U hv
  omega
theorem floor_uniq (U v q : Int) (hv : 0 < v) (h1 : q * v ≤ U) (h2 : U < q * v + v) : U / v = q := by
  obtain ⟨a, b⟩ := floor_spec U v hv
  have x : U / v < q + 1 := Int.lt_of_mul_lt_mul_right (a := v) (by rw [Int.add_mul]; omega) (by omega)
  have y : q < U / v + 1 := Int.lt_of_mul_lt_mul_right (a := v) (by rw [Int.add_mul]; omega) (by omega)
  omega

theorem dig_corrects (u v1 v0 u1 : Int) (hv0 : 0 ≤ v0) (hv0' : v0 < 4294967296) (hv1 : 2147483648 ≤ v1) (hv1' : v1 < 4294967296) (hu : 0 ≤ u) (hu' : u < v1 * 4294967296 + v0) (hu1 : 0 ≤ u1) (hu1' : u1 < 4294967296) :
    Corrects (Dig u (v1 * 4294967296 + v0) v1 u1) v1 v0 u1 ((u * 4294967296 + u1) / (v1 * 4294967296 + v0)) := by
  have hv : 0 < v1 * 4294967296 + v0 := by omega
  obtain ⟨d1, d2⟩ := floor_spec (u * 4294967296 + u1) (v1 * 4294967296 + v0) hv
  generalize hd : (u * 4294967296 + u1) / (v1 * 4294967296 + v0) = d at *
  refine ⟨?_, ?_, ?_⟩
  · rintro q r ⟨a, b, c, e, f, g⟩; exact ⟨b, g, a, f⟩
  · rintro q r ⟨a, b, c, e, f, g⟩ ht
    rw [hd] at e
    have sp := mul_split q v1 v0
    have lt : d < q := by
      rcases ht with ht | ht
      · have : d < 4294967296 := Int.lt_of_mul_lt_mul_right (a := v1 * 4294967296 + v0) (by omega) (by omega)
        omega
      · exact Int.lt_of_mul_lt_mul_right (a := v1 * 4294967296 + v0) (by rw [sp]; omega) (by omega)
    have q0 : 0 ≤ d := by rw [← hd]; exact Int.ediv_nonneg (by omega) (by omega)
    refine ⟨by omega, fun hr => ⟨by omega, by omega, by rw [Int.sub_mul]; omega, by rw [hd]; omega, by omega, hr⟩, fun hr => ?_⟩
    have sp' := mul_split (q - 1) v1 v0
    have e1 : (q - 1) * v1 = u - (r + v1) := by rw [Int.sub_mul]; omega
    have e2 : (q - 1) * v0 ≤ 4294967296 * 4294967295 := Int.le_trans (Int.mul_le_mul_of_nonneg_right (show q - 1 ≤ 4294967296 by omega) hv0) (Int.mul_le_mul_of_nonneg_left (by omega) (by omega))
    have : q - 1 < d + 1 := Int.lt_of_mul_lt_mul_right (a := v1 * 4294967296 + v0) (by rw [sp', Int.add_mul, e1]; omega) (by omega)
    omega
  · rintro q r ⟨a, b, c, e, f, g⟩ hq ht
    rw [hd] at e
    have sp := mul_split q v1 v0
    have : q < d + 1 := Int.lt_of_mul_lt_mul_right (a := v1 * 4294967296 + v0) (by rw [sp, Int.add_mul]; omega) (by omega)
    omega

theorem dig_start (u v1 v0 u1 : Int) (hv0 : 0 ≤ v0) (hv0' : v0 < 4294967296) (hv1 : 2147483648 ≤ v1) (hv1' : v1 < 4294967296) (hu : 0 ≤ u) (hu' : u < v1 * 4294967296 + v0) (hu1 : 0 ≤ u1) (hu1' : u1 < 4294967296) :
    Dig u (v1 * 4294967296 + v0) v1 u1 (u / v1) (u - u / v1 * v1) := by
  have hv : 0 < v1 * 4294967296 + v0 := by omega
  obtain ⟨d1, d2⟩ := floor_spec (u * 4294967296 + u1) (v1 * 4294967296 + v0) hv
  obtain ⟨e1, e2⟩ := floor_spec u v1 (by omega)
  have q0 : 0 ≤ u / v1 := Int.ediv_nonneg hu (by omega)
  have D0 : 0 ≤ (u * 4294967296 + u1) / (v1 * 4294967296 + v0) := Int.ediv_nonneg (by omega) (by omega)
  refine ⟨q0, by omega, by omega, ?_, ?_, by omega⟩
  · generalize (u * 4294967296 + u1) / (v1 * 4294967296 + v0) = d at *
    have sp := mul_split d v1 v0
    have nn : 0 ≤ d * v0 := Int.mul_nonneg D0 hv0
    have : d < u / v1 + 1 := Int.lt_of_mul_lt_mul_right (a := v1) (by rw [Int.add_mul]; omega) (by omega)
    omega
  · have : u / v1 < 4294967298 := Int.lt_of_mul_lt_mul_right (a := v1) (by omega) (by omega)
    omega

end Go.Proofs.Ytnipajfglmahiaa
