/- What a target's bits mean, in plain numbers: the target but for its lowest bits. -/
import Derived.Test.YtnipajfglmahiaaTCompact
namespace Go.Proofs.Ytnipajfglmahiaa

/-- How many of the lowest bits are lost, of a number of nb bits; and what is left. -/
def lostOf (nb : Nat) : Nat := 8 * (nb / 8 - 2)
def floorOf (v nb : Nat) : Nat := v / 2 ^ lostOf nb * 2 ^ lostOf nb
def mantOf (v k : Nat) : Nat := if k + 1 < 3 then v * 2 ^ (8 * (2 - k)) else v / 2 ^ (8 * (k - 2))

theorem comp_eq {v nb : Nat} (h : BitsOf v nb) (h0 : v ≠ 0) : compOf v nb = (nb / 8 + 1) * 16777216 + mantOf v (nb / 8) ∧ mantOf v (nb / 8) < 8388608 := by
  obtain ⟨n1, lo, hi⟩ := h.2 h0
  obtain ⟨k, hk⟩ : ∃ k, k = nb / 8 := ⟨_, rfl⟩
  rw [← hk]
  have e23 : (2 : Nat) ^ 23 = 8388608 := by decide
  have e24 : (2 : Nat) ^ 24 = 16777216 := by decide
  have e8 : (2 : Nat) ^ 8 = 256 := by decide
  by_cases full : nb = 8 * k
  · have hs : (nb + 7) / 8 = k := by omega
    have pl := partOf_lt h
    rw [hs] at pl
    have big : 8388608 ≤ partOf v k := by
      unfold partOf
      split
      · rename_i hlt
        have h1 : 2 ^ (nb - 1) * 2 ^ (8 * (3 - k)) ≤ v * 2 ^ (8 * (3 - k)) := Nat.mul_le_mul_right _ lo
        rw [← Nat.pow_add, show nb - 1 + 8 * (3 - k) = 23 by omega, e23] at h1
        exact h1
      · rename_i hge
        rw [Nat.le_div_iff_mul_le (Nat.two_pow_pos _), ← e23, ← Nat.pow_add, show 23 + 8 * (k - 3) = nb - 1 by omega]
        exact lo
    have em : mantOf v k = partOf v k / 256 := by
      unfold mantOf partOf
      by_cases k3 : k < 3
      · rw [if_pos k3]
        by_cases k2 : k + 1 < 3
        · rw [if_pos k2, ← e8, show 8 * (3 - k) = 8 * (2 - k) + 8 by omega, Nat.pow_add, ← Nat.mul_assoc, Nat.mul_div_cancel _ (Nat.two_pow_pos 8)]
        · rw [if_neg k2, show k = 2 by omega]
          rw [show 8 * (2 - 2) = 0 by decide, show 8 * (3 - 2) = 8 by decide, Nat.pow_zero, Nat.div_one, e8, Nat.mul_div_cancel _ (by decide)]
      · rw [if_neg k3, if_neg (by omega), ← e8, Nat.div_div_eq_div_mul, ← Nat.pow_add, show 8 * (k - 3) + 8 = 8 * (k - 2) by omega]
    unfold compOf
    rw [hs, if_pos big, em]
    exact ⟨rfl, by omega⟩
  · have hs : (nb + 7) / 8 = k + 1 := by omega
    have em : mantOf v k = partOf v (k + 1) := by
      unfold mantOf partOf
      by_cases k3 : k + 1 < 3
      · rw [if_pos k3, if_pos k3, show 3 - (k + 1) = 2 - k by omega]
      · rw [if_neg k3, if_neg k3, show k + 1 - 3 = k - 2 by omega]
    have small : partOf v (k + 1) < 8388608 := by
      unfold partOf
      split
      · rename_i hlt
        have h1 : v * 2 ^ (8 * (3 - (k + 1))) < 2 ^ nb * 2 ^ (8 * (3 - (k + 1))) := Nat.mul_lt_mul_of_pos_right hi (Nat.two_pow_pos _)
        rw [← Nat.pow_add] at h1
        have h2 : 2 ^ (nb + 8 * (3 - (k + 1))) ≤ 2 ^ 23 := Nat.pow_le_pow_right (by omega) (by omega)
        omega
      · rename_i hge
        rw [Nat.div_lt_iff_lt_mul (Nat.two_pow_pos _), ← e23, ← Nat.pow_add]
        exact Nat.lt_of_lt_of_le hi (Nat.pow_le_pow_right (by omega) (by omega))
    unfold compOf
    rw [hs, if_neg (by omega), em]
    exact ⟨rfl, small⟩

theorem of_comp {v nb : Nat} (h : BitsOf v nb) (h0 : v ≠ 0) (h256 : nb ≤ 256) (hv : v < 115792089237316195423570985008687907853269984665640564039457584007913129639936) :
    okOf (compOf v nb) ∧ tvOf (compOf v nb) * 2 ^ upOf (compOf v nb) = floorOf v nb ∧ compOf v nb < 4294967296 := by
  obtain ⟨e, hm⟩ := comp_eq h h0
  obtain ⟨n1, lo, hi⟩ := h.2 h0
  have hk : nb / 8 ≤ 32 := by omega
  have sz : compOf v nb / 16777216 = nb / 8 + 1 := by omega
  have pm : compOf v nb % 8388608 = mantOf v (nb / 8) := by omega
  have up : upOf (compOf v nb) = lostOf nb := by unfold upOf lostOf; omega
  have tv : tvOf (compOf v nb) = v / 2 ^ lostOf nb := by
    unfold tvOf
    rw [sz, pm]
    unfold mantOf lostOf
    by_cases k3 : nb / 8 + 1 < 3
    · rw [if_pos k3, if_pos k3, show 3 - (nb / 8 + 1) = 2 - nb / 8 by omega, Nat.mul_div_cancel _ (Nat.two_pow_pos _), show nb / 8 - 2 = 0 by omega, Nat.mul_zero, Nat.pow_zero, Nat.div_one]
    · rw [if_neg k3, if_neg k3]
  have le : v / 2 ^ lostOf nb * 2 ^ lostOf nb ≤ v := Nat.div_mul_le_self _ _
  refine ⟨⟨?_, by omega, by rw [tv, up]; omega⟩, by rw [tv, up]; rfl, by omega⟩
  rw [tv]
  have : 2 ^ lostOf nb ≤ v := Nat.le_trans (Nat.pow_le_pow_right (by omega) (by unfold lostOf; omega)) lo
  have := (Nat.le_div_iff_mul_le (Nat.two_pow_pos (lostOf nb))).2 (show 1 * 2 ^ lostOf nb ≤ v by omega)
  omega

theorem floor_le (v nb : Nat) : floorOf v nb ≤ v := Nat.div_mul_le_self _ _
/-- What is left has as many bits. -/
theorem floor_bits {v nb : Nat} (h : BitsOf v nb) (h0 : v ≠ 0) : BitsOf (floorOf v nb) nb := by
  obtain ⟨n1, lo, hi⟩ := h.2 h0
  have le := floor_le v nb
  have hl : lostOf nb ≤ nb - 1 := by unfold lostOf; omega
  have ge : 2 ^ (nb - 1) ≤ floorOf v nb := by
    have h1 : 2 ^ (nb - 1 - lostOf nb) ≤ v / 2 ^ lostOf nb := by
      rw [Nat.le_div_iff_mul_le (Nat.two_pow_pos _), ← Nat.pow_add, show nb - 1 - lostOf nb + lostOf nb = nb - 1 by omega]
      exact lo
    have h2 : 2 ^ (nb - 1 - lostOf nb) * 2 ^ lostOf nb ≤ v / 2 ^ lostOf nb * 2 ^ lostOf nb := Nat.mul_le_mul_right _ h1
    rw [← Nat.pow_add, show nb - 1 - lostOf nb + lostOf nb = nb - 1 by omega] at h2
    exact h2
  have := Nat.two_pow_pos (nb - 1)
  exact ⟨fun e => by omega, fun _ => ⟨n1, ge, by omega⟩⟩
theorem floor_floor (v nb : Nat) : floorOf (floorOf v nb) nb = floorOf v nb := by
  unfold floorOf
  rw [Nat.mul_div_cancel _ (Nat.two_pow_pos _)]
theorem comp_floor {v nb : Nat} (h : BitsOf v nb) (h0 : v ≠ 0) : compOf (floorOf v nb) nb = compOf v nb := by
  have hf := floor_bits h h0
  have hf0 : floorOf v nb ≠ 0 := by
    have := (h.2 h0).1
    intro e
    have := hf.1 e
    omega
  rw [(comp_eq hf hf0).1, (comp_eq h h0).1]
  congr 1
  unfold mantOf
  by_cases k3 : nb / 8 + 1 < 3
  · rw [if_pos k3, if_pos k3]
    have : lostOf nb = 0 := by unfold lostOf; omega
    unfold floorOf
    rw [this, Nat.pow_zero, Nat.div_one, Nat.mul_one]
  · rw [if_neg k3, if_neg k3]
    show floorOf v nb / 2 ^ lostOf nb = v / 2 ^ lostOf nb
    unfold floorOf
    rw [Nat.mul_div_cancel _ (Nat.two_pow_pos _)]
/-- What is lost has fewer bits than all but the 15 highest ones. -/
theorem lost_bits {v nb nd : Nat} (hd : BitsOf (v - floorOf v nb) nd) : nd ≤ nb - 15 := by
  have hm : v - floorOf v nb = v % 2 ^ lostOf nb := by
    have := Nat.div_add_mod v (2 ^ lostOf nb)
    rw [Nat.mul_comm] at this
    unfold floorOf
    omega
  rw [hm] at hd
  have h1 := hd.le (m := lostOf nb) (Nat.mod_lt _ (Nat.two_pow_pos _))
  unfold lostOf at h1
  omega
theorem floor_mono {u t n m : Nat} (hu : BitsOf u n) (ht : BitsOf t m) (t0 : t ≠ 0) (h : u ≤ t) : floorOf u n ≤ floorOf t m := by
  have nm := hu.mono ht h
  by_cases e : lostOf n = lostOf m
  · unfold floorOf
    rw [e]
    exact Nat.mul_le_mul_right _ (Nat.div_le_div_right h)
  · have lt : n < m := by
      rcases Nat.lt_or_ge n m with h1 | h1
      · exact h1
      · exact absurd (by rw [show n = m by omega]) e
    have h1 := floor_le u n
    have h2 := hu.lt
    have h3 : 2 ^ n ≤ 2 ^ (m - 1) := Nat.pow_le_pow_right (by omega) (by omega)
    have hf := floor_bits ht t0
    have h4 : 2 ^ (m - 1) ≤ floorOf t m := by
      by_cases z : floorOf t m = 0
      · have := hf.1 z
        omega
      · exact (hf.2 z).2.1
    omega

end Go.Proofs.Ytnipajfglmahiaa
