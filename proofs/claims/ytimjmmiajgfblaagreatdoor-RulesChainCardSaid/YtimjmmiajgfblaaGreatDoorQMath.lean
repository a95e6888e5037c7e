/- Plain arithmetic on numbers of four words of 64 bits: their order by borrows, and how many bits they have. -/
import Derived.Lib.ItoaNum

namespace Go.Proofs.YtimjmmiajgfblaaGreatDoor.Bg

/-- The number of four words, the lowest first. -/
def val (a0 a1 a2 a3 : Nat) : Nat := a0 + 18446744073709551616 * (a1 + 18446744073709551616 * (a2 + 18446744073709551616 * a3))
/-- Each word is below 2^64. -/
def Words (a0 a1 a2 a3 : Nat) : Prop := a0 < 18446744073709551616 ∧ a1 < 18446744073709551616 ∧ a2 < 18446744073709551616 ∧ a3 < 18446744073709551616

def borrow (x y b : Nat) : Nat := if x < y + b then 1 else 0
def diff (x y b : Nat) : Nat := (x + 18446744073709551616 - y - b) % 18446744073709551616
theorem borrow_le (x y b : Nat) : borrow x y b ≤ 1 := by unfold borrow; split <;> omega

/-- The last borrow tells which number is less. -/
theorem borrow_val {a0 a1 a2 a3 b0 b1 b2 b3 : Nat} (ha : Words a0 a1 a2 a3) (hb : Words b0 b1 b2 b3) :
    borrow a3 b3 (borrow a2 b2 (borrow a1 b1 (borrow a0 b0 0))) = if val a0 a1 a2 a3 < val b0 b1 b2 b3 then 1 else 0 := by
  obtain ⟨h0, h1, h2, h3⟩ := ha
  obtain ⟨k0, k1, k2, k3⟩ := hb
  obtain ⟨c1, e1⟩ : ∃ c, c = borrow a0 b0 0 := ⟨_, rfl⟩
  obtain ⟨c2, e2⟩ : ∃ c, c = borrow a1 b1 c1 := ⟨_, rfl⟩
  obtain ⟨c3, e3⟩ : ∃ c, c = borrow a2 b2 c2 := ⟨_, rfl⟩
  rw [← e1, ← e2, ← e3]
  unfold borrow at *
  unfold val
  split at e1 <;> split at e2 <;> split at e3 <;> subst e1 <;> subst e2 <;> subst e3 <;> split <;> split <;> first | rfl | (exfalso; omega)

theorem val_inj {a0 a1 a2 a3 b0 b1 b2 b3 : Nat} (ha : Words a0 a1 a2 a3) (hb : Words b0 b1 b2 b3) (h : val a0 a1 a2 a3 = val b0 b1 b2 b3) : a0 = b0 ∧ a1 = b1 ∧ a2 = b2 ∧ a3 = b3 := by
  obtain ⟨h0, h1, h2, h3⟩ := ha
  obtain ⟨k0, k1, k2, k3⟩ := hb
  unfold val at h
  refine ⟨?_, ?_, ?_, ?_⟩ <;> omega

/-- n is the number of bits of x. -/
def BitsOf (x n : Nat) : Prop := (x = 0 → n = 0) ∧ (x ≠ 0 → 1 ≤ n ∧ 2 ^ (n - 1) ≤ x ∧ x < 2 ^ n)
theorem BitsOf.mono {x y n m : Nat} (hx : BitsOf x n) (hy : BitsOf y m) (h : x ≤ y) : n ≤ m := by
  by_cases x0 : x = 0
  · rw [hx.1 x0]; omega
  · obtain ⟨a, b, _⟩ := hx.2 x0
    obtain ⟨_, _, f⟩ := hy.2 (by omega)
    rcases Nat.lt_or_ge m n with hlt | hge
    · have : 2 ^ m ≤ 2 ^ (n - 1) := Nat.pow_le_pow_right (by omega) (by omega)
      omega
    · exact hge
theorem BitsOf.uniq {x n m : Nat} (hx : BitsOf x n) (hy : BitsOf x m) : n = m := Nat.le_antisymm (hx.mono hy (Nat.le_refl _)) (hy.mono hx (Nat.le_refl _))

theorem bitLen_of (x : Nat) (h : x < 18446744073709551616) : BitsOf x (Lib.bitLen x) := by
  refine ⟨fun h0 => ?_, fun h0 => Lib.bitLenAux_bounds 64 x (by simpa using h) h0⟩
  subst h0; rfl
theorem bitLen_le64 (x : Nat) (h : x < 18446744073709551616) : Lib.bitLen x ≤ 64 := by
  by_cases h0 : x = 0
  · rw [(bitLen_of x h).1 h0]; omega
  · obtain ⟨a, b, _⟩ := (bitLen_of x h).2 h0
    rcases Nat.lt_or_ge 64 (Lib.bitLen x) with hlt | hge
    · have : 2 ^ 64 ≤ 2 ^ (Lib.bitLen x - 1) := Nat.pow_le_pow_right (by omega) (by omega)
      have e : (2 : Nat) ^ 64 = 18446744073709551616 := by decide
      omega
    · exact hge

/-- A top word x at place p, and a rest below 2^p. -/
theorem BitsOf.top {x n p r : Nat} (hx : BitsOf x n) (h0 : x ≠ 0) (hr : r < 2 ^ p) : BitsOf (r + 2 ^ p * x) (p + n) := by
  obtain ⟨a, b, c⟩ := hx.2 h0
  have hp : 0 < 2 ^ p := Nat.two_pow_pos p
  have h1 : 2 ^ p * 2 ^ (n - 1) ≤ 2 ^ p * x := Nat.mul_le_mul_left _ b
  have h2 : 2 ^ p * (x + 1) ≤ 2 ^ p * 2 ^ n := Nat.mul_le_mul_left _ c
  have h3 : 0 < 2 ^ p * x := Nat.mul_pos hp (by omega)
  refine ⟨fun h => by omega, fun _ => ⟨by omega, ?_, ?_⟩⟩
  · rw [show p + n - 1 = p + (n - 1) by omega, Nat.pow_add]; omega
  · rw [Nat.pow_add]; rw [Nat.mul_add] at h2; omega

def bits4 (l0 l1 l2 l3 a0 a1 a2 a3 : Nat) : Nat :=
  if a3 = 0 then (if a2 = 0 then (if a1 = 0 then (if a0 = 0 then 0 else l0) else 64 + l1) else 128 + l2) else 192 + l3

theorem bits4_of {a0 a1 a2 a3 : Nat} (ha : Words a0 a1 a2 a3) : BitsOf (val a0 a1 a2 a3) (bits4 (Lib.bitLen a0) (Lib.bitLen a1) (Lib.bitLen a2) (Lib.bitLen a3) a0 a1 a2 a3) := by
  obtain ⟨h0, h1, h2, h3⟩ := ha
  have e64 : (2 : Nat) ^ 64 = 18446744073709551616 := by decide
  have e128 : (2 : Nat) ^ 128 = 340282366920938463463374607431768211456 := by decide
  have e192 : (2 : Nat) ^ 192 = 6277101735386680763835789423207666416102355444464034512896 := by decide
  unfold bits4
  by_cases z3 : a3 = 0
  · rw [if_pos z3]
    by_cases z2 : a2 = 0
    · rw [if_pos z2]
      by_cases z1 : a1 = 0
      · rw [if_pos z1]
        by_cases z0 : a0 = 0
        · rw [if_pos z0]
          have : val a0 a1 a2 a3 = 0 := by unfold val; omega
          rw [this]; exact ⟨fun _ => rfl, fun h => absurd rfl h⟩
        · rw [if_neg z0]
          have : val a0 a1 a2 a3 = a0 := by unfold val; omega
          rw [this]; exact bitLen_of a0 h0
      · rw [if_neg z1]
        have : val a0 a1 a2 a3 = a0 + 2 ^ 64 * a1 := by unfold val; omega
        rw [this]; exact (bitLen_of a1 h1).top z1 (by omega)
    · rw [if_neg z2]
      have : val a0 a1 a2 a3 = (a0 + 18446744073709551616 * a1) + 2 ^ 128 * a2 := by unfold val; omega
      rw [this]; exact (bitLen_of a2 h2).top z2 (by omega)
  · rw [if_neg z3]
    have : val a0 a1 a2 a3 = (a0 + 18446744073709551616 * (a1 + 18446744073709551616 * a2)) + 2 ^ 192 * a3 := by unfold val; omega
    rw [this]; exact (bitLen_of a3 h3).top z3 (by omega)

end Go.Proofs.YtimjmmiajgfblaaGreatDoor.Bg
