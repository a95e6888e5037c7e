/- Mul of the package big as numbers, and Of: the product of a number and a word, and what of it goes beyond 2^256. -/
import Derived.Test.YtimjmmiajgfblaaGreatDoorGat
import Derived.Test.YtimjmmiajgfblaaGreatDoorQMulW

namespace Go.Proofs.YtimjmmiajgfblaaGreatDoor.Bg
set_option maxRecDepth 100000
open Go.RowKit

theorem mul_any {a0 a1 a2 a3 n : Nat} (ha : Words a0 a1 a2 a3) (hn : n < 18446744073709551616) :
    ∃ m0 m1 m2 m3 x : Nat, Words m0 m1 m2 m3 ∧ x < 18446744073709551616 ∧ val m0 m1 m2 m3 + 115792089237316195423570985008687907853269984665640564039457584007913129639936 * x = val a0 a1 a2 a3 * n ∧
    ∀ w : World, Calls Tryz.prog 61 #[.agg #[.int .u64 (a0 : Nat), .int .u64 (a1 : Nat), .int .u64 (a2 : Nat), .int .u64 (a3 : Nat)], .int .u64 (n : Nat)] w fun e w' => e = .returned (.tuple #[.agg #[.int .u64 (m0 : Nat), .int .u64 (m1 : Nat), .int .u64 (m2 : Nat), .int .u64 (m3 : Nat)], .int .u64 (x : Nat)]) ∧ Below w.heap.size w w' := by
  obtain ⟨k0, k1, k2, k3⟩ := ha
  have pr : ∀ a : Nat, a < 18446744073709551616 → ∃ p h l : Nat, p = a * n ∧ h = a * n / 18446744073709551616 ∧ l = a * n % 18446744073709551616 ∧ p = 18446744073709551616 * h + l ∧ l < 18446744073709551616 ∧ h ≤ 18446744073709551614 := fun a ha => by
    have hp : a * n ≤ 18446744073709551615 * 18446744073709551615 := Nat.mul_le_mul (by omega) (by omega)
    refine ⟨_, _, _, rfl, rfl, rfl, ?_, ?_, ?_⟩
    · omega
    · omega
    · omega
  obtain ⟨p0, h0, l0, e0, eh0, el0, s0, b0, c0⟩ := pr a0 k0
  obtain ⟨p1, h1, l1, e1, eh1, el1, s1, b1, c1⟩ := pr a1 k1
  obtain ⟨p2, h2, l2, e2, eh2, el2, s2, b2, c2⟩ := pr a2 k2
  obtain ⟨p3, h3, l3, e3, eh3, el3, s3, b3, c3⟩ := pr a3 k3
  have t0 := times a0 n h0 l0 k0 hn eh0 el0
  have t1 := times a1 n h1 l1 k1 hn eh1 el1
  have t2 := times a2 n h2 l2 k2 hn eh2 el2
  have t3 := times a3 n h3 l3 k3 hn eh3 el3
  have key : val a0 a1 a2 a3 * n = p0 + 18446744073709551616 * (p1 + 18446744073709551616 * (p2 + 18446744073709551616 * p3)) := by
    rw [e0, e1, e2, e3]; unfold val; simp only [Nat.add_mul, Nat.mul_assoc]
  rw [key]
  clear key eh0 eh1 eh2 eh3 el0 el1 el2 el3 e0 e1 e2 e3 pr
  obtain ⟨q0, y0⟩ : ∃ q, q = (l0 + 0 + 0) / 18446744073709551616 := ⟨_, rfl⟩
  obtain ⟨r0, x0⟩ : ∃ q, q = (l0 + 0 + 0) % 18446744073709551616 := ⟨_, rfl⟩
  obtain ⟨n1, v1⟩ : ∃ q, q = h0 + q0 := ⟨_, rfl⟩
  obtain ⟨q1, y1⟩ : ∃ q, q = (l1 + n1 + 0) / 18446744073709551616 := ⟨_, rfl⟩
  obtain ⟨r1, x1⟩ : ∃ q, q = (l1 + n1 + 0) % 18446744073709551616 := ⟨_, rfl⟩
  obtain ⟨n2, v2⟩ : ∃ q, q = h1 + q1 := ⟨_, rfl⟩
  obtain ⟨q2, y2⟩ : ∃ q, q = (l2 + n2 + 0) / 18446744073709551616 := ⟨_, rfl⟩
  obtain ⟨r2, x2⟩ : ∃ q, q = (l2 + n2 + 0) % 18446744073709551616 := ⟨_, rfl⟩
  obtain ⟨n3, v3⟩ : ∃ q, q = h2 + q2 := ⟨_, rfl⟩
  obtain ⟨q3, y3⟩ : ∃ q, q = (l3 + n3 + 0) / 18446744073709551616 := ⟨_, rfl⟩
  obtain ⟨r3, x3⟩ : ∃ q, q = (l3 + n3 + 0) % 18446744073709551616 := ⟨_, rfl⟩
  obtain ⟨n4, v4⟩ : ∃ q, q = h3 + q3 := ⟨_, rfl⟩
  refine ⟨r0, r1, r2, r3, n4, ⟨by omega, by omega, by omega, by omega⟩, by omega, by unfold val; omega, fun w => ?_⟩
  exact mul_words a0 a1 a2 a3 n n1 n2 n3 n4 h0 h1 h2 h3 l0 l1 l2 l3 r0 r1 r2 r3 q0 q1 q2 q3 w t0 t1 t2 t3
    (gives_add _ _ _ _ _ (by omega) x0 y0) (gives_add _ _ _ _ _ (by omega) x1 y1) (gives_add _ _ _ _ _ (by omega) x2 y2) (gives_add _ _ _ _ _ (by omega) x3 y3)
    (by rw [IntKind.wrap_u64]; omega) (by rw [IntKind.wrap_u64]; omega) (by rw [IntKind.wrap_u64]; omega) (by rw [IntKind.wrap_u64]; omega)

end Go.Proofs.YtimjmmiajgfblaaGreatDoor.Bg
