/- Bit of the document's answers of layer 2: each bit of a number of four words; beyond its bits 0. No condition but that each word is below 2^64. -/
import Derived.Test.YtimjmmiajgfblaaGreatDoorQMath
import Derived.Test.YtimjmmiajgfblaaGreatDoorGan
import Derived.WalkSmall

namespace Go.Proofs.YtimjmmiajgfblaaGreatDoor.Bg
open Go.RowKit

theorem bit_low (a0 a1 a2 a3 : Nat) (i : Int) (w : World) (h : i < 0) : Calls Tryz.prog 54 #[.agg #[.int .u64 (a0 : Nat), .int .u64 (a1 : Nat), .int .u64 (a2 : Nat), .int .u64 (a3 : Nat)], .int .i64 i] w fun e w' => e = .returned (.int .i64 0) ∧ Below w.heap.size w w' := by
  go_enter Tryz.func54, Tryz.ntmps54
  go_wp2_with fail
  go_ret
  refine ⟨rfl, ?_⟩
  go_grown
theorem bit_high (a0 a1 a2 a3 : Nat) (i : Int) (w : World) (h : 256 ≤ i) : Calls Tryz.prog 54 #[.agg #[.int .u64 (a0 : Nat), .int .u64 (a1 : Nat), .int .u64 (a2 : Nat), .int .u64 (a3 : Nat)], .int .i64 i] w fun e w' => e = .returned (.int .i64 0) ∧ Below w.heap.size w w' := by
  go_enter Tryz.func54, Tryz.ntmps54
  go_wp2_with fail
  go_ret
  refine ⟨rfl, ?_⟩
  go_grown

theorem rbit_0 (a0 a1 a2 a3 r d x : Nat) (i : Int) (w : World) (h0 : 0 ≤ i) (_h1 : i < 256) (e1 : i / 64 = 0) (e2 : i % 64 = (r : Int)) (_hr : r < 64) (D : (a0 : Int) / 2 ^ r = (d : Int)) (X : bits BinOp.and IntKind.u64 (d : Int) 1 = (x : Int)) (hx : x ≤ 1) :
    Calls Tryz.prog 54 #[.agg #[.int .u64 (a0 : Nat), .int .u64 (a1 : Nat), .int .u64 (a2 : Nat), .int .u64 (a3 : Nat)], .int .i64 i] w fun e w' => e = .returned (.int .i64 (x : Nat)) ∧ Below w.heap.size w w' := by
  go_enter Tryz.func54, Tryz.ntmps54
  go_wp2_with fail
  go_ret
  refine ⟨rfl, ?_⟩
  go_grown

theorem rbit_1 (a0 a1 a2 a3 r d x : Nat) (i : Int) (w : World) (h0 : 0 ≤ i) (_h1 : i < 256) (e1 : i / 64 = 1) (e2 : i % 64 = (r : Int)) (_hr : r < 64) (D : (a1 : Int) / 2 ^ r = (d : Int)) (X : bits BinOp.and IntKind.u64 (d : Int) 1 = (x : Int)) (hx : x ≤ 1) :
    Calls Tryz.prog 54 #[.agg #[.int .u64 (a0 : Nat), .int .u64 (a1 : Nat), .int .u64 (a2 : Nat), .int .u64 (a3 : Nat)], .int .i64 i] w fun e w' => e = .returned (.int .i64 (x : Nat)) ∧ Below w.heap.size w w' := by
  go_enter Tryz.func54, Tryz.ntmps54
  go_wp2_with fail
  go_ret
  refine ⟨rfl, ?_⟩
  go_grown

theorem rbit_2 (a0 a1 a2 a3 r d x : Nat) (i : Int) (w : World) (h0 : 0 ≤ i) (_h1 : i < 256) (e1 : i / 64 = 2) (e2 : i % 64 = (r : Int)) (_hr : r < 64) (D : (a2 : Int) / 2 ^ r = (d : Int)) (X : bits BinOp.and IntKind.u64 (d : Int) 1 = (x : Int)) (hx : x ≤ 1) :
    Calls Tryz.prog 54 #[.agg #[.int .u64 (a0 : Nat), .int .u64 (a1 : Nat), .int .u64 (a2 : Nat), .int .u64 (a3 : Nat)], .int .i64 i] w fun e w' => e = .returned (.int .i64 (x : Nat)) ∧ Below w.heap.size w w' := by
  go_enter Tryz.func54, Tryz.ntmps54
  go_wp2_with fail
  go_ret
  refine ⟨rfl, ?_⟩
  go_grown

theorem rbit_3 (a0 a1 a2 a3 r d x : Nat) (i : Int) (w : World) (h0 : 0 ≤ i) (_h1 : i < 256) (e1 : i / 64 = 3) (e2 : i % 64 = (r : Int)) (_hr : r < 64) (D : (a3 : Int) / 2 ^ r = (d : Int)) (X : bits BinOp.and IntKind.u64 (d : Int) 1 = (x : Int)) (hx : x ≤ 1) :
    Calls Tryz.prog 54 #[.agg #[.int .u64 (a0 : Nat), .int .u64 (a1 : Nat), .int .u64 (a2 : Nat), .int .u64 (a3 : Nat)], .int .i64 i] w fun e w' => e = .returned (.int .i64 (x : Nat)) ∧ Below w.heap.size w w' := by
  go_enter Tryz.func54, Tryz.ntmps54
  go_wp2_with fail
  go_ret
  refine ⟨rfl, ?_⟩
  go_grown

/-- A word's bit is the number's. -/
theorem bit_word (lo x hi j r : Nat) (hlo : lo < 2 ^ j) (hr : r < 64) : (lo + 2 ^ j * (x + 18446744073709551616 * hi)) / 2 ^ (j + r) % 2 = x / 2 ^ r % 2 := by
  have hp : 0 < 2 ^ j := Nat.two_pow_pos j
  have hq : 0 < 2 ^ r := Nat.two_pow_pos r
  rw [Nat.pow_add, ← Nat.div_div_eq_div_mul, Nat.add_comm, Nat.mul_comm (2 ^ j), Nat.add_comm, Nat.add_mul_div_right _ _ hp, Nat.div_eq_of_lt hlo, Nat.zero_add]
  have e : (18446744073709551616 : Nat) = 2 ^ r * (2 * 2 ^ (63 - r)) := by
    rw [← Nat.mul_assoc, Nat.mul_comm (2 ^ r) 2, Nat.mul_assoc, ← Nat.pow_add, show r + (63 - r) = 63 by omega]
  rw [e, Nat.mul_assoc, Nat.mul_comm (2 ^ r), Nat.add_mul_div_right _ _ hq, Nat.mul_assoc]
  omega

theorem bit_any {a0 a1 a2 a3 : Nat} (ha : Words a0 a1 a2 a3) (n : Nat) (hn : n < 256) (w : World) :
    Calls Tryz.prog 54 #[.agg #[.int .u64 (a0 : Nat), .int .u64 (a1 : Nat), .int .u64 (a2 : Nat), .int .u64 (a3 : Nat)], .int .i64 (n : Nat)] w fun e w' => e = .returned (.int .i64 ((val a0 a1 a2 a3 / 2 ^ n % 2 : Nat) : Int)) ∧ Below w.heap.size w w' := by
  obtain ⟨h0, h1, h2, h3⟩ := ha
  have hb : ∀ x r : Nat, x < 18446744073709551616 → ((x : Int) / 2 ^ r = ((x / 2 ^ r : Nat) : Int)) ∧ bits BinOp.and IntKind.u64 ((x / 2 ^ r : Nat) : Int) 1 = ((x / 2 ^ r % 2 : Nat) : Int) := fun x r hx => by
    have hle : x / 2 ^ r ≤ x := Nat.div_le_self _ _
    refine ⟨by rw [Int.natCast_ediv]; rfl, ?_⟩
    generalize x / 2 ^ r = d at *
    rw [and_one_u64 _ (by omega) (by omega)]
    omega
  obtain ⟨r, hr⟩ : ∃ r, r = n % 64 := ⟨_, rfl⟩
  have key : ∀ j lo x hi : Nat, lo < 2 ^ j → n = j + r → val a0 a1 a2 a3 = lo + 2 ^ j * (x + 18446744073709551616 * hi) → val a0 a1 a2 a3 / 2 ^ n % 2 = x / 2 ^ r % 2 := fun j lo x hi h1 h2 h3 => by
    rw [h3, h2]; exact bit_word lo x hi j r h1 (by omega)
  have e64 : (2 : Nat) ^ 64 = 18446744073709551616 := by decide
  have e128 : (2 : Nat) ^ 128 = 340282366920938463463374607431768211456 := by decide
  have e192 : (2 : Nat) ^ 192 = 6277101735386680763835789423207666416102355444464034512896 := by decide
  rcases (by omega : n / 64 = 0 ∨ n / 64 = 1 ∨ n / 64 = 2 ∨ n / 64 = 3) with h | h | h | h
  · rw [key 0 0 a0 (a1 + 18446744073709551616 * (a2 + 18446744073709551616 * a3)) (by decide) (by omega) (by unfold val; omega)]
    exact rbit_0 a0 a1 a2 a3 r _ _ n w (by omega) (by omega) (by omega) (by omega) (by omega) (hb a0 r h0).1 (hb a0 r h0).2 (by omega)
  · rw [key 64 a0 a1 (a2 + 18446744073709551616 * a3) (by rw [e64]; exact h0) (by omega) (by rw [e64]; unfold val; omega)]
    exact rbit_1 a0 a1 a2 a3 r _ _ n w (by omega) (by omega) (by omega) (by omega) (by omega) (hb a1 r h1).1 (hb a1 r h1).2 (by omega)
  · rw [key 128 (a0 + 18446744073709551616 * a1) a2 a3 (by rw [e128]; omega) (by omega) (by rw [e128]; unfold val; omega)]
    exact rbit_2 a0 a1 a2 a3 r _ _ n w (by omega) (by omega) (by omega) (by omega) (by omega) (hb a2 r h2).1 (hb a2 r h2).2 (by omega)
  · rw [key 192 (a0 + 18446744073709551616 * (a1 + 18446744073709551616 * a2)) a3 0 (by rw [e192]; omega) (by omega) (by rw [e192]; unfold val; omega)]
    exact rbit_3 a0 a1 a2 a3 r _ _ n w (by omega) (by omega) (by omega) (by omega) (by omega) (hb a3 r h3).1 (hb a3 r h3).2 (by omega)

end Go.Proofs.YtimjmmiajgfblaaGreatDoor.Bg
