/- BigOrder of the statements of layer 2 returns true for all numbers: of two one is less, or both are the same; less goes on to the next; bits go with the order. -/
import Derived.Test.YtimjmmiajgfblaaGreatDoorGao
import Derived.Test.YtimjmmiajgfblaaGreatDoorQMath
import Derived.Test.YtimjmmiajgfblaaGreatDoorGad
import Derived.Deep.RegionWith

namespace Go.Proofs.YtimjmmiajgfblaaGreatDoor.Bg
set_option maxRecDepth 100000
open Go.RowKit

def LessIs (a0 a1 a2 a3 b0 b1 b2 b3 : Nat) (r : Bool) : Prop := ∀ w : World, Calls Tryz.prog 63 #[.agg #[.int .u64 (a0 : Nat), .int .u64 (a1 : Nat), .int .u64 (a2 : Nat), .int .u64 (a3 : Nat)], .agg #[.int .u64 (b0 : Nat), .int .u64 (b1 : Nat), .int .u64 (b2 : Nat), .int .u64 (b3 : Nat)]] w fun e w' => e = .returned (.bool r) ∧ Below w.heap.size w w'
def BitsIs (a0 a1 a2 a3 n : Nat) : Prop := ∀ w : World, Calls Tryz.prog 58 #[.agg #[.int .u64 (a0 : Nat), .int .u64 (a1 : Nat), .int .u64 (a2 : Nat), .int .u64 (a3 : Nat)]] w fun e w' => e = .returned (.int .i64 (n : Nat)) ∧ Below w.heap.size w w'

theorem lessIs {a0 a1 a2 a3 b0 b1 b2 b3 : Nat} (ha : Words a0 a1 a2 a3) (hb : Words b0 b1 b2 b3) (r : Bool) (hr : r = decide (val a0 a1 a2 a3 < val b0 b1 b2 b3)) : LessIs a0 a1 a2 a3 b0 b1 b2 b3 r := by
  intro w
  have h := less_words a0 a1 a2 a3 b0 b1 b2 b3 _ _ _ _ _ _ _ _ w (gives_sub a0 b0 0 (diff a0 b0 0) (borrow a0 b0 0) (by omega) rfl rfl)
    (gives_sub a1 b1 _ (diff a1 b1 (borrow a0 b0 0)) (borrow a1 b1 (borrow a0 b0 0)) (borrow_le _ _ _) rfl rfl)
    (gives_sub a2 b2 _ (diff a2 b2 (borrow a1 b1 (borrow a0 b0 0))) (borrow a2 b2 (borrow a1 b1 (borrow a0 b0 0))) (borrow_le _ _ _) rfl rfl)
    (gives_sub a3 b3 _ (diff a3 b3 (borrow a2 b2 (borrow a1 b1 (borrow a0 b0 0)))) (borrow a3 b3 (borrow a2 b2 (borrow a1 b1 (borrow a0 b0 0)))) (borrow_le _ _ _) rfl rfl)
  rw [borrow_val ha hb] at h
  refine h.mono fun e w' ⟨he, hw⟩ => ⟨?_, hw⟩
  rw [he, hr]
  by_cases hlt : val a0 a1 a2 a3 < val b0 b1 b2 b3
  · rw [if_pos hlt, decide_eq_true hlt]; rfl
  · rw [if_neg hlt, decide_eq_false hlt]; rfl

theorem bitsIs {a0 a1 a2 a3 : Nat} (ha : Words a0 a1 a2 a3) : BitsIs a0 a1 a2 a3 (bits4 (Lib.bitLen a0) (Lib.bitLen a1) (Lib.bitLen a2) (Lib.bitLen a3) a0 a1 a2 a3) := by
  intro w
  obtain ⟨h0, h1, h2, h3⟩ := ha
  exact bits_words a0 a1 a2 a3 _ _ _ _ _ _ _ _ w (lenIs a0 _ h0 rfl) (lenIs a1 _ h1 rfl) (lenIs a2 _ h2 rfl) (lenIs a3 _ h3 rfl) (bitLen_le64 _ h0) (bitLen_le64 _ h1) (bitLen_le64 _ h2) (bitLen_le64 _ h3) rfl rfl rfl rfl

/-- '==' between two numbers, decided. -/
def EqIs (a0 a1 a2 a3 b0 b1 b2 b3 : Nat) (r : Bool) : Prop := ∀ w : World, (Op.equalIn 10000 51 (.agg #[.int .u64 (a0 : Nat), .int .u64 (a1 : Nat), .int .u64 (a2 : Nat), .int .u64 (a3 : Nat)]) (.agg #[.int .u64 (b0 : Nat), .int .u64 (b1 : Nat), .int .u64 (b2 : Nat), .int .u64 (b3 : Nat)])).run Tryz.prog w = .ok r w
theorem eqIs {a0 a1 a2 a3 b0 b1 b2 b3 : Nat} (ha : Words a0 a1 a2 a3) (hb : Words b0 b1 b2 b3) (r : Bool) (hr : r = decide (val a0 a1 a2 a3 = val b0 b1 b2 b3)) : EqIs a0 a1 a2 a3 b0 b1 b2 b3 r := by
  intro w
  rw [eq_big, hr]
  congr 1
  rw [Bool.eq_iff_iff]
  simp only [Bool.and_eq_true, beq_iff_eq, decide_eq_true_eq]
  constructor
  · rintro ⟨e0, e1, e2, e3⟩
    obtain rfl : a0 = b0 := by omega
    obtain rfl : a1 = b1 := by omega
    obtain rfl : a2 = b2 := by omega
    obtain rfl : a3 = b3 := by omega
    rfl
  · intro h
    obtain ⟨rfl, rfl, rfl, rfl⟩ := val_inj ha hb h
    exact ⟨rfl, rfl, rfl, rfl⟩

end Go.Proofs.YtimjmmiajgfblaaGreatDoor.Bg

/- Add and Sub of the package big, as numbers: what goes beyond 2^256, or below 0, comes round and is told. -/
namespace Go.Proofs.YtimjmmiajgfblaaGreatDoor.Bg
set_option maxRecDepth 100000
open Go.RowKit

theorem sub_any {a0 a1 a2 a3 b0 b1 b2 b3 : Nat} (ha : Words a0 a1 a2 a3) (hb : Words b0 b1 b2 b3) :
    ∃ s0 s1 s2 s3 : Nat, Words s0 s1 s2 s3 ∧ val s0 s1 s2 s3 = (if val a0 a1 a2 a3 < val b0 b1 b2 b3 then val a0 a1 a2 a3 + 115792089237316195423570985008687907853269984665640564039457584007913129639936 - val b0 b1 b2 b3 else val a0 a1 a2 a3 - val b0 b1 b2 b3) ∧
    ∀ w : World, Calls Tryz.prog 76 #[.agg #[.int .u64 (a0 : Nat), .int .u64 (a1 : Nat), .int .u64 (a2 : Nat), .int .u64 (a3 : Nat)], .agg #[.int .u64 (b0 : Nat), .int .u64 (b1 : Nat), .int .u64 (b2 : Nat), .int .u64 (b3 : Nat)]] w fun e w' => e = .returned (.tuple #[.agg #[.int .u64 (s0 : Nat), .int .u64 (s1 : Nat), .int .u64 (s2 : Nat), .int .u64 (s3 : Nat)], .bool (decide (val a0 a1 a2 a3 < val b0 b1 b2 b3))]) ∧ Below w.heap.size w w' := by
  have bv := borrow_val ha hb
  obtain ⟨c1, e1⟩ : ∃ c, c = borrow a0 b0 0 := ⟨_, rfl⟩
  obtain ⟨c2, e2⟩ : ∃ c, c = borrow a1 b1 c1 := ⟨_, rfl⟩
  obtain ⟨c3, e3⟩ : ∃ c, c = borrow a2 b2 c2 := ⟨_, rfl⟩
  obtain ⟨c4, e4⟩ : ∃ c, c = borrow a3 b3 c3 := ⟨_, rfl⟩
  rw [← e1, ← e2, ← e3, ← e4] at bv
  have l1 : c1 ≤ 1 := by rw [e1]; exact borrow_le _ _ _
  have l2 : c2 ≤ 1 := by rw [e2]; exact borrow_le _ _ _
  have l3 : c3 ≤ 1 := by rw [e3]; exact borrow_le _ _ _
  have l4 : c4 ≤ 1 := by rw [e4]; exact borrow_le _ _ _
  refine ⟨diff a0 b0 0, diff a1 b1 c1, diff a2 b2 c2, diff a3 b3 c3, ⟨?_, ?_, ?_, ?_⟩, ?_, fun w => ?_⟩
  · unfold diff; omega
  · unfold diff; omega
  · unfold diff; omega
  · unfold diff; omega
  · obtain ⟨h0, h1, h2, h3⟩ := ha
    obtain ⟨k0, k1, k2, k3⟩ := hb
    have s0 : diff a0 b0 0 + b0 = a0 + 18446744073709551616 * c1 := by rw [e1]; unfold diff borrow; split <;> omega
    have s1 : diff a1 b1 c1 + b1 + c1 = a1 + 18446744073709551616 * c2 := by rw [e2]; unfold diff borrow; split <;> omega
    have s2 : diff a2 b2 c2 + b2 + c2 = a2 + 18446744073709551616 * c3 := by rw [e3]; unfold diff borrow; split <;> omega
    have s3 : diff a3 b3 c3 + b3 + c3 = a3 + 18446744073709551616 * c4 := by rw [e4]; unfold diff borrow; split <;> omega
    generalize diff a0 b0 0 = d0 at *
    generalize diff a1 b1 c1 = d1 at *
    generalize diff a2 b2 c2 = d2 at *
    generalize diff a3 b3 c3 = d3 at *
    clear e1 e2 e3 e4
    split at bv
    · rw [if_pos (by assumption)]; subst bv; unfold val at *; omega
    · rw [if_neg (by assumption)]; subst bv; unfold val at *; omega
  · have h := sub_words a0 a1 a2 a3 b0 b1 b2 b3 _ _ _ _ c1 c2 c3 c4 w (gives_sub a0 b0 0 (diff a0 b0 0) c1 (by omega) rfl e1) (gives_sub a1 b1 c1 (diff a1 b1 c1) c2 l1 rfl e2) (gives_sub a2 b2 c2 (diff a2 b2 c2) c3 l2 rfl e3) (gives_sub a3 b3 c3 (diff a3 b3 c3) c4 l3 rfl e4)
    rw [bv] at h
    refine h.mono fun e w' ⟨he, hw⟩ => ⟨?_, hw⟩
    rw [he]
    by_cases hlt : val a0 a1 a2 a3 < val b0 b1 b2 b3
    · rw [if_pos hlt, decide_eq_true hlt]; rfl
    · rw [if_neg hlt, decide_eq_false hlt]; rfl

theorem add_any {a0 a1 a2 a3 b0 b1 b2 b3 : Nat} (ha : Words a0 a1 a2 a3) (hb : Words b0 b1 b2 b3) :
    ∃ s0 s1 s2 s3 : Nat, Words s0 s1 s2 s3 ∧ val s0 s1 s2 s3 = (val a0 a1 a2 a3 + val b0 b1 b2 b3) % 115792089237316195423570985008687907853269984665640564039457584007913129639936 ∧
    ∀ w : World, Calls Tryz.prog 62 #[.agg #[.int .u64 (a0 : Nat), .int .u64 (a1 : Nat), .int .u64 (a2 : Nat), .int .u64 (a3 : Nat)], .agg #[.int .u64 (b0 : Nat), .int .u64 (b1 : Nat), .int .u64 (b2 : Nat), .int .u64 (b3 : Nat)]] w fun e w' => e = .returned (.tuple #[.agg #[.int .u64 (s0 : Nat), .int .u64 (s1 : Nat), .int .u64 (s2 : Nat), .int .u64 (s3 : Nat)], .bool (decide (115792089237316195423570985008687907853269984665640564039457584007913129639936 ≤ val a0 a1 a2 a3 + val b0 b1 b2 b3))]) ∧ Below w.heap.size w w' := by
  obtain ⟨h0, h1, h2, h3⟩ := ha
  obtain ⟨k0, k1, k2, k3⟩ := hb
  obtain ⟨c1, e1⟩ : ∃ c, c = (a0 + b0 + 0) / 18446744073709551616 := ⟨_, rfl⟩
  obtain ⟨c2, e2⟩ : ∃ c, c = (a1 + b1 + c1) / 18446744073709551616 := ⟨_, rfl⟩
  obtain ⟨c3, e3⟩ : ∃ c, c = (a2 + b2 + c2) / 18446744073709551616 := ⟨_, rfl⟩
  obtain ⟨c4, e4⟩ : ∃ c, c = (a3 + b3 + c3) / 18446744073709551616 := ⟨_, rfl⟩
  have l1 : c1 ≤ 1 := by omega
  have l2 : c2 ≤ 1 := by omega
  have l3 : c3 ≤ 1 := by omega
  have l4 : c4 ≤ 1 := by omega
  obtain ⟨s0, g0⟩ : ∃ s, s = (a0 + b0 + 0) % 18446744073709551616 := ⟨_, rfl⟩
  obtain ⟨s1, g1⟩ : ∃ s, s = (a1 + b1 + c1) % 18446744073709551616 := ⟨_, rfl⟩
  obtain ⟨s2, g2⟩ : ∃ s, s = (a2 + b2 + c2) % 18446744073709551616 := ⟨_, rfl⟩
  obtain ⟨s3, g3⟩ : ∃ s, s = (a3 + b3 + c3) % 18446744073709551616 := ⟨_, rfl⟩
  have key : val s0 s1 s2 s3 + 115792089237316195423570985008687907853269984665640564039457584007913129639936 * c4 = val a0 a1 a2 a3 + val b0 b1 b2 b3 := by unfold val; omega
  have ws : Words s0 s1 s2 s3 := ⟨by omega, by omega, by omega, by omega⟩
  have lt : val s0 s1 s2 s3 < 115792089237316195423570985008687907853269984665640564039457584007913129639936 := by obtain ⟨_, _, _, _⟩ := ws; unfold val; omega
  refine ⟨s0, s1, s2, s3, ws, by omega, fun w => ?_⟩
  have h := add_words a0 a1 a2 a3 b0 b1 b2 b3 s0 s1 s2 s3 c1 c2 c3 c4 w (gives_add _ _ _ _ _ (by omega) g0 e1) (gives_add _ _ _ _ _ l1 g1 e2) (gives_add _ _ _ _ _ l2 g2 e3) (gives_add _ _ _ _ _ l3 g3 e4)
  refine h.mono fun e w' ⟨he, hw⟩ => ⟨?_, hw⟩
  rw [he]
  have hc : c4 = 0 ∨ c4 = 1 := by omega
  rcases hc with rfl | rfl
  · rw [decide_eq_false (by omega)]; rfl
  · rw [decide_eq_true (by omega)]; rfl

end Go.Proofs.YtimjmmiajgfblaaGreatDoor.Bg
