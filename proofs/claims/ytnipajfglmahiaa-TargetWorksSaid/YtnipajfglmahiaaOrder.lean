/- BigOrder of the statements of layer 2 returns true for all numbers: of two one is less, or both are the same; less goes on to the next; bits go with the order. -/
import Derived.Test.YtnipajfglmahiaaAnchor
import Derived.Test.YtnipajfglmahiaaMath
import Derived.Test.YtnipajfglmahiaaAfter
import Derived.Deep.RegionWith
namespace Go.Proofs.Ytnipajfglmahiaa
open Go.RowKit

def LessIs (a0 a1 a2 a3 b0 b1 b2 b3 : Nat) (r : Bool) : Prop := ∀ w : World, Calls Try.prog 20 #[.agg #[.int .u64 (a0 : Nat), .int .u64 (a1 : Nat), .int .u64 (a2 : Nat), .int .u64 (a3 : Nat)], .agg #[.int .u64 (b0 : Nat), .int .u64 (b1 : Nat), .int .u64 (b2 : Nat), .int .u64 (b3 : Nat)]] w fun e w' => e = .returned (.bool r) ∧ Below w.heap.size w w'
def BitsIs (a0 a1 a2 a3 n : Nat) : Prop := ∀ w : World, Calls Try.prog 22 #[.agg #[.int .u64 (a0 : Nat), .int .u64 (a1 : Nat), .int .u64 (a2 : Nat), .int .u64 (a3 : Nat)]] w fun e w' => e = .returned (.int .i64 (n : Nat)) ∧ Below w.heap.size w w'

theorem lessIs {a0 a1 a2 a3 b0 b1 b2 b3 : Nat} (ha : Words a0 a1 a2 a3) (hb : Words b0 b1 b2 b3) (r : Bool) (hr : r = decide (val a0 a1 a2 a3 < val b0 b1 b2 b3)) : LessIs a0 a1 a2 a3 b0 b1 b2 b3 r := by
  intro w
  have h := less_words a0 a1 a2 a3 b0 b1 b2 b3 _ _ _ _ _ _ _ _ w (gives_sub a0 b0 0 (diff a0 b0 0) (borrow a0 b0 0) (by omega) rfl rfl)
    (gives_sub a1 b1 _ (diff a1 b1 (borrow a0 b0 0)) (borrow a1 b1 (borrow a0 b0 0)) (borrow_le _ _ _) rfl rfl)
    (gives_sub a2 b2 _ (diff a2 b2 (borrow a1 b1 (borrow a0 b0 0))) (borrow a2 b2 (borrow a1 b1 (borrow a0 b0 0))) (borrow_le _ _ _) rfl rfl)
    (gives_sub a3 b3 _ (diff a3 b3 (borrow a2 b2 (borrow a1 b1 (borrow a0 b0 0)))) (borrow a3 b3 (borrow a2 b2 (borrow a1 b1 (borrow a0 b0 0)))) (borrow_le _ _ _) rfl rfl)
  rw [borrow_val ha hb] at h
  refine h.mono fun e w' ⟨he, hw⟩ => ⟨?_, hw⟩
  rw [he, hr]
  by_cases hlt : val a0 a1 a2 a3 < val b0 b1 b2 b3
  · rw [if_pos hlt, decide_eq_true hlt]; rfl
  · rw [if_neg hlt, decide_eq_false hlt]; rfl

theorem bitsIs {a0 a1 a2 a3 : Nat} (ha : Words a0 a1 a2 a3) : BitsIs a0 a1 a2 a3 (bits4 (Lib.bitLen a0) (Lib.bitLen a1) (Lib.bitLen a2) (Lib.bitLen a3) a0 a1 a2 a3) := by
  intro w
  obtain ⟨h0, h1, h2, h3⟩ := ha
  exact bits_words a0 a1 a2 a3 _ _ _ _ _ _ _ _ w (lenIs a0 _ h0 rfl) (lenIs a1 _ h1 rfl) (lenIs a2 _ h2 rfl) (lenIs a3 _ h3 rfl) (bitLen_le64 _ h0) (bitLen_le64 _ h1) (bitLen_le64 _ h2) (bitLen_le64 _ h3) rfl rfl rfl rfl

/-- '==' between two numbers, decided. -/
def EqIs (a0 a1 a2 a3 b0 b1 b2 b3 : Nat) (r : Bool) : Prop := ∀ w : World, (Op.equalIn 10000 25 (.agg #[.int .u64 (a0 : Nat), .int .u64 (a1 : Nat), .int .u64 (a2 : Nat), .int .u64 (a3 : Nat)]) (.agg #[.int .u64 (b0 : Nat), .int .u64 (b1 : Nat), .int .u64 (b2 : Nat), .int .u64 (b3 : Nat)])).run Try.prog w = .ok r w
theorem eqIs {a0 a1 a2 a3 b0 b1 b2 b3 : Nat} (ha : Words a0 a1 a2 a3) (hb : Words b0 b1 b2 b3) (r : Bool) (hr : r = decide (val a0 a1 a2 a3 = val b0 b1 b2 b3)) : EqIs a0 a1 a2 a3 b0 b1 b2 b3 r := by
  intro w
  rw [eq_big, hr]
  congr 1
  rw [Bool.eq_iff_iff]
  simp only [Bool.and_eq_true, beq_iff_eq, decide_eq_true_eq]
  constructor
  · rintro ⟨e0, e1, e2, e3⟩
    obtain rfl : a0 = b0 := by omega
    obtain rfl : a1 = b1 := by omega
    obtain rfl : a2 = b2 := by omega
    obtain rfl : a3 = b3 := by omega
    rfl
  · intro h
    obtain ⟨rfl, rfl, rfl, rfl⟩ := val_inj ha hb h
    exact ⟨rfl, rfl, rfl, rfl⟩

end Go.Proofs.Ytnipajfglmahiaa
