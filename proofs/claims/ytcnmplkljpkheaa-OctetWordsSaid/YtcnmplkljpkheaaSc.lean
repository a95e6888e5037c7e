/- The small functions of layer 4 that only compute: sizes, first bytes, letters, and the looks at a slice's length. No condition but the range of the arguments. -/
import Derived.Test.YtcnmplkljpkheaaB
import Derived.WalkSmall
import Derived.WalkSpells
namespace Go.Proofs.Ytcnmplkljpkheaa
open Go.RowKit

def sizeB (n : Int) : Bool := decide (n = 1 ∨ n = 2 ∨ n = 4 ∨ n = 8)
theorem sizeB_cases {n : Int} (h : sizeB n = true) : n = 1 ∨ n = 2 ∨ n = 4 ∨ n = 8 := of_decide_eq_true h
theorem sizeB_no {n : Int} (h : sizeB n = false) : n ≠ 1 ∧ n ≠ 2 ∧ n ≠ 4 ∧ n ≠ 8 := by
  have := of_decide_eq_false h
  omega

theorem isSize_any (n : Int) (w : World) : Calls Try.prog 30 #[.int .i64 n] w fun e w' => e = .returned (.bool (sizeB n)) ∧ w' = w := by
  cases h : sizeB n with
  | true =>
    rcases sizeB_cases h with rfl | rfl | rfl | rfl
    all_goals
      go_enter Try.func30, Try.ntmps30
      go_wp2_with fail
      go_ret
      exact ⟨rfl, rfl⟩
  | false =>
    obtain ⟨h1, h2, h4, h8⟩ := sizeB_no h
    have t1 : (n == 1) = false := beq_eq_false_iff_ne.2 h1
    have t2 : (n == 2) = false := beq_eq_false_iff_ne.2 h2
    have t4 : (n == 4) = false := beq_eq_false_iff_ne.2 h4
    have t8 : (n == 8) = false := beq_eq_false_iff_ne.2 h8
    clear h
    go_enter Try.func30, Try.ntmps30
    go_wp2_with fail
    go_ret
    exact ⟨rfl, rfl⟩
theorem rsize_any (n : Int) (w : World) : Calls Try.prog 32 #[.int .i64 n] w fun e w' => e = .returned (.bool (sizeB n)) ∧ w' = w := by
  cases h : sizeB n with
  | true =>
    rcases sizeB_cases h with rfl | rfl | rfl | rfl
    all_goals
      go_enter Try.func32, Try.ntmps32
      go_wp2_with fail
      go_ret
      exact ⟨rfl, rfl⟩
  | false =>
    obtain ⟨h1, h2, h4, h8⟩ := sizeB_no h
    have t1 : (n == 1) = false := beq_eq_false_iff_ne.2 h1
    have t2 : (n == 2) = false := beq_eq_false_iff_ne.2 h2
    have t4 : (n == 4) = false := beq_eq_false_iff_ne.2 h4
    have t8 : (n == 8) = false := beq_eq_false_iff_ne.2 h8
    clear h
    go_enter Try.func32, Try.ntmps32
    go_wp2_with fail
    go_ret
    exact ⟨rfl, rfl⟩

/-- The first byte of a number's short form. -/
def first (n : Nat) : Nat := if n < 253 then n else if n < 65536 then 253 else if n < 4294967296 then 254 else 255
theorem first_lt (n : Nat) : first n < 256 := by unfold first; split <;> (try split) <;> (try split) <;> omega
theorem firstOf_any (n : Nat) (hn : n < 18446744073709551616) (w : World) : Calls Try.prog 34 #[.int .u64 (n : Nat)] w fun e w' => e = .returned (.int .u8 (first n : Nat)) ∧ w' = w := by
  obtain ⟨m, hm⟩ : ∃ m : Int, m = (n : Int) := ⟨_, rfl⟩
  rw [← hm]
  have key : ∀ r : Nat, first n = r → ∀ x : Int, x = (r : Int) → Ending.returned (.int .u8 x) = .returned (.int .u8 (first n : Nat)) := fun r h1 x h2 => by rw [h1, h2]
  have K := Lib.hid key
  have HM := Lib.hid hm
  clear key
  by_cases h1 : n < 253
  · have b0 : 0 ≤ m := by omega
    have b1 : m < 253 := by omega
    clear hm
    go_enter Try.func34, Try.ntmps34
    go_wp2_with fail
    go_ret
    exact ⟨K.out n (by unfold first; rw [if_pos h1]) _ HM.out, rfl⟩
  · by_cases h2 : n < 65536
    · have b0 : 253 ≤ m := by omega
      have b1 : m < 65536 := by omega
      clear hm
      go_enter Try.func34, Try.ntmps34
      go_wp2_with fail
      go_ret
      exact ⟨K.out 253 (by unfold first; rw [if_neg h1, if_pos h2]) _ rfl, rfl⟩
    · by_cases h3 : n < 4294967296
      · have b0 : 65536 ≤ m := by omega
        have b1 : m < 4294967296 := by omega
        clear hm
        go_enter Try.func34, Try.ntmps34
        go_wp2_with fail
        go_ret
        exact ⟨K.out 254 (by unfold first; rw [if_neg h1, if_neg h2, if_pos h3]) _ rfl, rfl⟩
      · have b0 : 65536 ≤ m := by omega
        have b1 : 4294967296 ≤ m := by omega
        clear hm
        go_enter Try.func34, Try.ntmps34
        go_wp2_with fail
        go_ret
        exact ⟨K.out 255 (by unfold first; rw [if_neg h1, if_neg h2, if_neg h3]) _ rfl, rfl⟩

/-- How many bytes stand behind the first byte of a short form. -/
def behindN (f : Nat) : Nat := if f = 253 then 2 else if f = 254 then 4 else if f = 255 then 8 else 0
theorem behind_any (f : Nat) (_hf : f < 256) (w : World) : Calls Try.prog 35 #[.int .u8 (f : Nat)] w fun e w' => e = .returned (.int .i64 (behindN f : Nat)) ∧ w' = w := by
  rcases (by omega : f = 255 ∨ f = 254 ∨ f = 253 ∨ (f ≠ 255 ∧ f ≠ 254 ∧ f ≠ 253)) with rfl | rfl | rfl | ⟨h1, h2, h3⟩
  · go_enter Try.func35, Try.ntmps35
    go_wp2_with fail
    go_ret
    exact ⟨rfl, rfl⟩
  · go_enter Try.func35, Try.ntmps35
    go_wp2_with fail
    go_ret
    exact ⟨rfl, rfl⟩
  · go_enter Try.func35, Try.ntmps35
    go_wp2_with fail
    go_ret
    exact ⟨rfl, rfl⟩
  · have t1 : ((f : Int) == 255) = false := beq_eq_false_iff_ne.2 (by omega)
    have t2 : ((f : Int) == 254) = false := beq_eq_false_iff_ne.2 (by omega)
    have t3 : ((f : Int) == 253) = false := beq_eq_false_iff_ne.2 (by omega)
    have hb : behindN f = 0 := by unfold behindN; rw [if_neg h3, if_neg h2, if_neg h1]
    rw [hb]
    clear h1 h2 h3 hb
    go_enter Try.func35, Try.ntmps35
    go_wp2_with fail
    go_ret
    exact ⟨rfl, rfl⟩

/-- The letter of half a byte. -/
def letterN (x : Nat) : Nat := if x < 10 then 48 + x else 87 + x
theorem letter_any (x : Nat) (hx : x < 16) (w : World) : Calls Try.prog 41 #[.int .u8 (x : Nat)] w fun e w' => e = .returned (.int .u8 (letterN x : Nat)) ∧ w' = w := by
  by_cases h : x < 10
  · have hl : letterN x = 48 + x := if_pos h
    rw [hl]
    clear hl
    go_enter Try.func41, Try.ntmps41
    go_wp2_with fail
    go_ret
    exact ⟨by go_num, rfl⟩
  · have hl : letterN x = 87 + x := if_neg h
    rw [hl]
    clear hl
    go_enter Try.func41, Try.ntmps41
    go_wp2_with fail
    go_ret
    exact ⟨ret_int (by omega), rfl⟩

theorem vast_any (A : Option Addr) (n c : Nat) (hn : n ≤ 9223372036854775807) (w : World) : Calls Try.prog 8 #[.slice A n c] w fun e w' => e = .returned (.bool (decide (16384 < n))) ∧ w' = w := by
  by_cases h : 16384 < n
  · go_enter Try.func8, Try.ntmps8
    go_wp2_with fail
    go_ret
    exact ⟨by simp [show (16384 : Int) < (n : Int) from by omega, h], rfl⟩
  · go_enter Try.func8, Try.ntmps8
    go_wp2_with fail
    go_ret
    exact ⟨by simp [show (n : Int) ≤ 16384 from by omega, h], rfl⟩
end Go.Proofs.Ytcnmplkljpkheaa
