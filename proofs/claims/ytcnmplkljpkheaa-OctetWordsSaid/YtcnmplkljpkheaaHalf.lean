/- What a letter says, and Unhex of the document's answers of layer 4. No condition but a bound on the length. -/
import Derived.Test.YtcnmplkljpkheaaUnhex
import Derived.Test.YtcnmplkljpkheaaRHex
namespace Go.Proofs.Ytcnmplkljpkheaa
open Go.RowKit

theorem half_all : ∀ c : Fin 256, (∀ x : Fin 16, letterN x.val = c.val ↔ (hokB c.val = true ∧ hv c.val = x.val)) := by decide +kernel
theorem letter_is {c x : Nat} (hc : c < 256) (hx : x < 16) : letterN x = c ↔ (hokB c = true ∧ hv c = x) := half_all ⟨c, hc⟩ ⟨x, hx⟩

set_option maxRecDepth 100000 in
set_option maxHeartbeats 2000000 in
theorem half_any (c : Nat) (hc : c < 256) (w : World) : Calls Try.prog 39 #[.int .u8 (c : Nat)] w fun e w' => e = .returned (.tuple #[.int .u8 ((if hokB c = true then hv c else 0 : Nat) : Int), .bool (hokB c)]) ∧ w' = w := by
  obtain ⟨r, hr⟩ : ∃ r : Value, r = .tuple #[.int .u8 ((if hokB c = true then hv c else 0 : Nat) : Int), .bool (hokB c)] := ⟨_, rfl⟩
  rw [← hr]
  have HR := Lib.hid hr
  clear hr
  go_enter Try.func39, Try.ntmps39
  go_wp2_with fail
  go_loop [4] (fun i => ∃ k : Nat, k ≤ 16 ∧ i = .int .u8 (k : Nat) ∧ Hid (∀ j, j < k → letterN j ≠ c)) (fun i => 16 - (intOf i).toNat)
  case atStart => exact ⟨0, by omega, rfl, fun j hj => absurd hj (by omega)⟩
  case round =>
    obtain ⟨k, hk, rfl, NO⟩ := hrel
    by_cases hlt : k < 16
    · have hL := letter_v hlt rfl (p := k)
      obtain ⟨y, hy⟩ : ∃ y, letterN k = y := ⟨_, rfl⟩
      rw [hy] at hL
      have HL := Lib.hid hL
      have y8 : y < 256 := by rw [← hy]; exact letterN_lt hlt
      have HY := Lib.hid hy
      clear hL hy
      by_cases hyc : y = c
      · have t1 : ((y : Int) == (c : Int)) = true := by rw [beq_iff_eq]; omega
        have hres := (letter_is hc hlt).1 (HY.out.trans hyc)
        have HRES := Lib.hid hres
        clear hyc hres
        go_wp2_with fail
        refine (HL.out _).mono ?_
        rintro e w2 ⟨rfl, rfl⟩
        go_wp2_with fail
        go_ret2
        exact ⟨by rw [HR.out, HRES.out.1, HRES.out.2]; rfl, rfl⟩
      · have t1 : ((y : Int) == (c : Int)) = false := beq_eq_false_iff_ne.2 (by omega)
        have HYC := Lib.hid hyc
        clear hyc
        go_wp2_with fail
        refine (HL.out _).mono ?_
        rintro e w2 ⟨rfl, rfl⟩
        go_wp2_with fail
        go_round
        case rel => exact ⟨k + 1, by omega, by go_num, fun j hj => by
          rcases (by omega : j < k ∨ j = k) with h | rfl
          · exact NO.out j h
          · rw [HY.out]; exact HYC.out⟩
        case measure => simp [intOf]; omega
    · obtain rfl : k = 16 := by omega
      have hno : hokB c = false := by
        cases h : hokB c with
        | false => rfl
        | true => exact absurd ((letter_is hc (hv_lt h)).2 ⟨h, rfl⟩) (NO.out _ (hv_lt h))
      have HNO := Lib.hid hno
      clear hno
      go_wp2_with fail
      go_ret2
      exact ⟨by rw [HR.out, HNO.out]; rfl, rfl⟩
end Go.Proofs.Ytcnmplkljpkheaa
