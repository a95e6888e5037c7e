/- What was put is taken: the plain facts of OctetBack. No condition. -/
import Derived.Test.YtcnmplkljpkheaaRTakeVar
import Derived.Test.YtcnmplkljpkheaaHex
namespace Go.Proofs.Ytcnmplkljpkheaa
open Go.RowKit

theorem numAt_low {Z : List Nat} : ∀ k n p, (∀ j, j < k → nth Z (p + j) = n / 256 ^ j % 256) → numAt Z p k = n % 256 ^ k
  | 0, n, _, _ => by rw [numAt, Nat.pow_zero, Nat.mod_one]
  | k + 1, n, p, h => by
    have h0 := h 0 (by omega)
    rw [Nat.add_zero, Nat.pow_zero, Nat.div_one] at h0
    have ih := numAt_low k (n / 256) (p + 1) (fun j hj => by
      have := h (j + 1) (by omega)
      rw [show p + 1 + j = p + (j + 1) by omega, this, Nat.pow_succ, Nat.mul_comm (256 ^ j), ← Nat.div_div_eq_div_mul])
    rw [numAt, h0, ih, Nat.pow_succ, Nat.mul_comm (256 ^ k), Nat.mod_mul]
theorem nth_mid {H M T : List Nat} {j : Nat} (h : j < M.length) : nth (H ++ M ++ T) (H.length + j) = nth M j := by
  rw [nth_left (by rw [List.length_append]; omega), nth_right]
theorem put_take {H T : List Nat} {n k : Nat} (hz : sizeB (k : Int) = true) : takeN (H ++ low n k ++ T) H.length k = n % 256 ^ k ∧ takeP (H ++ low n k ++ T) H.length k = H.length + k ∧ takeE (H ++ low n k ++ T) H.length k = 0 := by
  obtain ⟨h1, h2, h3⟩ := take_ok (L := H ++ low n k ++ T) (at_ := (H.length : Int)) (size := (k : Int)) hz (by omega) (by rw [List.length_append, List.length_append, low_length]; omega)
  refine ⟨?_, h2, h3⟩
  rw [h1, Int.toNat_natCast, Int.toNat_natCast]
  exact numAt_low k n H.length fun j hj => by rw [nth_mid (by rw [low_length]; exact hj), low_nth n k j hj]
theorem pow_behind {n : Nat} (hn : n < 18446744073709551616) (h : 253 ≤ n) : n % 256 ^ behindN (first n) = n := by
  rcases first_cases n with ⟨h1, _⟩ | ⟨_, h1, _, e⟩ | ⟨_, h1, _, e⟩ | ⟨_, _, e⟩
  · omega
  · rw [e, show (256 : Nat) ^ 2 = 65536 by decide]; omega
  · rw [e, show (256 : Nat) ^ 4 = 4294967296 by decide]; omega
  · rw [e, show (256 : Nat) ^ 8 = 18446744073709551616 by decide]; omega
theorem var_take {H T : List Nat} {n : Nat} (hn : n < 18446744073709551616) : tvOk (H ++ varS n ++ T) H.length ∧ tvN (H ++ varS n ++ T) H.length = n ∧ nth (H ++ varS n ++ T) H.length = first n := by
  have hl := varS_length n
  have h0 : nth (H ++ varS n ++ T) H.length = first n := by
    have := nth_mid (H := H) (M := varS n) (T := T) (j := 0) (by omega)
    rw [Nat.add_zero] at this
    rw [this, varS_head]
  have hlen : (H ++ varS n ++ T).length = H.length + (1 + behindN (first n)) + T.length := by rw [List.length_append, List.length_append, hl]
  by_cases h : n < 253
  · have e : first n = n := if_pos h
    refine ⟨⟨by omega, .inl (by rw [h0, e]; exact h)⟩, ?_, h0⟩
    unfold tvN
    rw [h0, e, if_pos h]
  · have hf : 253 ≤ first n := by
      rcases first_cases n with ⟨h1, _⟩ | ⟨_, _, e, _⟩ | ⟨_, _, e, _⟩ | ⟨_, e, _⟩ <;> omega
    have hnum : numAt (H ++ varS n ++ T) (H.length + 1) (behindN (first n)) = n := by
      rw [numAt_low _ n _ fun j hj => ?_, pow_behind hn (by omega)]
      rw [Nat.add_assoc, Nat.add_comm 1 j, nth_mid (by omega), varS_tail _ _ hj]
    refine ⟨⟨by omega, .inr (by rw [h0]; exact ⟨by omega, by rw [hnum]⟩)⟩, ?_, h0⟩
    unfold tvN
    rw [h0, if_neg (by omega), hnum]
theorem var_back {L : List Nat} (hb : AllB L) (h : tvOk L 0) : varS (tvN L 0) = L.take (1 + behindN (nth L 0)) ∧ 1 + behindN (nth L 0) ≤ L.length ∧ tvN L 0 < 18446744073709551616 := by
  obtain ⟨hp, h⟩ := h
  have hf := nth_lt hb 0
  by_cases hl : nth L 0 < 253
  · have e0 : behindN (nth L 0) = 0 := by unfold behindN; rw [if_neg (by omega), if_neg (by omega), if_neg (by omega)]
    have e1 : first (nth L 0) = nth L 0 := if_pos hl
    have e2 : tvN L 0 = nth L 0 := by unfold tvN; rw [if_pos hl]
    rw [e2, e0]
    refine ⟨?_, by omega, by omega⟩
    rw [varS, e1, e0, take_snoc' L 0 hp]
    rfl
  · obtain ⟨h1, h2⟩ := h.resolve_left hl
    have e2 : tvN L 0 = numAt L (0 + 1) (behindN (nth L 0)) := by unfold tvN; rw [if_neg hl]
    have hk := behind_le (nth L 0)
    rw [e2]
    refine ⟨?_, by omega, numAt_64 hb hk⟩
    generalize hk2 : behindN (nth L 0) = k at *
    refine nth_ext (by rw [varS_length, h2, hk2, List.length_take]; omega) fun j hj => ?_
    rw [varS_length, h2, hk2] at hj
    have et : nth (L.take (1 + k)) j = nth L j := by simp [nth, List.getD, hj]
    rw [et]
    rcases j with _ | j
    · rw [varS_head, h2]
    · rw [varS_tail _ _ (by rw [h2, hk2]; omega), numAt_byte hb k (0 + 1) j (by omega)]
      congr 1; omega
end Go.Proofs.Ytcnmplkljpkheaa
