/- The lowest bytes of a number; Put of the package octet and of the document's answers of layer 4. No condition but a bound on the length. -/
import Derived.Test.YthglegjnkhifeaaDoorSame
namespace Go.Proofs.YthglegjnkhifeaaDoor
open Go.RowKit

/-- The lowest k bytes of a number, the lowest first. -/
def low (n : Nat) : Nat → List Nat
  | 0 => []
  | k + 1 => low n k ++ [n / 256 ^ k % 256]
theorem low_length (n : Nat) : ∀ k, (low n k).length = k
  | 0 => rfl
  | k + 1 => by rw [low, List.length_append, low_length n k]; rfl
theorem low_byt (n : Nat) : ∀ k, AllB (low n k)
  | 0 => allB_nil
  | k + 1 => by rw [low]; exact (low_byt n k).app (allB_one (Nat.mod_lt _ (by decide)))
theorem low_nth (n : Nat) : ∀ k j, j < k → nth (low n k) j = n / 256 ^ j % 256
  | 0, j, h => by omega
  | k + 1, j, h => by
    rw [low]
    by_cases e : j = k
    · subst e
      have := nth_right (low n j) [n / 256 ^ j % 256] 0
      rw [low_length, Nat.add_zero] at this
      rw [this]; rfl
    · rw [nth_left (by rw [low_length]; omega), low_nth n k j (by omega)]
def putS (L : List Nat) (n : Nat) (size : Int) : List Nat := if sizeB size = true then L ++ low n size.toNat else L
theorem putS_yes {L : List Nat} {n : Nat} {size : Int} (h : sizeB size = true) : putS L n size = L ++ low n size.toNat := if_pos h
theorem putS_no {L : List Nat} {n : Nat} {size : Int} (h : sizeB size = false) : putS L n size = L := if_neg (by rw [h]; decide)

/-- A number that is moved down byte by byte. -/
structure DownAt (n k : Nat) (x : Int) : Prop where
  eq : x = ((n / 256 ^ k : Nat) : Int)
  lo : 0 ≤ x
  hi : x < 18446744073709551616
theorem downAt_start {n : Nat} (h : n < 18446744073709551616) : DownAt n 0 (n : Int) := ⟨by rw [Nat.pow_zero, Nat.div_one], by omega, by omega⟩
theorem DownAt.step {n k : Nat} {x : Int} (h : DownAt n k x) : DownAt n (k + 1) (x / 256) := by
  have e : x / 256 = ((n / 256 ^ (k + 1) : Nat) : Int) := by
    rw [h.eq, Nat.pow_succ, ← Nat.div_div_eq_div_mul]
    exact (Int.natCast_ediv _ _).symm
  have h0 := h.lo
  have h1 := h.hi
  exact ⟨e, by omega, by omega⟩
theorem DownAt.byte {n k : Nat} {x : Int} (h : DownAt n k x) : x % 256 = ((n / 256 ^ k % 256 : Nat) : Int) := by
  rw [h.eq]; exact (Int.natCast_emod _ _).symm

set_option maxHeartbeats 1000000 in
theorem rlow_any (n : Nat) (hn : n < 18446744073709551616) (size : Nat) (hs : size ≤ 8) (w : World) : Calls Tryd.prog 29 #[.int .u64 (n : Nat), .int .i64 (size : Nat)] w (GivesB w (low n size)) := by
  obtain ⟨m, hm⟩ : ∃ m : Int, m = (n : Int) := ⟨_, rfl⟩
  have D0 := Lib.hid (downAt_start hn)
  rw [← hm] at D0 ⊢
  clear hm
  go_enter Tryd.func29, Tryd.ntmps29
  go_wp2_with fail
  go_loopw [0, 5, 6] (fun x v i wr => ∃ (k : Nat) (q : Int), k ≤ size ∧ i = .int .i64 (k : Nat) ∧ x = .int .u64 q ∧ DownAt n k q ∧ Own w v k (low n k) wr) (fun _ _ i _ => size - (intOf i).toNat)
  case atStart => exact ⟨0, m, by omega, rfl, rfl, D0.out, ⟨World.ownsRow_nil _ _ _ _, allB_nil, Below.refl _ _⟩⟩
  case round =>
    obtain ⟨k, q, hk, rfl, rfl, D, O⟩ := hrel
    have HD := Lib.hid D
    have q0 := D.lo
    have q1 := D.hi
    obtain ⟨A, c, rfl, _⟩ := O.shape
    have HO := Lib.hid O
    clear D O
    by_cases hlt : k < size
    · obtain ⟨b, hb⟩ : ∃ b : Nat, (b : Int) = q % 256 ∧ b < 256 ∧ b = n / 256 ^ k % 256 := ⟨n / 256 ^ k % 256, HD.out.byte.symm, Nat.mod_lt _ (by decide), rfl⟩
      obtain ⟨hb1, hb2, hb3⟩ := hb
      have HB3 := Lib.hid hb3
      have W1 : IntKind.u8.wrap (q % 256) = (b : Int) := by rw [IntKind.wrap_u8]; omega
      rw [← hb1] at W1
      have HB1 := Lib.hid hb1
      have hb4 : q % 256 = (b : Int) := hb1.symm
      clear hb1 hb3
      go_wp2_with (at_builtin; refine wpList_app rfl _ _ rfl rfl (HO.out.later ((Below.refl _ _).alloc (Nat.le_refl _) _)) rfl (Bs.lit1 _ hb2) ?c3 ?_)
      case c3 => omega
      intro A' c' w' h1 h2 _
      have H2 := Lib.hid h2
      clear h1 h2
      go_wp2_with fail
      go_roundw
      case rel => exact ⟨k + 1, q / 256, by omega, by go_num, rfl, HD.out.step, by rw [low, ← HB3.out]; exact H2.out⟩
      case measure => simp [intOf]; omega
    · obtain rfl : k = size := by omega
      go_wp2_with fail
      go_ret
      obtain ⟨A, c, e, hc⟩ := HO.out.shape
      exact ⟨A, k, c, by rw [← e]; rfl, hc, by rw [← e]; exact HO.out⟩
end Go.Proofs.YthglegjnkhifeaaDoor
