/- What the reference hashes of a history. No condition but a bound on the length. -/
import Derived.Test.YtipbpecihbmneaaDoorEs
import Derived.Test.YtipbpecihbmneaaDoorTurned
import Derived.Test.YtipbpecihbmneaaDoorDigits
import Derived.Test.YtipbpecihbmneaaDoorEnd
namespace Go.Proofs.YtipbpecihbmneaaDoor
open Go.RowKit

theorem entT_len {e : En} (h : e.Ok) : (entT e).length ≤ 87 := by
  unfold entT
  have := digN_len e.h h.1
  rw [List.length_append, hexL_length, List.length_reverse, h.2.1, List.length_cons, List.length_append, List.length_singleton]
  omega
theorem textS_len : ∀ {l : List En}, OkEs l → (textS l).length ≤ 87 * l.length
  | [], _ => Nat.le_refl _
  | e :: l, h => by
    have h1 := entT_len (h e (by simp))
    have h2 := textS_len h.tail
    rw [textS, List.length_append, List.length_cons]
    omega
theorem textS_snoc (l : List En) (e : En) : textS (l ++ [e]) = ((textS l ++ hexL e.tx.reverse) ++ [58] ++ digN e.h) ++ [58] := by
  rw [textS_app]
  simp [textS, entT]
theorem strB_58 (L : List Nat) : strB L ++ ({ data := #[58] } : ByteArray) = strB (L ++ [58]) := strB_app L [58]
theorem range_rl {w w1 : World} {b o : Nat} {cs : List Value} (h : w.rangeAt b o cs) (hb : b < w.heap.size) (g : Below w.heap.size w w1) : w1.rangeAt b o cs := fun j v hj => by
  rw [← h j v hj]; exact g.cell hb
theorem range_tx {w : World} {b o : Nat} {e : En} (hr : w.rangeAt b o (enV e)) : w.rangeAt b (o + 1) (vals e.tx) := fun j v hj => by
  have := hr (j + 1) v (by simpa [enV] using hj)
  rwa [show o + (j + 1) = o + 1 + j by omega] at this
theorem cell_h {w : World} {b o : Nat} {e : En} (hr : w.rangeAt b o (enV e)) : w.cell? ⟨b, o, none⟩ = some (.int .i64 e.h) := hr 0 _ rfl

set_option maxRecDepth 100000 in
set_option maxHeartbeats 4000000 in
theorem htext_any {A : Option Addr} {n c : Nat} {l : List En} (w : World) (hn : n ≤ 1000000) (hL : Es w A n l) : Calls Tryd.prog 11 #[.slice A n c] w fun e w' => e = .returned (.string (strB (textS l))) ∧ Below w.heap.size w w' := by
  have HL := Lib.hid hL
  have HN := Lib.hid hL.len
  clear hL
  go_enter Tryd.func11, Tryd.ntmps11
  go_wp2_with fail
  go_loopw [3, 4] (fun s i wr => ∃ k : Nat, k ≤ n ∧ s = .string (strB (textS (l.take k))) ∧ i = .int .i64 (k : Nat) ∧ Below w.heap.size w wr) (fun _ i _ => n - (intOf i).toNat)
  case atStart => exact ⟨0, Nat.zero_le _, rfl, rfl, Below.refl _ _⟩
  case round =>
    obtain ⟨k, hk, rfl, rfl, bel⟩ := hrel
    have HB := Lib.hid bel
    clear bel
    by_cases hlt : k < n
    · have t1 : decide ((k : Int) < (n : Int)) = true := decide_eq_true (by omega)
      obtain ⟨b, o, rfl, hb, _⟩ := HL.out.cel (by omega)
      have ad := add_at b o
      have R1 := Lib.hid (((HL.out.later HB.out).at_ hlt).2)
      have ok1 := Lib.hid (nthE_ok HL.out.ok k)
      have TK := Lib.hid (take_nthE (l := l) (k := k) (by rw [HN.out]; exact hlt))
      have hb' : Hid (b < wr.heap.size) := Lib.hid (Nat.lt_of_lt_of_le hb HB.out.size)
      obtain ⟨e, he⟩ : ∃ e, nthE l k = e := ⟨_, rfl⟩
      rw [he] at R1 ok1 TK
      have ML := textS_len (HL.out.ok.take k)
      rw [List.length_take, HN.out] at ML
      have XL : (hexL e.tx.reverse).length = 64 := by rw [hexL_length, List.length_reverse, ok1.out.2.1]
      have DL := digN_len e.h ok1.out.1
      have TS := textS_snoc (l.take k) e
      rw [← TK.out] at TS
      obtain ⟨M, hM⟩ : ∃ M, textS (l.take k) = M := ⟨_, rfl⟩
      rw [hM] at ML TS ⊢
      have c0 := Lib.hid (cell_h R1.out)
      have RT := Lib.hid (range_tx R1.out)
      have CT := Lib.hid (rturned_any (H := e.tx) ⟨ok1.out.2.1, ok1.out.2.2⟩)
      have CD := digits_any ok1.out.1
      unfold DigIs at CD
      obtain ⟨hh, hhh⟩ : ∃ z : Int, e.h = z := ⟨_, rfl⟩
      have lt : Hid ((vals e.tx).length = 32) := Lib.hid (by rw [vals_length]; exact ok1.out.2.1)
      obtain ⟨tx, htx⟩ : ∃ z, e.tx = z := ⟨_, rfl⟩
      rw [hhh] at c0 CD DL TS
      rw [htx] at RT CT lt XL TS
      have kM : k ≤ 1000000 := by omega
      have mL : M.length ≤ 87 * 1000000 := by omega
      have z1 : ¬ 9223372036854775807 < (strB M).size + (strB (hexL tx.reverse)).size := by rw [strB_size, strB_size, XL]; omega
      have z2 : ¬ 9223372036854775807 < (strB (M ++ hexL tx.reverse)).size + ({ data := #[58] } : ByteArray).size := by rw [strB_size, List.length_append, XL]; show ¬ _ < _ + 1; omega
      have z3 : ¬ 9223372036854775807 < (strB (M ++ hexL tx.reverse ++ [58])).size + (strB (digN hh)).size := by rw [strB_size, strB_size, List.length_append, List.length_append, XL, List.length_singleton]; omega
      have z4 : ¬ 9223372036854775807 < (strB (M ++ hexL tx.reverse ++ [58] ++ digN hh)).size + ({ data := #[58] } : ByteArray).size := by rw [strB_size, List.length_append, List.length_append, List.length_append, XL, List.length_singleton]; show ¬ _ < _ + 1; omega
      have e1 := strB_app M (hexL tx.reverse)
      have e2 := strB_58 (M ++ hexL tx.reverse)
      have e3 := strB_app (M ++ hexL tx.reverse ++ [58]) (digN hh)
      have e4 := strB_58 (M ++ hexL tx.reverse ++ [58] ++ digN hh)
      rw [← TS] at e4
      obtain ⟨S0, hS0⟩ : ∃ S, strB M = S := ⟨_, rfl⟩
      obtain ⟨X, hX⟩ : ∃ S, strB (hexL tx.reverse) = S := ⟨_, rfl⟩
      obtain ⟨S1, hS1⟩ : ∃ S, strB (M ++ hexL tx.reverse) = S := ⟨_, rfl⟩
      obtain ⟨S2, hS2⟩ : ∃ S, strB (M ++ hexL tx.reverse ++ [58]) = S := ⟨_, rfl⟩
      obtain ⟨D, hD⟩ : ∃ S, strB (digN hh) = S := ⟨_, rfl⟩
      obtain ⟨S3, hS3⟩ : ∃ S, strB (M ++ hexL tx.reverse ++ [58] ++ digN hh) = S := ⟨_, rfl⟩
      obtain ⟨S4, hS4⟩ : ∃ S, strB (textS (l.take (k + 1))) = S := ⟨_, rfl⟩
      have HS4 := Lib.hid hS4
      have CTt : Hid (∀ w, Calls Tryd.prog 13 #[.agg (vals tx).toArray] w fun e w' => e = .returned (.string X) ∧ Below w.heap.size w w') := Lib.hid (fun w => by rw [← hX]; exact CT.out w)
      have CDd : Hid (∀ w, Calls Tryd.prog 19 #[.int .i64 hh] w fun e w' => e = .returned (.string D) ∧ Below w.heap.size w w') := Lib.hid (fun w => by rw [← hD]; exact CD w)
      rw [hS0, hX] at e1 z1
      rw [hS1] at e1 e2 z2
      rw [hS2] at e2 e3 z3
      rw [hD] at e3 z3
      rw [hS3] at e3 e4 z4
      rw [hS4] at e4
      rw [hS0]
      clear hS0 hX hS1 hS2 hD hS3 hS4 hM ML TS CT CD DL XL htx hhh he hb TK mL kM R1 ok1
      have cu : ∀ u : After wr, u.w.cell? ⟨b, o + k * 33, none⟩ = some (.int .i64 hh) := fun u => u.cell c0.out
      go_wp2_with fail
      refine wp_region_after (by kernel_rfl) (by kernel_rfl) ?_
      repeat (go_big_quiet_step (fail))
      go_big_quiet_want
      refine quiet_load_part (.tmp 15) rfl rfl row26 (fun w9 h9 => by obtain ⟨u, rfl⟩ := h9; exact range_rl RT.out hb'.out u.below) lt.out ?_
      simp only [Act.put, List.setIfInBounds_toArray, List.set_cons_succ, List.set_cons_zero]
      go_big_quiet_on
      go_big_quiet_step (exact after_call (CTt.out _))
      repeat (go_big_quiet_step (fail))
      go_big_quiet_step (exact after_call (CDd.out _))
      repeat (go_big_quiet_step (fail))
      refine wpQuiet_nil ?_
      rintro wz ⟨u, rfl⟩
      have Bz := Lib.hid (HB.out.trans (u.below.mono HB.out.size))
      go_wp2_with fail
      exact ⟨⟨k + 1, by omega, by rw [HS4.out], by go_num, Bz.out⟩, by simp [intOf]; omega⟩
    · have t1 : decide ((k : Int) < (n : Int)) = false := decide_eq_false (by omega)
      obtain rfl : k = n := by omega
      have TA := Lib.hid (show l.take k = l from List.take_of_length_le (by rw [HN.out]; exact Nat.le_refl _))
      rw [TA.out]
      go_wp2_with fail
      go_ret
      exact ⟨rfl, HB.out⟩
end Go.Proofs.YtipbpecihbmneaaDoor
