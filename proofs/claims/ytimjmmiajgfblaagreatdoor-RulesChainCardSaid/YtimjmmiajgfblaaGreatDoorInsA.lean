/- cmp.Less over words of 32 bits, and an insertion sort in place. No condition but that the row is one's own. -/
import Derived.Test.YtimjmmiajgfblaaGreatDoorTms
import Derived.Test.YtimjmmiajgfblaaGreatDoorGad
import Derived.Test.YtimjmmiajgfblaaGreatDoorGat

namespace Go.Proofs.YtimjmmiajgfblaaGreatDoor
open Go.RowKit

theorem isNaN_any (x : Nat) (w : World) : Calls Tryz.prog 105 #[.int .u32 (x : Nat)] w fun e w' => e = .returned (.bool false) ∧ Below w.heap.size w w' := by
  go_enter Tryz.func105, Tryz.ntmps105
  go_wp2_with fail
  go_ret
  exact ⟨by simp, Below.refl _ _⟩
theorem less_any (x y : Nat) (w : World) : Calls Tryz.prog 86 #[.int .u32 (x : Nat), .int .u32 (y : Nat)] w fun e w' => e = .returned (.bool (decide (x < y))) ∧ Below w.heap.size w w' := by
  go_enter Tryz.func86, Tryz.ntmps86
  go_wp2_with fail
  refine (isNaN_any x _).mono ?_
  rintro e w1 ⟨rfl, h1⟩
  go_wp2_with fail
  go_ret
  exact ⟨by simp, h1⟩

set_option maxRecDepth 100000 in
set_option maxHeartbeats 4000000 in
/-- The first n of a block put in order. -/
theorem insertion_any {w0 : World} {g c n : Nat} {L : List Nat} (hl : L.length = n) (h1 : 1 ≤ n) (hn : n ≤ 1000) (w : World) (hT : Tw w0 g c L w) :
    Calls Tryz.prog 80 #[.slice (some ⟨g, 0, none⟩) n c, .int .i64 0, .int .i64 (n : Nat)] w fun e w' => e = .returned (.tuple #[]) ∧ Tw w0 g c (srt L) w' := by
  have HT := Lib.hid hT
  have HL := Lib.hid hl
  clear hT hl
  have s1 : Hid (srt (L.take 1) ++ L.drop 1 = L) := Lib.hid (by
    have e := take_nth (A := L) (j := 0) (by rw [HL.out]; omega)
    rw [List.take_zero, List.nil_append] at e
    rw [show (1 : Nat) = 0 + 1 from rfl, e]
    show [nth L 0] ++ _ = _
    rw [← e, List.take_append_drop])
  go_enter Tryz.func80, Tryz.ntmps80
  go_wp2_with fail
  go_loopw [6] (fun i wr => ∃ k : Nat, 1 ≤ k ∧ k ≤ n ∧ i = .int .i64 (k : Nat) ∧ Tw w0 g c (srt (L.take k) ++ L.drop k) wr) (fun i _ => n - (intOf i).toNat)
  case atStart => exact ⟨1, by omega, h1, rfl, HT.out.eq s1.out.symm⟩
  case round =>
    obtain ⟨k, hk1, hk, rfl, I⟩ := hrel
    have HI := Lib.hid I
    clear I s1
    by_cases hlt : k < n
    · obtain ⟨A, hA⟩ : ∃ A, srt (L.take k) = A := ⟨_, rfl⟩
      obtain ⟨R, hR⟩ : ∃ R, L.drop (k + 1) = R := ⟨_, rfl⟩
      obtain ⟨x, hx⟩ : ∃ x, nth L k = x := ⟨_, rfl⟩
      have lA : A.length = k := by rw [← hA, srt_len, List.length_take, HL.out]; omega
      have uA : Hid (Up A) := Lib.hid (hA ▸ srt_up _)
      have J0 : Hid (Tw w0 g c (midI A k x R) wr) := Lib.hid (HI.out.eq (by
        rw [hA, drop_nth (A := L) (j := k) (by rw [HL.out]; omega), hx, hR]
        unfold midI
        rw [List.take_of_length_le (by omega), List.drop_of_length_le (by omega), List.nil_append]))
      have eN : Hid (srt (L.take (k + 1)) ++ L.drop (k + 1) = ins x A ++ R) := Lib.hid (by rw [srt_take (by rw [HL.out]; omega), hA, hx, hR])
      have lR : Hid (A.length + 1 + R.length = n) := Lib.hid (by rw [← hR, List.length_drop, HL.out]; omega)
      clear hA hR hx
      go_wp2_with fail
      go_loopw [7] (fun i wr => ∃ j : Nat, j ≤ k ∧ i = .int .i64 (j : Nat) ∧ Tw w0 g c (midI A j x R) wr ∧ Hid (∀ y ∈ A.drop j, x < y)) (fun i _ => (intOf i).toNat)
      case atStart => exact ⟨k, Nat.le_refl _, rfl, J0.out, Lib.hid (by rw [List.drop_of_length_le (by omega)]; intro y hy; cases hy)⟩
      case round =>
        obtain ⟨j, hj, rfl, I, DJ⟩ := hrel
        have HJ := Lib.hid I
        clear I J0 HI
        by_cases hz : j = 0
        · subst hz
          go_wp2_with fail
          refine wp_region_after (by kernel_rfl) (by kernel_rfl) ?_
          repeat (go_big_quiet_step (fail))
          refine wpQuiet_nil ?_
          rintro _ ⟨u, rfl⟩
          have T1 := Lib.hid (HJ.out.later u.below)
          go_wp2_with fail
          exact ⟨⟨k + 1, by omega, by omega, by go_num, T1.out.eq (by rw [eN.out]; exact midI_end (by omega) uA.out DJ.out (fun h => absurd h (by omega)))⟩, by simp [intOf]; omega⟩
        · obtain ⟨q, rfl⟩ : ∃ q, j = q + 1 := ⟨j - 1, by omega⟩
          have lM := midI_len A (j := q + 1) (by omega) x R
          have c1 := HJ.out.cell (k := q + 1) (by rw [lM]; omega)
          rw [midI_at (by omega)] at c1
          have c0 := HJ.out.cell (k := q) (by rw [lM]; omega)
          rw [midI_low (by omega) (by omega)] at c0
          obtain ⟨y, hy⟩ : ∃ y, nth A q = y := ⟨_, rfl⟩
          rw [hy] at c0
          have HY := Lib.hid hy
          clear hy lM
          have u1 : ∀ u : After wr, u.w.cell? ⟨g, q + 1, none⟩ = some (.int .u32 (x : Nat)) := fun u => by rw [← c1]; exact u.below.cell HJ.out.lt
          have u0 : ∀ u : After wr, u.w.cell? ⟨g, q, none⟩ = some (.int .u32 (y : Nat)) := fun u => by rw [← c0]; exact u.below.cell HJ.out.lt
          clear c0 c1
          have CL := Lib.hid (less_any x y)
          by_cases hxy : x < y
          · have dxy : decide (x < y) = true := decide_eq_true hxy
            rw [dxy] at CL
            have HXY := Lib.hid hxy
            clear hxy dxy
            go_wp2_with fail
            refine wp_region_after (by kernel_rfl) (by kernel_rfl) ?_
            repeat (go_big_quiet_step ((go_at_call 86; exact after_call (CL.out _))))
            refine wpQuiet_nil ?_
            rintro _ ⟨u, rfl⟩
            have c1 := u1 u
            have c0 := u0 u
            have T1 := Lib.hid (HJ.out.later u.below)
            have f1 := T1.out.free (q + 1)
            have f0 := T1.out.free q
            clear u1 u0
            go_wp2_with fail
            go_region
            have e2 : ((midI A (q + 1) x R).set (q + 1) y).set q x = midI A q x R := by
              have := midI_swap (A := A) (j := q) (by omega) x R
              rwa [HY.out] at this
            have T2 := Lib.hid (Tw.later (Tw.eq (Tw.set (k := q) (Tw.set (k := q + 1) T1.out (by rw [midI_len A (by omega)]; omega) y) (by rw [List.length_set, midI_len A (by omega)]; omega) x) e2) ((Below.refl _ _).drew))
            clear e2
            go_wp2_with fail
            exact ⟨⟨q, by omega, by go_num, T2.out, Lib.hid (drop_less (A := A) (j := q) (x := x) (by omega) DJ.out (HY.out.symm ▸ HXY.out))⟩, by simp [intOf]⟩
          · have dxy : decide (x < y) = false := decide_eq_false hxy
            rw [dxy] at CL
            have HXY := Lib.hid hxy
            clear hxy dxy
            go_wp2_with fail
            refine wp_region_after (by kernel_rfl) (by kernel_rfl) ?_
            repeat (go_big_quiet_step ((go_at_call 86; exact after_call (CL.out _))))
            refine wpQuiet_nil ?_
            rintro _ ⟨u, rfl⟩
            have T1 := Lib.hid (HJ.out.later u.below)
            go_wp2_with fail
            exact ⟨⟨k + 1, by omega, by omega, by go_num, T1.out.eq (by rw [eN.out]; exact midI_end (by omega) uA.out DJ.out (fun h => by rw [Nat.add_sub_cancel, HY.out]; exact Nat.le_of_not_lt HXY.out))⟩, by simp [intOf]; omega⟩
    · obtain rfl : k = n := by omega
      go_wp2_with fail
      refine bodyPost_end (results_none rfl _ _ _) rfl ?_
      have := HI.out
      rw [List.take_of_length_le (by rw [HL.out]; omega), List.drop_of_length_le (by rw [HL.out]; omega), List.append_nil] at this
      exact ⟨rfl, this⟩

set_option maxRecDepth 100000 in
set_option maxHeartbeats 4000000 in
theorem len_any (n : Nat) (hn : n < 18446744073709551616) (w : World) : Calls Tryz.prog 66 #[.int .u64 (n : Nat)] w fun e w' => (∃ z : Nat, z ≤ 64 ∧ e = .returned (.int .i64 (z : Nat))) ∧ Below w.heap.size w w' := by
  go_enter Tryz.func66, Tryz.ntmps66
  go_wp2_with fail
  refine (Bg.lenIs n _ hn rfl _).mono ?_
  rintro e w1 ⟨rfl, rfl⟩
  go_wp2_with fail
  go_ret
  exact ⟨⟨_, Bg.bitLen_le64 _ hn, rfl⟩, Below.refl _ _⟩

set_option maxRecDepth 100000 in
set_option maxHeartbeats 4000000 in
theorem pdq_any {w0 : World} {g c n z : Nat} {L : List Nat} (hl : L.length = n) (h1 : 1 ≤ n) (hn : n ≤ 12) (w : World) (hT : Tw w0 g c L w) :
    Calls Tryz.prog 65 #[.slice (some ⟨g, 0, none⟩) n c, .int .i64 0, .int .i64 (n : Nat), .int .i64 (z : Nat)] w fun e w' => e = .returned (.tuple #[]) ∧ Tw w0 g c (srt L) w' := by
  have CI := Lib.hid (fun w hT => insertion_any (w0 := w0) (g := g) (c := c) (n := n) hl h1 (by omega) w hT)
  have HT := Lib.hid hT
  clear hT hl
  go_enter Tryz.func65, Tryz.ntmps65
  go_wp2_with fail
  refine wp_loop_rounds 1 ?_
  rw [rounds_succ]
  go_wp2_with fail
  refine (CI.out _ HT.out).mono ?_
  rintro e w1 ⟨rfl, h2⟩
  have H2 := Lib.hid h2
  clear h2
  go_wp2_with fail
  refine bodyPost_ret (results_none rfl _ _ _) rfl ⟨rfl, H2.out⟩

set_option maxRecDepth 100000 in
set_option maxHeartbeats 4000000 in
/-- Sort, of at most twelve. -/
theorem sort_any {w0 : World} {g c n : Nat} {L : List Nat} (hl : L.length = n) (h1 : 1 ≤ n) (hn : n ≤ 12) (w : World) (hT : Tw w0 g c L w) :
    Calls Tryz.prog 34 #[.slice (some ⟨g, 0, none⟩) n c] w fun e w' => e = .returned (.tuple #[]) ∧ Tw w0 g c (srt L) w' := by
  have HT := Lib.hid hT
  have HL := Lib.hid hl
  clear hT hl
  go_enter Tryz.func34, Tryz.ntmps34
  go_wp2_with fail
  refine (len_any n (by omega) _).mono ?_
  rintro e w1 ⟨⟨z, hz, rfl⟩, b1⟩
  have H1 := Lib.hid (HT.out.later b1)
  clear b1 HT
  go_wp2_with fail
  refine (pdq_any HL.out h1 hn _ H1.out).mono ?_
  rintro e w2 ⟨rfl, h2⟩
  have H2 := Lib.hid h2
  clear h2
  go_wp2_with fail
  refine bodyPost_end (results_none rfl _ _ _) rfl ⟨rfl, H2.out⟩
end Go.Proofs.YtimjmmiajgfblaaGreatDoor
