/- TxSame: two transactions held against each other. Condition: the tables lie as laid. -/
import Derived.Test.YtbdjcbdnhaddoaaDoorWorks
namespace Go.Proofs.YtbdjcbdnhaddoaaDoor
open Go.RowKit

set_option maxRecDepth 100000 in
set_option maxHeartbeats 8000000 in
theorem same_law {s t : TxD} {Ai : Option Addr} {ni ci : Nat} {Ao : Option Addr} {no co : Nat} {Bi : Option Addr} {mi di : Nat} {Bo : Option Addr} {mo do_ : Nat} {w : World} (hS : TxR w s Ai ni ci Ao no co) (hT : TxR w t Bi mi di Bo mo do_) (hLd : Laid w) :
    Calls Tryd.prog 5 #[.agg (txV s.ver Ai ni ci Ao no co s.lock).toArray, .agg (txV t.ver Bi mi di Bo mo do_ t.lock).toArray] w fun e w' => e = .returned (.bool true) ∧ Below w.heap.size w w' := by
  have b1 := (Below.refl w.heap.size w).alloc (Nat.le_refl _) (.cells (txV s.ver Ai ni ci Ao no co s.lock).toArray 26)
  have b2 := b1.alloc b1.size (.cells (txV t.ver Bi mi di Bo mo do_ t.lock).toArray 26)
  have r1 := (Ro.new w 26 (txV s.ver Ai ni ci Ao no co s.lock)).alloc (.cells (txV t.ver Bi mi di Bo mo do_ t.lock).toArray 26)
  have r2 := Ro.new (w.alloc (.cells (txV s.ver Ai ni ci Ao no co s.lock).toArray 26)) 26 (txV t.ver Bi mi di Bo mo do_ t.lock)
  rw [World.size_alloc] at r2
  have TS := Lib.hid (hS.later b2)
  have TT := Lib.hid (hT.later b2)
  have HD := Lib.hid (hLd.later hLd.lt b2)
  have BW := Lib.hid b2
  have R1 := Lib.hid r1
  have R2 := Lib.hid r2
  clear b1 b2 r1 r2 hS hT hLd
  obtain ⟨wa, hwa⟩ : ∃ wa, (w.alloc (.cells (txV s.ver Ai ni ci Ao no co s.lock).toArray 26)).alloc (.cells (txV t.ver Bi mi di Bo mo do_ t.lock).toArray 26) = wa := ⟨_, rfl⟩
  rw [hwa] at TS TT HD BW R1 R2
  have HWA := Lib.hid hwa
  obtain ⟨q1, hq1⟩ : ∃ q, w.heap.size = q := ⟨_, rfl⟩
  have q1s := Lib.hid hq1
  have CW : Hid (∀ u, Below wa.heap.size wa u → Calls Tryd.prog 12 #[] u fun e w' => e = .returned (.bool true) ∧ Below u.heap.size u w') := Lib.hid (fun u hu => works_any u (HD.out.later HD.out.lt hu))
  have H1 := Lib.hid (heavy_any wa TS.out)
  clear hwa hq1
  go_enter Tryd.func5, Tryd.ntmps5
  go_upto_region 1 with fail
  rw [HWA.out]
  go_cut [10] from 5 to 10 (fun v wx => ∃ b, v = .bool b ∧ Below wa.heap.size wa wx)
  case first =>
    go_wp2_with (first
      | (refine wpList_load_part rfl (.tmp 2) rfl rfl rowTx R1.out.whole rfl ?_)
      | (go_at_call 11; refine H1.out.mono ?_; rintro e w1 ⟨b, rfl, _, bel1⟩; have B1 := Lib.hid bel1; clear bel1 H1; cases b)
      | (go_at_call 11; refine (heavy_any w1 (TT.out.later B1.out)).mono ?_; rintro e w2 ⟨b2, rfl, _, bel2⟩; have B2 := Lib.hid (B1.out.trans (bel2.mono B1.out.size)); clear bel2)
      | (refine BigFrame.wpList_want (by rfl) fun K hK => wp_load_part rfl (.tmp 3) rfl rfl rowTx (R2.out.later B1.out).whole rfl (hK _ _ ?_)))
    · go_meet
      exact ⟨b2, rfl, B2.out⟩
    · go_meet
      exact ⟨true, rfl, B1.out⟩
  case rest =>
    obtain ⟨b, rfl, hB⟩ := hcut
    have B1 := Lib.hid hB
    have BW1 := Lib.hid (BW.out.trans (hB.mono BW.out.size))
    have C1 := Lib.hid (CW.out wc hB)
    have P1 := Lib.hid (R1.out.later hB)
    have P2 := Lib.hid (R2.out.later hB)
    have T1 := Lib.hid (TS.out.later hB)
    have T2 := Lib.hid (TT.out.later hB)
    clear hB R1 R2 TS TT
    cases b with
    | true =>
      go_wp2_with (go_at_call 12; refine C1.out.mono ?_; rintro e w3 ⟨rfl, bel3⟩)
      go_ret
      exact ⟨rfl, BW1.out.trans (bel3.mono BW1.out.size)⟩
    | false =>
      go_wp2_with fail
      refine wp_region_seg (W := wc) (by kernel_rfl) fun wa2 ga => ?_
      obtain ⟨q, hq⟩ : ∃ q, decide (s = t) = q := ⟨_, rfl⟩
      have HQ := Lib.hid hq
      have EQ : (q == q) = true := beq_self_eq_true q
      clear hq
      refine wpK_seg 0 16 (f := 0) (by kernel_rfl) (fun _ _ _ _ _ h => h) (by kernel_rfl) (by kernel_rfl) (by kernel_rfl) ga ?_
      apply Exists.intro
      refine ⟨?_, ?_⟩
      · intro wg hg
        simp only [List.drop_succ_cons, List.drop_zero, List.take_succ_cons, List.take_zero]
        have C1 : Hid (∀ u : After wg, Calls Tryd.prog 26 #[.agg (txV s.ver Ai ni ci Ao no co s.lock).toArray, .agg (txV t.ver Bi mi di Bo mo do_ t.lock).toArray] u.w fun e w' => e = .returned (.bool q) ∧ Below u.w.heap.size u.w w') := Lib.hid (fun u => by
          have h := txSame_any u.w ((T1.out.later hg).later u.below) ((T2.out.later hg).later u.below)
          rw [HQ.out] at h
          exact h)
        have C2 : Hid (∀ u : After wg, Calls Tryd.prog 25 #[.agg (txV s.ver Ai ni ci Ao no co s.lock).toArray, .agg (txV t.ver Bi mi di Bo mo do_ t.lock).toArray] u.w fun e w' => e = .returned (.bool q) ∧ Below u.w.heap.size u.w w') := Lib.hid (fun u => by
          have h := refSame_any u.w ((T1.out.later hg).later u.below) ((T2.out.later hg).later u.below)
          rw [HQ.out] at h
          exact h)
        have C3 : Hid (∀ u : After wg, Calls Tryd.prog 26 #[.agg (txV s.ver Ai ni ci Ao no co s.lock).toArray, .agg (txV s.ver Ai ni ci Ao no co s.lock).toArray] u.w fun e w' => e = .returned (.bool true) ∧ Below u.w.heap.size u.w w') := Lib.hid (fun u => by
          have h := txSame_any u.w ((T1.out.later hg).later u.below) ((T1.out.later hg).later u.below)
          rw [decide_eq_true rfl] at h
          exact h)
        have C4 : Hid (∀ u : After wg, Calls Tryd.prog 12 #[] u.w fun e w' => e = .returned (.bool true) ∧ Below u.w.heap.size u.w w') := Lib.hid (fun u => CW.out u.w (B1.out.trans ((Below.trans hg (u.below.mono hg.size)).mono B1.out.size)))
        have P1g := Lib.hid (P1.out.later hg)
        have P2g := Lib.hid (P2.out.later hg)
        go_big_quiet_want
        refine quiet_load_part (.tmp 2) rfl rfl rowTx (fun w9 h9 => by obtain ⟨u, rfl⟩ := h9; exact (P1g.out.later u.below).whole) rfl ?_
        simp only [Act.put, List.setIfInBounds_toArray, List.set_cons_succ, List.set_cons_zero]
        go_big_quiet_on
        go_big_quiet_want
        refine quiet_load_part (.tmp 3) rfl rfl rowTx (fun w9 h9 => by obtain ⟨u, rfl⟩ := h9; exact (P2g.out.later u.below).whole) rfl ?_
        simp only [Act.put, List.setIfInBounds_toArray, List.set_cons_succ, List.set_cons_zero]
        go_big_quiet_on
        go_big_quiet_step (exact after_call (C1.out _))
        repeat (go_big_quiet_step (fail))
        go_big_quiet_want
        refine quiet_load_part (.tmp 2) rfl rfl rowTx (fun w9 h9 => by obtain ⟨u, rfl⟩ := h9; exact (P1g.out.later u.below).whole) rfl ?_
        simp only [Act.put, List.setIfInBounds_toArray, List.set_cons_succ, List.set_cons_zero]
        go_big_quiet_on
        go_big_quiet_want
        refine quiet_load_part (.tmp 3) rfl rfl rowTx (fun w9 h9 => by obtain ⟨u, rfl⟩ := h9; exact (P2g.out.later u.below).whole) rfl ?_
        simp only [Act.put, List.setIfInBounds_toArray, List.set_cons_succ, List.set_cons_zero]
        go_big_quiet_on
        go_big_quiet_step (exact after_call (C2.out _))
        repeat (go_big_quiet_step (fail))
        go_big_quiet_want
        refine quiet_load_part (.tmp 2) rfl rfl rowTx (fun w9 h9 => by obtain ⟨u, rfl⟩ := h9; exact (P1g.out.later u.below).whole) rfl ?_
        simp only [Act.put, List.setIfInBounds_toArray, List.set_cons_succ, List.set_cons_zero]
        go_big_quiet_on
        go_big_quiet_want
        refine quiet_load_part (.tmp 2) rfl rfl rowTx (fun w9 h9 => by obtain ⟨u, rfl⟩ := h9; exact (P1g.out.later u.below).whole) rfl ?_
        simp only [Act.put, List.setIfInBounds_toArray, List.set_cons_succ, List.set_cons_zero]
        go_big_quiet_on
        go_big_quiet_step (exact after_call (C3.out _))
        repeat (go_big_quiet_step (fail))
        go_big_quiet_step (exact after_call (C4.out _))
        repeat (go_big_quiet_step (fail))
        refine wpQuiet_nil ?_
        exact rfl


      refine wpK_end (by kernel_rfl) fun wz gz => ?_
      have GZ : Below wc.heap.size wc wz := Grows.trans ga gz
      have BZ := Lib.hid (BW1.out.trans (GZ.mono BW1.out.size))
      go_wp2_with fail
      go_ret
      exact ⟨rfl, BZ.out⟩
end Go.Proofs.YtbdjcbdnhaddoaaDoor
