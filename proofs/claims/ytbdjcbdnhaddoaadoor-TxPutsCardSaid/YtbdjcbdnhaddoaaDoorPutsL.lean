/- TxPuts: a transaction's bytes, its bare bytes, its hash, whether it may be and whether it mints: the program's and the document's answer. Condition: the tables lie as laid. -/
import Derived.Test.YtbdjcbdnhaddoaaDoorWorks
namespace Go.Proofs.YtbdjcbdnhaddoaaDoor
open Go.RowKit

set_option maxRecDepth 100000 in
set_option maxHeartbeats 8000000 in
theorem puts_law {t : TxD} {Ai : Option Addr} {ni ci : Nat} {Ao : Option Addr} {no co : Nat} {w : World} (hT : TxR w t Ai ni ci Ao no co) (hLd : Laid w) :
    Calls Tryd.prog 3 #[.agg (txV t.ver Ai ni ci Ao no co t.lock).toArray] w fun e w' => e = .returned (.bool true) ∧ Below w.heap.size w w' := by
  have b1 := (Below.refl w.heap.size w).alloc (Nat.le_refl _) (.cells (txV t.ver Ai ni ci Ao no co t.lock).toArray 26)
  have r1 := Ro.new w 26 (txV t.ver Ai ni ci Ao no co t.lock)
  have TS := Lib.hid (hT.later b1)
  have HD := Lib.hid (hLd.later hLd.lt b1)
  have BW := Lib.hid b1
  have R1 := Lib.hid r1
  clear b1 r1 hT hLd
  obtain ⟨wa, hwa⟩ : ∃ wa, w.alloc (.cells (txV t.ver Ai ni ci Ao no co t.lock).toArray 26) = wa := ⟨_, rfl⟩
  rw [hwa] at TS HD BW R1
  have HWA := Lib.hid hwa
  obtain ⟨q1, hq1⟩ : ∃ q, w.heap.size = q := ⟨_, rfl⟩
  have q1s := Lib.hid hq1
  have CW : Hid (∀ u, Below wa.heap.size wa u → Calls Tryd.prog 12 #[] u fun e w' => e = .returned (.bool true) ∧ Below u.heap.size u w') := Lib.hid (fun u hu => works_any u (HD.out.later HD.out.lt hu))
  have H1 := Lib.hid (heavy_any wa TS.out)
  clear hwa hq1
  go_enter Tryd.func3, Tryd.ntmps3
  go_upto_region 1 with fail
  rw [HWA.out]
  go_wp2_with (first
    | (refine wpList_load_part rfl (.tmp 1) rfl rfl rowTx R1.out.whole rfl ?_)
    | (go_at_call 11; refine H1.out.mono ?_; rintro e w1 ⟨b, rfl, hwt, bel1⟩; have B1 := Lib.hid bel1; have HW := Lib.hid hwt; clear bel1 hwt H1; cases b))
  ·
    have BW1 := Lib.hid (BW.out.trans (B1.out.mono BW.out.size))
    have hw := HW.out trivial
    have HWT : Hid (weigh t ≤ 100000000) := Lib.hid (by omega)
    have P1 := Lib.hid (R1.out.later B1.out)
    have T1 := Lib.hid (TS.out.later B1.out)
    have D1 := Lib.hid (HD.out.later HD.out.lt B1.out)
    clear R1 TS HW hw
    go_wp2_with fail
    refine wp_region_seg (W := w1) (by kernel_rfl) fun wa2 ga => ?_
    obtain ⟨S, hS⟩ : ∃ S, strB (putS t) = S := ⟨_, rfl⟩
    have HS := Lib.hid hS
    obtain ⟨Z, hZ⟩ : ∃ Z, strB (bareS t) = Z := ⟨_, rfl⟩
    have HZ := Lib.hid hZ
    have I32 : (idS t).length = 32 := shaS_len _
    obtain ⟨I, hI⟩ : ∃ I, idS t = I := ⟨_, rfl⟩
    have HI := Lib.hid hI
    rw [hI] at I32
    have EQH : ∀ w, (Op.equalIn 10000 32 (.agg (vals I).toArray) (.agg (vals I).toArray)).run Tryd.prog w = .ok true w := fun w => by
      rw [eq_hash I32 I32 w]
      unfold eqB
      rw [decide_eq_true rfl]
    obtain ⟨m, hm⟩ : ∃ m, decide (May t) = m := ⟨_, rfl⟩
    have HM := Lib.hid hm
    have EM : (m == m) = true := beq_self_eq_true m
    obtain ⟨k, hk⟩ : ∃ k, mintS t = k := ⟨_, rfl⟩
    have HK := Lib.hid hk
    have EK : (k == k) = true := beq_self_eq_true k
    clear hS hZ hI hm hk
    refine wpK_seg 0 1 (f := 40) (by kernel_rfl) (fun _ _ _ _ _ h => h) (by kernel_rfl) (by kernel_rfl) (by kernel_rfl) ga ?_
    apply Exists.intro
    refine ⟨?_, ?_⟩
    · intro wg hg
      simp only [List.drop_succ_cons, List.drop_zero, List.take_succ_cons, List.take_zero]
      have Pg := Lib.hid (P1.out.later hg)
      go_big_quiet_want
      refine quiet_load_part (.tmp 1) rfl rfl rowTx (fun w9 h9 => by obtain ⟨u, rfl⟩ := h9; exact (Pg.out.later u.below).whole) rfl ?_
      simp only [Act.put, List.setIfInBounds_toArray, List.set_cons_succ, List.set_cons_zero]
      go_big_quiet_on
      refine wpQuiet_nil ?_
      exact rfl
    refine wpK_seg 3 1 (f := 39) (by kernel_rfl) (fun _ _ _ _ _ h => h) (by kernel_rfl) (by kernel_rfl) (by kernel_rfl) ga ?_
    apply Exists.intro
    refine ⟨?_, ?_⟩
    · intro wg hg
      simp only [List.drop_succ_cons, List.drop_zero, List.take_succ_cons, List.take_zero]
      have Pg := Lib.hid (P1.out.later hg)
      go_big_quiet_want
      refine quiet_load_part (.tmp 1) rfl rfl rowTx (fun w9 h9 => by obtain ⟨u, rfl⟩ := h9; exact (Pg.out.later u.below).whole) rfl ?_
      simp only [Act.put, List.setIfInBounds_toArray, List.set_cons_succ, List.set_cons_zero]
      go_big_quiet_on
      refine wpQuiet_nil ?_
      exact rfl
    refine wpK_call (f := 38) (i := 1) (by kernel_rfl) rfl rfl ga ?_
    intro wbb gbb K hK
    go_simp
    have Tz := T1.out.later (gbb : Grows w1 wbb)
    with_reducible refine (txPut_any (t := t) _ HWT.out Tz).mono ?_
    clear Tz
    rintro e wb ⟨Ab, nb, cb, rfl, _, Ob⟩
    refine hK _ _ Ob.bel ?_
    have Xb := Lib.hid Ob.reads
    have Yb := Lib.hid (Grows.trans gbb Ob.bel)
    have Gb : Hid (Grows w1 wb) := Lib.hid (Yb.out)
    clear hK K Ob gbb
    refine wpK_from Yb.out _ _ _ _ ?_
    refine wpK_seg 2 1 (f := 37) (by kernel_rfl) (fun _ _ _ _ _ h => h) (by kernel_rfl) (by kernel_rfl) (by kernel_rfl) (Grows.refl wb) ?_
    apply Exists.intro
    refine ⟨?_, ?_⟩
    · intro wg hg
      simp only [List.drop_succ_cons, List.drop_zero, List.take_succ_cons, List.take_zero]
      have cv : ∀ u : After wg, (convert 29 9 (.slice Ab nb cb)).run Tryd.prog u.w = .ok (.string S) u.w := fun u => by rw [← HS.out]; exact run_str ((Xb.out.later hg).later u.below)
      go_big_quiet_step (fail)
      refine wpQuiet_nil ?_
      exact rfl
    refine wpK_call (f := 36) (i := 4) (by kernel_rfl) rfl rfl (Grows.refl wb) ?_
    intro wbc gbc K hK
    go_simp
    have Tz := T1.out.later (Grows.trans Gb.out (gbc) : Grows w1 wbc)
    with_reducible refine (refPut_any (t := t) _ HWT.out Tz).mono ?_
    clear Tz
    rintro e wc ⟨Ac, nc, cc, rfl, _, Oc⟩
    refine hK _ _ Oc.bel ?_
    have Xc := Lib.hid Oc.reads
    have Yc := Lib.hid (Grows.trans gbc Oc.bel)
    have Gc : Hid (Grows w1 wc) := Lib.hid (Grows.trans Gb.out (Yc.out))
    clear hK K Oc gbc
    refine wpK_from Yc.out _ _ _ _ ?_
    refine wpK_seg 5 4 (f := 32) (by kernel_rfl) (fun _ _ _ _ _ h => h) (by kernel_rfl) (by kernel_rfl) (by kernel_rfl) (Grows.refl wc) ?_
    apply Exists.intro
    refine ⟨?_, ?_⟩
    · intro wg hg
      simp only [List.drop_succ_cons, List.drop_zero, List.take_succ_cons, List.take_zero]
      have cv : ∀ u : After wg, (convert 29 9 (.slice Ac nc cc)).run Tryd.prog u.w = .ok (.string S) u.w := fun u => by rw [← HS.out]; exact run_str ((Xc.out.later hg).later u.below)
      have gg := Grows.trans Gc.out hg
      have Pg := Lib.hid (P1.out.later gg)
      clear gg
      repeat (go_big_quiet_step (fail))
      go_big_quiet_want
      refine quiet_load_part (.tmp 1) rfl rfl rowTx (fun w9 h9 => by obtain ⟨u, rfl⟩ := h9; exact (Pg.out.later u.below).whole) rfl ?_
      simp only [Act.put, List.setIfInBounds_toArray, List.set_cons_succ, List.set_cons_zero]
      go_big_quiet_on
      refine wpQuiet_nil ?_
      exact rfl
    refine wpK_seg 11 1 (f := 31) (by kernel_rfl) (fun _ _ _ _ _ h => h) (by kernel_rfl) (by kernel_rfl) (by kernel_rfl) (Grows.refl wc) ?_
    apply Exists.intro
    refine ⟨?_, ?_⟩
    · intro wg hg
      simp only [List.drop_succ_cons, List.drop_zero, List.take_succ_cons, List.take_zero]
      have gg := Grows.trans Gc.out hg
      have Pg := Lib.hid (P1.out.later gg)
      clear gg
      go_big_quiet_want
      refine quiet_load_part (.tmp 1) rfl rfl rowTx (fun w9 h9 => by obtain ⟨u, rfl⟩ := h9; exact (Pg.out.later u.below).whole) rfl ?_
      simp only [Act.put, List.setIfInBounds_toArray, List.set_cons_succ, List.set_cons_zero]
      go_big_quiet_on
      refine wpQuiet_nil ?_
      exact rfl
    refine wpK_call_want (f := 30) (i := 9) (by kernel_rfl) rfl rfl (Grows.refl wc) ?_
    intro wbd gbd K hK
    go_simp
    have Tz := T1.out.later (Grows.trans Gc.out (gbd) : Grows w1 wbd)
    with_reducible refine (txBare_any (t := t) _ HWT.out Tz).mono ?_
    clear Tz
    rintro e wd ⟨Ad, nd, cd, rfl, _, Od⟩
    refine hK _ _ Od.bel ?_
    have Xd := Lib.hid Od.reads
    have Yd := Lib.hid (Grows.trans gbd Od.bel)
    have Gd : Hid (Grows w1 wd) := Lib.hid (Grows.trans Gc.out (Yd.out))
    clear hK K Od gbd
    refine wpK_from Yd.out _ _ _ _ ?_
    refine wpK_seg 10 1 (f := 29) (by kernel_rfl) (fun _ _ _ _ _ h => h) (by kernel_rfl) (by kernel_rfl) (by kernel_rfl) (Grows.refl wd) ?_
    apply Exists.intro
    refine ⟨?_, ?_⟩
    · intro wg hg
      simp only [List.drop_succ_cons, List.drop_zero, List.take_succ_cons, List.take_zero]
      have cv : ∀ u : After wg, (convert 29 9 (.slice Ad nd cd)).run Tryd.prog u.w = .ok (.string Z) u.w := fun u => by rw [← HZ.out]; exact run_str ((Xd.out.later hg).later u.below)
      go_big_quiet_step (fail)
      refine wpQuiet_nil ?_
      exact rfl
    refine wpK_call_want (f := 28) (i := 12) (by kernel_rfl) rfl rfl (Grows.refl wd) ?_
    intro wbe gbe K hK
    go_simp
    have Tz := T1.out.later (Grows.trans Gd.out (gbe) : Grows w1 wbe)
    with_reducible refine (refBare_any (t := t) _ HWT.out Tz).mono ?_
    clear Tz
    rintro e we ⟨Ae, ne, ce, rfl, _, Oe⟩
    refine hK _ _ Oe.bel ?_
    have Xe := Lib.hid Oe.reads
    have Ye := Lib.hid (Grows.trans gbe Oe.bel)
    have Ge : Hid (Grows w1 we) := Lib.hid (Grows.trans Gd.out (Ye.out))
    clear hK K Oe gbe
    refine wpK_from Ye.out _ _ _ _ ?_
    refine wpK_seg 13 28 (f := 0) (by kernel_rfl) (fun _ _ _ _ _ h => h) (by kernel_rfl) (by kernel_rfl) (by kernel_rfl) (Grows.refl we) ?_
    apply Exists.intro
    refine ⟨?_, ?_⟩
    · intro wg hg
      simp only [List.drop_succ_cons, List.drop_zero, List.take_succ_cons, List.take_zero]
      have cv : ∀ u : After wg, (convert 29 9 (.slice Ae ne ce)).run Tryd.prog u.w = .ok (.string Z) u.w := fun u => by rw [← HZ.out]; exact run_str ((Xe.out.later hg).later u.below)
      have gg := Grows.trans Ge.out hg
      have Pg := Lib.hid (P1.out.later gg)
      have TA : Hid (∀ u : After wg, TxR u.w t Ai ni ci Ao no co) := Lib.hid (fun u => (T1.out.later gg).later u.below)
      have LD : Hid (∀ u : After wg, Laid u.w) := Lib.hid (fun u => (D1.out.later D1.out.lt gg).later (D1.out.later D1.out.lt gg).lt u.below)
      have C1 : Hid (∀ u : After wg, Calls Tryd.prog 17 #[.agg (txV t.ver Ai ni ci Ao no co t.lock).toArray] u.w fun e w' => e = .returned (.agg (vals I).toArray) ∧ Below u.w.heap.size u.w w') := Lib.hid (fun u => by
        rw [← HI.out]; exact txId_any u.w (LD.out u) HWT.out (TA.out u))
      have C2 : Hid (∀ u : After wg, Calls Tryd.prog 18 #[.agg (txV t.ver Ai ni ci Ao no co t.lock).toArray] u.w fun e w' => e = .returned (.agg (vals I).toArray) ∧ Below u.w.heap.size u.w w') := Lib.hid (fun u => by
        rw [← HI.out]; exact refId_any u.w HWT.out (TA.out u))
      have C3 : Hid (∀ u : After wg, Calls Tryd.prog 19 #[.agg (txV t.ver Ai ni ci Ao no co t.lock).toArray] u.w fun e w' => e = .returned (.bool m) ∧ Below u.w.heap.size u.w w') := Lib.hid (fun u => by
        rw [← HM.out]; exact txMay_any u.w HWT.out (TA.out u))
      have C4 : Hid (∀ u : After wg, Calls Tryd.prog 20 #[.agg (txV t.ver Ai ni ci Ao no co t.lock).toArray] u.w fun e w' => e = .returned (.bool m) ∧ Below u.w.heap.size u.w w') := Lib.hid (fun u => by
        rw [← HM.out]; exact refMay_any u.w HWT.out (TA.out u))
      have C5 : Hid (∀ u : After wg, Calls Tryd.prog 21 #[.agg (txV t.ver Ai ni ci Ao no co t.lock).toArray] u.w fun e w' => e = .returned (.bool k) ∧ Below u.w.heap.size u.w w') := Lib.hid (fun u => by
        rw [← HK.out]; exact txMint_any u.w (TA.out u))
      have C6 : Hid (∀ u : After wg, Calls Tryd.prog 22 #[.agg (txV t.ver Ai ni ci Ao no co t.lock).toArray] u.w fun e w' => e = .returned (.bool k) ∧ Below u.w.heap.size u.w w') := Lib.hid (fun u => by
        rw [← HK.out]; exact refMint_any u.w (TA.out u))
      have C7 : Hid (∀ u : After wg, Calls Tryd.prog 12 #[] u.w fun e w' => e = .returned (.bool true) ∧ Below u.w.heap.size u.w w') := Lib.hid (fun u => works_any u.w (LD.out u))
      clear gg
      repeat (go_big_quiet_step (fail))
      go_big_quiet_want
      refine quiet_load_part (.tmp 1) rfl rfl rowTx (fun w9 h9 => by obtain ⟨u, rfl⟩ := h9; exact (Pg.out.later u.below).whole) rfl ?_
      simp only [Act.put, List.setIfInBounds_toArray, List.set_cons_succ, List.set_cons_zero]
      go_big_quiet_on
      go_big_quiet_step (exact after_call (C1.out _))
      repeat (go_big_quiet_step (fail))
      go_big_quiet_want
      refine quiet_load_part (.tmp 1) rfl rfl rowTx (fun w9 h9 => by obtain ⟨u, rfl⟩ := h9; exact (Pg.out.later u.below).whole) rfl ?_
      simp only [Act.put, List.setIfInBounds_toArray, List.set_cons_succ, List.set_cons_zero]
      go_big_quiet_on
      go_big_quiet_step (exact after_call (C2.out _))
      repeat (go_big_quiet_step (fail))
      go_big_quiet_want
      refine quiet_load_part (.tmp 1) rfl rfl rowTx (fun w9 h9 => by obtain ⟨u, rfl⟩ := h9; exact (Pg.out.later u.below).whole) rfl ?_
      simp only [Act.put, List.setIfInBounds_toArray, List.set_cons_succ, List.set_cons_zero]
      go_big_quiet_on
      go_big_quiet_step (exact after_call (C3.out _))
      repeat (go_big_quiet_step (fail))
      go_big_quiet_want
      refine quiet_load_part (.tmp 1) rfl rfl rowTx (fun w9 h9 => by obtain ⟨u, rfl⟩ := h9; exact (Pg.out.later u.below).whole) rfl ?_
      simp only [Act.put, List.setIfInBounds_toArray, List.set_cons_succ, List.set_cons_zero]
      go_big_quiet_on
      go_big_quiet_step (exact after_call (C4.out _))
      repeat (go_big_quiet_step (fail))
      go_big_quiet_want
      refine quiet_load_part (.tmp 1) rfl rfl rowTx (fun w9 h9 => by obtain ⟨u, rfl⟩ := h9; exact (Pg.out.later u.below).whole) rfl ?_
      simp only [Act.put, List.setIfInBounds_toArray, List.set_cons_succ, List.set_cons_zero]
      go_big_quiet_on
      go_big_quiet_step (exact after_call (C5.out _))
      repeat (go_big_quiet_step (fail))
      go_big_quiet_want
      refine quiet_load_part (.tmp 1) rfl rfl rowTx (fun w9 h9 => by obtain ⟨u, rfl⟩ := h9; exact (Pg.out.later u.below).whole) rfl ?_
      simp only [Act.put, List.setIfInBounds_toArray, List.set_cons_succ, List.set_cons_zero]
      go_big_quiet_on
      go_big_quiet_step (exact after_call (C6.out _))
      repeat (go_big_quiet_step (fail))
      go_big_quiet_step (exact after_call (C7.out _))
      repeat (go_big_quiet_step (fail))
      refine wpQuiet_nil ?_
      exact rfl
    refine wpK_end (by kernel_rfl) fun wz gz => ?_
    have BZ := Lib.hid (BW.out.trans ((Grows.trans (Grows.trans B1.out Ge.out) gz : Grows wa wz).mono BW.out.size))
    go_wp2_with fail
    go_ret
    exact ⟨rfl, BZ.out⟩
  ·
    have C1 := Lib.hid (CW.out w1 B1.out)
    have BW1 := Lib.hid (BW.out.trans (B1.out.mono BW.out.size))
    go_wp2_with (go_at_call 12; refine C1.out.mono ?_; rintro e w3 ⟨rfl, bel3⟩)
    go_ret
    exact ⟨rfl, BW1.out.trans (bel3.mono BW1.out.size)⟩
end Go.Proofs.YtbdjcbdnhaddoaaDoor
