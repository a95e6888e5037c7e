/- TxBack: what may be and was put is got, what is got is put as it stood; a Witness does not turn the Id, all else turns the bare bytes. Condition: the tables lie as laid. -/
import Derived.Test.YtbdjcbdnhaddoaaDoorBackS
namespace Go.Proofs.YtbdjcbdnhaddoaaDoor
open Go.RowKit

set_option maxRecDepth 100000 in
set_option maxHeartbeats 16000000 in
theorem back_law {t u : TxD} {Ai : Option Addr} {ni ci : Nat} {Ao : Option Addr} {no co : Nat} {Bi : Option Addr} {mi di : Nat} {Bo : Option Addr} {mo do_ : Nat} {S : Option Addr} {n c : Nat} {L : List Nat} {w : World} (hT : TxR w t Ai ni ci Ao no co) (hU : TxR w u Bi mi di Bo mo do_) (hnc : n ≤ c) (_ : n ≤ 140737488351232) (hL : Bs w S n L) (hLd : Laid w) :
    Calls Tryd.prog 6 #[.agg (txV t.ver Ai ni ci Ao no co t.lock).toArray, .agg (txV u.ver Bi mi di Bo mo do_ u.lock).toArray, .slice S n c] w fun e w' => e = .returned (.bool true) ∧ Below w.heap.size w w' := by
  have z0 := zeroTx
  have b1 := (Below.refl w.heap.size w).alloc (Nat.le_refl _) (.cells (txV t.ver Ai ni ci Ao no co t.lock).toArray 26)
  have b2 := b1.alloc b1.size (.cells (txV u.ver Bi mi di Bo mo do_ u.lock).toArray 26)
  have r1 := (Ro.new w 26 (txV t.ver Ai ni ci Ao no co t.lock)).alloc (.cells (txV u.ver Bi mi di Bo mo do_ u.lock).toArray 26)
  have r2 := Ro.new (w.alloc (.cells (txV t.ver Ai ni ci Ao no co t.lock).toArray 26)) 26 (txV u.ver Bi mi di Bo mo do_ u.lock)
  rw [World.size_alloc] at r2
  have TS := Lib.hid (hT.later b2)
  have TT := Lib.hid (hU.later b2)
  have LS := Lib.hid (hL.later b2)
  have LN := Lib.hid hL.len
  have HD := Lib.hid (hLd.later hLd.lt b2)
  have BW := Lib.hid b2
  have R1 := Lib.hid r1
  have R2 := Lib.hid r2
  clear b1 b2 r1 r2 hT hU hL hLd
  obtain ⟨wa, hwa⟩ : ∃ wa, (w.alloc (.cells (txV t.ver Ai ni ci Ao no co t.lock).toArray 26)).alloc (.cells (txV u.ver Bi mi di Bo mo do_ u.lock).toArray 26) = wa := ⟨_, rfl⟩
  rw [hwa] at TS TT LS HD BW R1 R2
  have HWA := Lib.hid hwa
  obtain ⟨q1, hq1⟩ : ∃ q, w.heap.size = q := ⟨_, rfl⟩
  have q1s := Lib.hid hq1
  have CW : Hid (∀ x, Below wa.heap.size wa x → Calls Tryd.prog 12 #[] x fun e w' => e = .returned (.bool true) ∧ Below x.heap.size x w') := Lib.hid (fun x hx => works_any x (HD.out.later HD.out.lt hx))
  have H1 := Lib.hid (heavy_any wa TS.out)
  clear hwa hq1
  go_enter Tryd.func6, Tryd.ntmps6
  go_upto_region 1 with fail
  rw [HWA.out]
  go_cut [23] from 13 to 23 (fun v wx => ∃ b, v = .bool b ∧ (b = false → weigh t ≤ 32768 ∧ weigh u ≤ 32768 ∧ n ≤ 32768) ∧ Below wa.heap.size wa wx)
  case first =>
    go_wp2_with (first
      | (refine wpList_load_part rfl (.tmp 3) rfl rfl rowTx R1.out.whole rfl ?_)
      | (go_at_call 11; refine H1.out.mono ?_; rintro e w1 ⟨b, rfl, hw1, bel1⟩; have B1 := Lib.hid bel1; have HW1 := Lib.hid hw1; clear bel1 hw1 H1; cases b)
      | (go_at_call 11; refine (heavy_any w1 (TT.out.later B1.out)).mono ?_; rintro e w2 ⟨b2, rfl, hw2, bel2⟩; have B2 := Lib.hid (B1.out.trans (bel2.mono B1.out.size)); have HW2 := Lib.hid hw2; clear bel2 hw2; cases b2)
      | (refine BigFrame.wpList_want (by rfl) fun K hK => wp_load_part rfl (.tmp 4) rfl rfl rowTx (R2.out.later B1.out).whole rfl (hK _ _ ?_)))
    · go_meet
      exact ⟨_, rfl, fun h => ⟨HW1.out trivial, HW2.out trivial, by have := of_decide_eq_false h; omega⟩, B2.out⟩
    · go_meet
      exact ⟨true, rfl, (fun h => by cases h), B2.out⟩
    · go_meet
      exact ⟨true, rfl, (fun h => by cases h), B1.out⟩
  case rest =>
    obtain ⟨b, rfl, hb, hB⟩ := hcut
    cases b with
    | true =>
      have BW1 := Lib.hid (BW.out.trans (hB.mono BW.out.size))
      have C1 := Lib.hid (CW.out wc hB)
      go_wp2_with (go_at_call 12; refine C1.out.mono ?_; rintro e w3 ⟨rfl, bel3⟩)
      go_ret
      exact ⟨rfl, BW1.out.trans (bel3.mono BW1.out.size)⟩
    | false =>
      obtain ⟨hwt, hwu, hn⟩ := hb rfl
      have WT : Hid (weigh t ≤ 100000000) := Lib.hid (by omega)
      have WU : Hid (weigh u ≤ 100000000) := Lib.hid (by omega)
      have B1 := Lib.hid hB
      have CM := Lib.hid (txMay_any wc WT.out (TS.out.later hB))
      obtain ⟨m, hm⟩ : ∃ m, decide (May t) = m := ⟨_, rfl⟩
      rw [hm] at CM
      have HM := Lib.hid hm
      clear hm hb hwt hwu hB
      go_upto_if 26 with (first
        | (refine wpList_load_part rfl (.tmp 3) rfl rfl rowTx (R1.out.later B1.out).whole rfl ?_)
        | (go_at_call 19; refine CM.out.mono ?_; rintro e w2 ⟨rfl, b2⟩; have B2 := Lib.hid (B1.out.trans (b2.mono B1.out.size)); clear b2 CM))
      go_cut [] from 27 to 40 (fun wx => Below wa.heap.size wa wx)
      case first =>
        cases m with
        | false =>
          go_wp2_with fail
          go_meet
          exact B2.out
        | true =>
          have my : May t := of_decide_eq_true HM.out
          obtain ⟨he, ht⟩ := get_put TS.out.ok TS.out.fit my
          have CP := txPut_any (t := t) w2 WT.out (TS.out.later B2.out)
          have sz := my.size
          obtain ⟨B9, hB9⟩ : ∃ B9, putS t = B9 := ⟨_, rfl⟩
          rw [hB9] at CP he ht sz
          have HML := Lib.hid sz
          have HCP := Lib.hid CP
          have HE9 := Lib.hid he
          have HU := Lib.hid ht
          clear hB9 CP he ht sz my
          go_wp2_with (first
            | (refine wpList_load_part rfl (.tmp 3) rfl rfl rowTx (R1.out.later B2.out).whole rfl ?_)
            | (go_at_call 13; refine HCP.out.mono ?_; rintro e w5 ⟨A5, n5, c5, rfl, hc5, O5⟩; have hn5 : n5 ≤ 1073741824 := (by have h1 := O5.len; have h2 := HML.out; omega); have HO5 := Lib.hid O5; clear O5 HCP; have CG := Lib.hid (txGet_any w5 HO5.out.reads hn5 hc5); rw [HE9.out, HU.out] at CG)
            | (go_at_call 23; refine CG.out.mono ?_; rintro e w6 ⟨Xi, xi, yi, Xo, xo, yo, rfl, T6, B6⟩; have HB6 := Lib.hid B6; have HT6 := Lib.hid T6; clear T6 B6 CG)
            | (refine wpList_store_ro rfl (.tmp 7) (.tmp 31) rfl (vs := txV t.ver Xi xi yi Xo xo yo t.lock) rfl rfl rowTx (Ro.new w6 26 zTx) rfl rfl (txV_one _ _ _ _ _ _ _ _) ?_))
          intro w7 R7 g7
          have b7 := HO5.out.bel.trans ((HB6.out.trans ((box_store g7).mono HB6.out.size)).mono HO5.out.bel.size)
          have B7 := Lib.hid (B2.out.trans (b7.mono B2.out.size))
          have R5 := Lib.hid R7
          have T5 := Lib.hid (HT6.out.keep (Kept.of_below (box_store g7)))
          clear R7 g7 b7 HO5 HB6 HT6
          obtain ⟨p3, hp3⟩ : ∃ p3, w6.heap.size = p3 := ⟨_, rfl⟩
          rw [hp3] at R5 ⊢
          clear hp3
          have CS9 := Lib.hid (refSame_any (s := t) (t := t) w7 T5.out.r (TS.out.later B7.out))
          rw [decide_eq_true rfl] at CS9
          have EE : ((0 : Int) != 0) = false := rfl
          go_upto_region 5 with fail
          go_wp2_with (first
            | (go_at_call 25; refine CS9.out.mono ?_; rintro e w9 ⟨rfl, b9⟩; have B9' := Lib.hid (B7.out.trans (b9.mono B7.out.size)); clear b9 CS9)
            | (refine BigFrame.wpList_want (by rfl) fun K hK => wp_load_part rfl (.tmp 7) rfl rfl rowTx R5.out.whole rfl (hK _ _ ?_))
            | (refine BigFrame.wpList_want (by rfl) fun K hK => wp_load_part rfl (.tmp 3) rfl rfl rowTx (R1.out.later B7.out).whole rfl (hK _ _ ?_)))
          go_meet
          exact B9'.out
      case rest =>
        have B3 := Lib.hid hcut
        clear hcut B2 HM B1
        have CG := Lib.hid (txGet_any (c := c) wc (LS.out.later B3.out) (by omega) hnc)
        have LB := Lib.hid LS.out.byt
        obtain ⟨U, hU⟩ : ∃ U, getT L = U := ⟨_, rfl⟩
        obtain ⟨E9, hE9⟩ : ∃ E, getE L = E := ⟨_, rfl⟩
        rw [hU, hE9] at CG
        have HU := Lib.hid hU
        have HE := Lib.hid hE9
        clear hU hE9
        go_wp2_with (first
          | (go_at_call 23; refine CG.out.mono ?_; rintro e w6 ⟨Xi, xi, yi, Xo, xo, yo, rfl, T6, B6⟩; have HB6 := Lib.hid B6; have HT6 := Lib.hid T6; clear T6 B6 CG)
          | (refine wpList_store_ro rfl (.tmp 9) (.tmp 44) rfl (vs := txV U.ver Xi xi yi Xo xo yo U.lock) rfl rfl rowTx (Ro.new w6 26 zTx) rfl rfl (txV_one _ _ _ _ _ _ _ _) ?_))
        intro w7 R7 g7
        have B7 := Lib.hid (B3.out.trans ((HB6.out.trans ((box_store g7).mono HB6.out.size)).mono B3.out.size))
        have R5 := Lib.hid R7
        have T5 := Lib.hid (HT6.out.keep (Kept.of_below (box_store g7)))
        clear R7 g7 HB6 HT6 B3
        obtain ⟨p3, hp3⟩ : ∃ p3, w6.heap.size = p3 := ⟨_, rfl⟩
        rw [hp3] at R5 ⊢
        clear hp3
        go_upto_region 8 with fail
        go_cut [60] from 46 to 60 (fun v wx => v = .bool false ∧ Below w7.heap.size w7 wx)
        case first =>
          have LS7 := Lib.hid (LS.out.later B7.out)
          by_cases he : E9 = 0
          · subst he
            obtain ⟨hmy, hpt⟩ := get_ok HE.out
            have hwU := get_weigh HE.out LB.out
            have hL9 := get_le HE.out
            rw [HU.out] at hmy hpt hwU
            have WU9 : Hid (weigh U ≤ 100000000) := Lib.hid (by omega)
            obtain ⟨Z, hZ⟩ : ∃ Z, strB L = Z := ⟨_, rfl⟩
            have HZ := Lib.hid hZ
            have HZ2 : Hid (strB (putS U) = Z) := Lib.hid (by rw [hpt]; exact hZ)
            have T0 : Hid (TxR w7 U Xi xi yi Xo xo yo) := Lib.hid T5.out.r
            have HMY := Lib.hid (decide_eq_true hmy)
            have EZ : (Z.toList == Z.toList) = true := beq_self_eq_true _
            have EN : (Z.toList != Z.toList) = false := by simp
            clear hmy hpt hwU hL9 hZ
            refine wp_region_seg (W := w7) (by kernel_rfl) fun wa_ ga => ?_
            refine wpK_seg 0 4 (f := 11) (by kernel_rfl) (fun _ _ _ _ _ h => h) (by kernel_rfl) (by kernel_rfl) (by kernel_rfl) ga ?_
            apply Exists.intro
            refine ⟨?_, ?_⟩
            · intro wg hg
              simp only [List.drop_succ_cons, List.drop_zero, List.take_succ_cons, List.take_zero]
              have gg : Grows w7 wg := hg
              have Pg := Lib.hid (R5.out.later gg)
              clear gg
              repeat (go_big_quiet_step (fail))
              go_big_quiet_want
              refine quiet_load_part (.tmp 9) rfl rfl rowTx (fun w9 h9 => by obtain ⟨u, rfl⟩ := h9; exact (Pg.out.later u.below).whole) rfl ?_
              simp only [Act.put, List.setIfInBounds_toArray, List.set_cons_succ, List.set_cons_zero]
              go_big_quiet_on
              refine wpQuiet_nil ?_
              exact rfl
            refine wpK_seg 6 2 (f := 9) (by kernel_rfl) (fun _ _ _ _ _ h => h) (by kernel_rfl) (by kernel_rfl) (by kernel_rfl) ga ?_
            apply Exists.intro
            refine ⟨?_, ?_⟩
            · intro wg hg
              simp only [List.drop_succ_cons, List.drop_zero, List.take_succ_cons, List.take_zero]
              have gg : Grows w7 wg := hg
              have cvs : ∀ u : After wg, (convert 29 9 (.slice S n c)).run Tryd.prog u.w = .ok (.string Z) u.w := fun u => by rw [← HZ.out]; exact run_str ((LS7.out.later gg).later u.below)
              clear gg
              repeat (go_big_quiet_step (fail))
              refine wpQuiet_nil ?_
              exact rfl
            refine wpK_call_want (f := 8) (i := 4) (by kernel_rfl) rfl rfl ga ?_
            intro wz gb K hK
            have Gz : Grows w7 wz := gb
            have Tz := T0.out.later Gz
            go_simp
            with_reducible refine (txPut_any (t := U) _ WU9.out Tz).mono ?_
            clear Tz
            rintro e wb ⟨Ab, nb, cb, rfl, _, Ob⟩
            refine hK _ _ Ob.bel ?_
            have Xb := Lib.hid Ob.reads
            have Yb := Lib.hid (Grows.trans gb Ob.bel)
            have Gb : Hid (Grows w7 wb) := Lib.hid (Grows.trans Gz Ob.bel)
            clear hK K Ob gb Gz
            refine wpK_from Yb.out _ _ _ _ ?_
            refine wpK_seg 5 1 (f := 7) (by kernel_rfl) (fun _ _ _ _ _ h => h) (by kernel_rfl) (by kernel_rfl) (by kernel_rfl) (Grows.refl wb) ?_
            apply Exists.intro
            refine ⟨?_, ?_⟩
            · intro wg hg
              simp only [List.drop_succ_cons, List.drop_zero, List.take_succ_cons, List.take_zero]
              have gg : Grows w7 wg := (Grows.trans Gb.out hg)
              have cvb : ∀ u : After wg, (convert 29 9 (.slice Ab nb cb)).run Tryd.prog u.w = .ok (.string Z) u.w := fun u => by rw [← HZ2.out]; exact run_str ((Xb.out.later hg).later u.below)
              clear gg
              go_big_quiet_step (fail)
              refine wpQuiet_nil ?_
              exact rfl
            refine wpK_seg 8 7 (f := 0) (by kernel_rfl) (fun _ _ _ _ _ h => h) (by kernel_rfl) (by kernel_rfl) (by kernel_rfl) (Grows.refl wb) ?_
            apply Exists.intro
            refine ⟨?_, ?_⟩
            · intro wg hg
              simp only [List.drop_succ_cons, List.drop_zero, List.take_succ_cons, List.take_zero]
              have gg : Grows w7 wg := (Grows.trans Gb.out hg)
              have Pg := Lib.hid (R5.out.later gg)
              have TA : Hid (∀ u : After wg, TxR u.w U Xi xi yi Xo xo yo) := Lib.hid (fun u => (T0.out.later gg).later u.below)
              have C1 : Hid (∀ u : After wg, Calls Tryd.prog 19 #[.agg (txV U.ver Xi xi yi Xo xo yo U.lock).toArray] u.w fun e w' => e = .returned (.bool true) ∧ Below u.w.heap.size u.w w') := Lib.hid (fun u => by
                rw [← HMY.out]; exact txMay_any u.w WU9.out (TA.out u))
              clear gg
              repeat (go_big_quiet_step (fail))
              go_big_quiet_want
              refine quiet_load_part (.tmp 9) rfl rfl rowTx (fun w9 h9 => by obtain ⟨u, rfl⟩ := h9; exact (Pg.out.later u.below).whole) rfl ?_
              simp only [Act.put, List.setIfInBounds_toArray, List.set_cons_succ, List.set_cons_zero]
              go_big_quiet_on
              go_big_quiet_step (exact after_call (C1.out _))
              repeat (go_big_quiet_step (fail))
              refine wpQuiet_nil ?_
              exact rfl
            refine wpK_end (by kernel_rfl) fun wz gz => ?_
            have GZ : Grows w7 wz := (Grows.trans Gb.out gz)
            go_wp2_with fail
            go_meet
            exact ⟨rfl, GZ⟩
          · have e56 : E9 = 5 ∨ E9 = 6 := by
              have := getE_cases L
              rw [HE.out] at this
              omega
            rcases e56 with rfl | rfl
            · go_quiet (fail)
              go_wp2_with fail
              go_meet
              exact ⟨rfl, ⟨rfl, rfl, rfl, Nat.le_refl _, fun _ _ => rfl⟩⟩
            · go_quiet (fail)
              go_wp2_with fail
              go_meet
              exact ⟨rfl, ⟨rfl, rfl, rfl, Nat.le_refl _, fun _ _ => rfl⟩⟩
        case rest =>
          obtain ⟨rfl, hB8⟩ := hcut
          have B8 := Lib.hid (B7.out.trans (hB8.mono B7.out.size))
          clear hB8 B7 R5 T5 HU HE
          obtain ⟨w8, hw8⟩ : ∃ w8, wc = w8 := ⟨_, rfl⟩
          rw [hw8] at B8 ⊢
          clear hw8
          go_upto_region 10 with fail
          go_cut [11, 12] from 61 to 64 (fun v x wx => ∃ g1 g2 Pi pi pc Po po pd Qi qi qc Qo qo qd, v = .pointer (some ⟨g1, 0, none⟩) ∧ x = .pointer (some ⟨g2, 0, none⟩) ∧ TwoP t u w8 wx g1 g2 Pi pi pc Po po pd Qi qi qc Qo qo qd)
          case first =>
            have R38 := Lib.hid (R1.out.later B8.out)
            have R48 := Lib.hid (R2.out.later B8.out)
            obtain ⟨lo, hlo⟩ : ∃ lo, w8.heap.size = lo := ⟨_, rfl⟩
            have T8 : Hid (TxG w8 (fun b => b < lo) t Ai ni ci Ao no co) := Lib.hid (by rw [← hlo]; exact txg_lo (TS.out.later B8.out))
            have U8 : Hid (TxG w8 (fun b => b < lo) u Bi mi di Bo mo do_) := Lib.hid (by rw [← hlo]; exact txg_lo (TT.out.later B8.out))
            refine wp_region_seg (W := w8) (by kernel_rfl) fun wa_ ga => ?_
            refine wpK_seg 0 1 (f := 7) (by kernel_rfl) (fun _ _ _ _ _ h => h) (by kernel_rfl) (by kernel_rfl) (by kernel_rfl) ga ?_
            apply Exists.intro
            refine ⟨?_, ?_⟩
            · intro wg hg
              simp only [List.drop_succ_cons, List.drop_zero, List.take_succ_cons, List.take_zero]
              have gg : Grows w8 wg := hg
              have Pg := Lib.hid (R38.out.later gg)
              clear gg
              go_big_quiet_want
              refine quiet_load_part (.tmp 3) rfl rfl rowTx (fun w9 h9 => by obtain ⟨u, rfl⟩ := h9; exact (Pg.out.later u.below).whole) rfl ?_
              simp only [Act.put, List.setIfInBounds_toArray, List.set_cons_succ, List.set_cons_zero]
              go_big_quiet_on
              refine wpQuiet_nil ?_
              exact rfl
            refine wpK_seg 2 1 (f := 6) (by kernel_rfl) (fun _ _ _ _ _ h => h) (by kernel_rfl) (by kernel_rfl) (by kernel_rfl) ga ?_
            apply Exists.intro
            refine ⟨?_, ?_⟩
            · intro wg hg
              simp only [List.drop_succ_cons, List.drop_zero, List.take_succ_cons, List.take_zero]
              have gg : Grows w8 wg := hg
              have Pg := Lib.hid (R48.out.later gg)
              clear gg
              go_big_quiet_want
              refine quiet_load_part (.tmp 4) rfl rfl rowTx (fun w9 h9 => by obtain ⟨u, rfl⟩ := h9; exact (Pg.out.later u.below).whole) rfl ?_
              simp only [Act.put, List.setIfInBounds_toArray, List.set_cons_succ, List.set_cons_zero]
              go_big_quiet_on
              refine wpQuiet_nil ?_
              exact rfl
            have GA := Lib.hid (show Below w8.heap.size w8 wa_ from ga)
            have ea : lo ≤ wa_.heap.size := by rw [← hlo]; exact ga.size
            obtain ⟨sa, hsa⟩ : ∃ s, wa_.heap.size = s := ⟨_, rfl⟩
            rw [hsa] at ea
            clear ga
            refine wpK_three (f := 5) (i := 1) (k := 4) (j := 5) (by kernel_rfl) rfl rfl rfl rfl rfl rfl ?_ ?_ ?_
            · intro wx1 gx2 K hK
              have Gwx1 := Lib.hid (GA.out.trans (gx2.mono GA.out.size))
              obtain ⟨s3, hs3⟩ : ∃ s, wx1.heap.size = s := ⟨_, rfl⟩
              have ls3 : sa ≤ s3 := by rw [← hs3, ← hsa]; exact gx2.size
              clear gx2
              have Tz := T8.out.keep (Kept.of_below Gwx1.out)
              have Ez : lo ≤ wx1.heap.size := (by rw [hs3]; omega)
              go_simp
              with_reducible refine (refPlain_gen (t := t) _ WT.out Ez Tz).mono ?_
              clear Tz Ez
              rintro e wy4 ⟨Pi, pi, pc, Po, po, pd, rfl, Tq, bq⟩
              have Gwy4 := Lib.hid (Gwx1.out.trans (bq.mono Gwx1.out.size))
              obtain ⟨z5, hz5⟩ : ∃ s, wy4.heap.size = s := ⟨_, rfl⟩
              have lz5 : s3 ≤ z5 := by rw [← hs3, ← hz5]; exact bq.size
              rw [hs3] at Tq
              have T6 : Hid (TxG wy4 (fun b => (b < lo ∨ s3 ≤ b) ∧ b < z5) (plain t) Pi pi pc Po po pd) := Lib.hid (by rw [← hz5]; exact Tq.weak fun b h h2 => ⟨h, h2⟩)
              clear Tq
              refine hK _ _ Gwy4.out ?_
              clear hK K
              refine wpK_three (f := 4) (i := 3) (k := 4) (j := 5) (by kernel_rfl) rfl rfl rfl rfl rfl rfl ?_ ?_ ?_
              · intro wx7 gx8 K hK
                have Gwx7 := Lib.hid (Gwy4.out.trans (gx8.mono Gwy4.out.size))
                obtain ⟨s9, hs9⟩ : ∃ s, wx7.heap.size = s := ⟨_, rfl⟩
                have ls9 : z5 ≤ s9 := by rw [← hs9, ← hz5]; exact gx8.size
                have T12 := Lib.hid (T6.out.keep (Kept.of_below gx8))
                clear gx8
                have Tz := U8.out.keep (Kept.of_below Gwx7.out)
                have Ez : lo ≤ wx7.heap.size := (by rw [hs9]; omega)
                go_simp
                with_reducible refine (refPlain_gen (t := u) _ WU.out Ez Tz).mono ?_
                clear Tz Ez
                rintro e wy10 ⟨Qi, qi, qc, Qo, qo, qd, rfl, Tq, bq⟩
                have Gwy10 := Lib.hid (Gwx7.out.trans (bq.mono Gwx7.out.size))
                obtain ⟨z11, hz11⟩ : ∃ s, wy10.heap.size = s := ⟨_, rfl⟩
                have lz11 : s9 ≤ z11 := by rw [← hs9, ← hz11]; exact bq.size
                rw [hs9] at Tq
                have T13 : Hid (TxG wy10 (fun b => (b < lo ∨ s9 ≤ b) ∧ b < z11) (plain u) Qi qi qc Qo qo qd) := Lib.hid (by rw [← hz11]; exact Tq.weak fun b h h2 => ⟨h, h2⟩)
                have T14 := Lib.hid (T12.out.keep (Kept.of_below bq))
                clear Tq
                refine hK _ _ Gwy10.out ?_
                clear hK K
                refine wpK_two (f := 3) (i := 4) (k := 5) (by kernel_rfl) rfl rfl rfl rfl ?_ ?_
                · intro wx15 gx16 K hK
                  have Gwx15 := Lib.hid (Gwy10.out.trans (gx16.mono Gwy10.out.size))
                  obtain ⟨s17, hs17⟩ : ∃ s, wx15.heap.size = s := ⟨_, rfl⟩
                  have ls17 : z11 ≤ s17 := by rw [← hs17, ← hz11]; exact gx16.size
                  have T20 := Lib.hid (T14.out.keep (Kept.of_below gx16))
                  have T21 := Lib.hid (T13.out.keep (Kept.of_below gx16))
                  clear gx16
                  go_simp
                  obtain ⟨wy18, hwy18⟩ : ∃ w2, wx15.alloc (.cells zTx.toArray 26) = w2 := ⟨_, rfl⟩
                  have bz := ((Below.refl wx15.heap.size wx15).alloc (Nat.le_refl _) (.cells zTx.toArray 26))
                  have xz := Ro.new wx15 26 zTx
                  rw [hwy18] at bz xz
                  rw [hs17] at xz
                  have Gwy18 := Lib.hid (Gwx15.out.trans (bz.mono Gwx15.out.size))
                  obtain ⟨z19, hz19⟩ : ∃ s, wy18.heap.size = s := ⟨_, rfl⟩
                  have lz19 : z19 = s17 + 1 := by rw [← hs17, ← hz19, ← hwy18, World.size_alloc]
                  have Xwy18 := Lib.hid xz
                  have T22 := Lib.hid (T20.out.keep (Kept.of_below bz))
                  have T23 := Lib.hid (T21.out.keep (Kept.of_below bz))
                  rw [hwy18]
                  try rw [hs17]
                  clear bz xz hwy18
                  refine hK _ _ Gwy18.out ?_
                  clear hK K
                  refine wpK_one (f := 2) (i := 5) (by kernel_rfl) rfl rfl ?_
                  intro wx24 gx25 K hK
                  have Gwx24 := Lib.hid (Gwy18.out.trans (gx25.mono Gwy18.out.size))
                  obtain ⟨s26, hs26⟩ : ∃ s, wx24.heap.size = s := ⟨_, rfl⟩
                  have ls26 : z19 ≤ s26 := by rw [← hs26, ← hz19]; exact gx25.size
                  have T29 := Lib.hid (T22.out.keep (Kept.of_below gx25))
                  have T30 := Lib.hid (T23.out.keep (Kept.of_below gx25))
                  have X31 := Lib.hid (Xwy18.out.later gx25)
                  clear gx25
                  go_simp
                  obtain ⟨wy27, hwy27⟩ : ∃ w2, wx24.alloc (.cells zTx.toArray 26) = w2 := ⟨_, rfl⟩
                  have bz := ((Below.refl wx24.heap.size wx24).alloc (Nat.le_refl _) (.cells zTx.toArray 26))
                  have xz := Ro.new wx24 26 zTx
                  rw [hwy27] at bz xz
                  rw [hs26] at xz
                  have Gwy27 := Lib.hid (Gwx24.out.trans (bz.mono Gwx24.out.size))
                  obtain ⟨z28, hz28⟩ : ∃ s, wy27.heap.size = s := ⟨_, rfl⟩
                  have lz28 : z28 = s26 + 1 := by rw [← hs26, ← hz28, ← hwy27, World.size_alloc]
                  have Xwy27 := Lib.hid xz
                  have T32 := Lib.hid (T29.out.keep (Kept.of_below bz))
                  have T33 := Lib.hid (T30.out.keep (Kept.of_below bz))
                  have X34 := Lib.hid (X31.out.later bz)
                  rw [hwy27]
                  try rw [hs26]
                  clear bz xz hwy27
                  refine hK _ _ Gwy27.out ?_
                  clear hK K
                  refine wpK_one (f := 1) (i := 6) (by kernel_rfl) rfl rfl ?_
                  intro wx35 gx36 K hK
                  have Gwx35 := Lib.hid (Gwy27.out.trans (gx36.mono Gwy27.out.size))
                  obtain ⟨s37, hs37⟩ : ∃ s, wx35.heap.size = s := ⟨_, rfl⟩
                  have ls37 : z28 ≤ s37 := by rw [← hs37, ← hz28]; exact gx36.size
                  have T40 := Lib.hid (T32.out.keep (Kept.of_below gx36))
                  have T41 := Lib.hid (T33.out.keep (Kept.of_below gx36))
                  have X42 := Lib.hid (X34.out.later gx36)
                  have X43 := Lib.hid (Xwy27.out.later gx36)
                  clear gx36
                  have T44 : Hid (TxG wx35 (fun b => b ≠ s17 ∧ b ≠ s26) (plain t) Pi pi pc Po po pd) := Lib.hid (T40.out.weak fun b h _ => by omega)
                  have T45 : Hid (TxG wx35 (fun b => b ≠ s17 ∧ b ≠ s26) (plain u) Qi qi qc Qo qo qd) := Lib.hid (T41.out.weak fun b h _ => by omega)
                  refine wp_store_ro (.tmp 11) (.tmp 62) rfl rfl (vs := txV t.ver Pi pi pc Po po pd t.lock) rfl rowTx X42.out rfl rfl (txV_one _ _ _ _ _ _ _ _) ?_
                  intro wy38 xz gz
                  have Gwy38 := Lib.hid (Gwx35.out.grown gz Gwx35.out.size (fun b e => by injection e with e; rw [hlo]; omega))
                  obtain ⟨z39, hz39⟩ : ∃ s, wy38.heap.size = s := ⟨_, rfl⟩
                  have Xwy38 := Lib.hid xz
                  have Ywy38 := Lib.hid (X43.out.far gz (fun e => by injection e with e; omega))
                  have TPwy38 := Lib.hid (T44.out.keep (Kept.of_grown gz fun b hb e => by injection e with e; omega))
                  have TQwy38 := Lib.hid (T45.out.keep (Kept.of_grown gz fun b hb e => by injection e with e; omega))
                  have lz39 : s37 ≤ z39 := by rw [← hs37, ← hz39]; exact gz.size
                  clear xz gz
                  refine hK _ _ Gwy38.out ?_
                  clear hK K
                  refine wpK_one (f := 0) (i := 7) (by kernel_rfl) rfl rfl ?_
                  intro wx46 gx47 K hK
                  have Gwx46 := Lib.hid (Gwy38.out.trans (gx47.mono Gwy38.out.size))
                  obtain ⟨s48, hs48⟩ : ∃ s, wx46.heap.size = s := ⟨_, rfl⟩
                  have ls48 : z39 ≤ s48 := by rw [← hs48, ← hz39]; exact gx47.size
                  have T51 := Lib.hid (TPwy38.out.keep (Kept.of_below gx47))
                  have T52 := Lib.hid (TQwy38.out.keep (Kept.of_below gx47))
                  have X53 := Lib.hid (Xwy38.out.later gx47)
                  have X54 := Lib.hid (Ywy38.out.later gx47)
                  clear gx47
                  refine wp_store_ro (.tmp 12) (.tmp 64) rfl rfl (vs := txV u.ver Qi qi qc Qo qo qd u.lock) rfl rowTx X54.out rfl rfl (txV_one _ _ _ _ _ _ _ _) ?_
                  intro wy49 xz gz
                  have Gwy49 := Lib.hid (Gwx46.out.grown gz Gwx46.out.size (fun b e => by injection e with e; rw [hlo]; omega))
                  obtain ⟨z50, hz50⟩ : ∃ s, wy49.heap.size = s := ⟨_, rfl⟩
                  have Xwy49 := Lib.hid xz
                  have Ywy49 := Lib.hid (X53.out.far gz (fun e => by injection e with e; omega))
                  have TPwy49 := Lib.hid (T51.out.keep (Kept.of_grown gz fun b hb e => by injection e with e; omega))
                  have TQwy49 := Lib.hid (T52.out.keep (Kept.of_grown gz fun b hb e => by injection e with e; omega))
                  have lz50 : s48 ≤ z50 := by rw [← hs48, ← hz50]; exact gz.size
                  clear xz gz
                  refine hK _ _ Gwy49.out ?_
                  clear hK K
                  refine wpK_end (by kernel_rfl) fun we ge => ?_
                  have BE := Lib.hid (Gwy49.out.trans (ge.mono Gwy49.out.size))
                  have E1 := Lib.hid (Ywy49.out.later ge)
                  have E2 := Lib.hid (Xwy49.out.later ge)
                  have E3 := Lib.hid (TPwy49.out.keep (Kept.of_below ge))
                  have E4 := Lib.hid (TQwy49.out.keep (Kept.of_below ge))
                  clear ge
                  go_wp2_with fail
                  go_meet
                  exact ⟨_, _, Pi, pi, pc, Po, po, pd, Qi, qi, qc, Qo, qo, qd, rfl, rfl, E1.out, E2.out, E3.out.r, E4.out.r, BE.out⟩
                · intro wx55 gx56 K hK
                  have Gwx55 := Lib.hid (Gwy10.out.trans (gx56.mono Gwy10.out.size))
                  obtain ⟨s57, hs57⟩ : ∃ s, wx55.heap.size = s := ⟨_, rfl⟩
                  have ls57 : z11 ≤ s57 := by rw [← hs57, ← hz11]; exact gx56.size
                  have T60 := Lib.hid (T14.out.keep (Kept.of_below gx56))
                  have T61 := Lib.hid (T13.out.keep (Kept.of_below gx56))
                  clear gx56
                  go_simp
                  obtain ⟨wy58, hwy58⟩ : ∃ w2, wx55.alloc (.cells zTx.toArray 26) = w2 := ⟨_, rfl⟩
                  have bz := ((Below.refl wx55.heap.size wx55).alloc (Nat.le_refl _) (.cells zTx.toArray 26))
                  have xz := Ro.new wx55 26 zTx
                  rw [hwy58] at bz xz
                  rw [hs57] at xz
                  have Gwy58 := Lib.hid (Gwx55.out.trans (bz.mono Gwx55.out.size))
                  obtain ⟨z59, hz59⟩ : ∃ s, wy58.heap.size = s := ⟨_, rfl⟩
                  have lz59 : z59 = s57 + 1 := by rw [← hs57, ← hz59, ← hwy58, World.size_alloc]
                  have Xwy58 := Lib.hid xz
                  have T62 := Lib.hid (T60.out.keep (Kept.of_below bz))
                  have T63 := Lib.hid (T61.out.keep (Kept.of_below bz))
                  rw [hwy58]
                  try rw [hs57]
                  clear bz xz hwy58
                  refine hK _ _ Gwy58.out ?_
                  clear hK K
                  refine wpK_one (f := 2) (i := 4) (by kernel_rfl) rfl rfl ?_
                  intro wx64 gx65 K hK
                  have Gwx64 := Lib.hid (Gwy58.out.trans (gx65.mono Gwy58.out.size))
                  obtain ⟨s66, hs66⟩ : ∃ s, wx64.heap.size = s := ⟨_, rfl⟩
                  have ls66 : z59 ≤ s66 := by rw [← hs66, ← hz59]; exact gx65.size
                  have T69 := Lib.hid (T62.out.keep (Kept.of_below gx65))
                  have T70 := Lib.hid (T63.out.keep (Kept.of_below gx65))
                  have X71 := Lib.hid (Xwy58.out.later gx65)
                  clear gx65
                  go_simp
                  obtain ⟨wy67, hwy67⟩ : ∃ w2, wx64.alloc (.cells zTx.toArray 26) = w2 := ⟨_, rfl⟩
                  have bz := ((Below.refl wx64.heap.size wx64).alloc (Nat.le_refl _) (.cells zTx.toArray 26))
                  have xz := Ro.new wx64 26 zTx
                  rw [hwy67] at bz xz
                  rw [hs66] at xz
                  have Gwy67 := Lib.hid (Gwx64.out.trans (bz.mono Gwx64.out.size))
                  obtain ⟨z68, hz68⟩ : ∃ s, wy67.heap.size = s := ⟨_, rfl⟩
                  have lz68 : z68 = s66 + 1 := by rw [← hs66, ← hz68, ← hwy67, World.size_alloc]
                  have Xwy67 := Lib.hid xz
                  have T72 := Lib.hid (T69.out.keep (Kept.of_below bz))
                  have T73 := Lib.hid (T70.out.keep (Kept.of_below bz))
                  have X74 := Lib.hid (X71.out.later bz)
                  rw [hwy67]
                  try rw [hs66]
                  clear bz xz hwy67
                  refine hK _ _ Gwy67.out ?_
                  clear hK K
                  refine wpK_one (f := 1) (i := 6) (by kernel_rfl) rfl rfl ?_
                  intro wx75 gx76 K hK
                  have Gwx75 := Lib.hid (Gwy67.out.trans (gx76.mono Gwy67.out.size))
                  obtain ⟨s77, hs77⟩ : ∃ s, wx75.heap.size = s := ⟨_, rfl⟩
                  have ls77 : z68 ≤ s77 := by rw [← hs77, ← hz68]; exact gx76.size
                  have T80 := Lib.hid (T72.out.keep (Kept.of_below gx76))
                  have T81 := Lib.hid (T73.out.keep (Kept.of_below gx76))
                  have X82 := Lib.hid (X74.out.later gx76)
                  have X83 := Lib.hid (Xwy67.out.later gx76)
                  clear gx76
                  have T84 : Hid (TxG wx75 (fun b => b ≠ s66 ∧ b ≠ s57) (plain t) Pi pi pc Po po pd) := Lib.hid (T80.out.weak fun b h _ => by omega)
                  have T85 : Hid (TxG wx75 (fun b => b ≠ s66 ∧ b ≠ s57) (plain u) Qi qi qc Qo qo qd) := Lib.hid (T81.out.weak fun b h _ => by omega)
                  refine wp_store_ro (.tmp 11) (.tmp 62) rfl rfl (vs := txV t.ver Pi pi pc Po po pd t.lock) rfl rowTx X83.out rfl rfl (txV_one _ _ _ _ _ _ _ _) ?_
                  intro wy78 xz gz
                  have Gwy78 := Lib.hid (Gwx75.out.grown gz Gwx75.out.size (fun b e => by injection e with e; rw [hlo]; omega))
                  obtain ⟨z79, hz79⟩ : ∃ s, wy78.heap.size = s := ⟨_, rfl⟩
                  have Xwy78 := Lib.hid xz
                  have Ywy78 := Lib.hid (X82.out.far gz (fun e => by injection e with e; omega))
                  have TPwy78 := Lib.hid (T84.out.keep (Kept.of_grown gz fun b hb e => by injection e with e; omega))
                  have TQwy78 := Lib.hid (T85.out.keep (Kept.of_grown gz fun b hb e => by injection e with e; omega))
                  have lz79 : s77 ≤ z79 := by rw [← hs77, ← hz79]; exact gz.size
                  clear xz gz
                  refine hK _ _ Gwy78.out ?_
                  clear hK K
                  refine wpK_one (f := 0) (i := 7) (by kernel_rfl) rfl rfl ?_
                  intro wx86 gx87 K hK
                  have Gwx86 := Lib.hid (Gwy78.out.trans (gx87.mono Gwy78.out.size))
                  obtain ⟨s88, hs88⟩ : ∃ s, wx86.heap.size = s := ⟨_, rfl⟩
                  have ls88 : z79 ≤ s88 := by rw [← hs88, ← hz79]; exact gx87.size
                  have T91 := Lib.hid (TPwy78.out.keep (Kept.of_below gx87))
                  have T92 := Lib.hid (TQwy78.out.keep (Kept.of_below gx87))
                  have X93 := Lib.hid (Ywy78.out.later gx87)
                  have X94 := Lib.hid (Xwy78.out.later gx87)
                  clear gx87
                  refine wp_store_ro (.tmp 12) (.tmp 64) rfl rfl (vs := txV u.ver Qi qi qc Qo qo qd u.lock) rfl rowTx X93.out rfl rfl (txV_one _ _ _ _ _ _ _ _) ?_
                  intro wy89 xz gz
                  have Gwy89 := Lib.hid (Gwx86.out.grown gz Gwx86.out.size (fun b e => by injection e with e; rw [hlo]; omega))
                  obtain ⟨z90, hz90⟩ : ∃ s, wy89.heap.size = s := ⟨_, rfl⟩
                  have Xwy89 := Lib.hid xz
                  have Ywy89 := Lib.hid (X94.out.far gz (fun e => by injection e with e; omega))
                  have TPwy89 := Lib.hid (T91.out.keep (Kept.of_grown gz fun b hb e => by injection e with e; omega))
                  have TQwy89 := Lib.hid (T92.out.keep (Kept.of_grown gz fun b hb e => by injection e with e; omega))
                  have lz90 : s88 ≤ z90 := by rw [← hs88, ← hz90]; exact gz.size
                  clear xz gz
                  refine hK _ _ Gwy89.out ?_
                  clear hK K
                  refine wpK_end (by kernel_rfl) fun we ge => ?_
                  have BE := Lib.hid (Gwy89.out.trans (ge.mono Gwy89.out.size))
                  have E1 := Lib.hid (Ywy89.out.later ge)
                  have E2 := Lib.hid (Xwy89.out.later ge)
                  have E3 := Lib.hid (TPwy89.out.keep (Kept.of_below ge))
                  have E4 := Lib.hid (TQwy89.out.keep (Kept.of_below ge))
                  clear ge
                  go_wp2_with fail
                  go_meet
                  exact ⟨_, _, Pi, pi, pc, Po, po, pd, Qi, qi, qc, Qo, qo, qd, rfl, rfl, E1.out, E2.out, E3.out.r, E4.out.r, BE.out⟩
              · intro wx95 gx96 K hK
                have Gwx95 := Lib.hid (Gwy4.out.trans (gx96.mono Gwy4.out.size))
                obtain ⟨s97, hs97⟩ : ∃ s, wx95.heap.size = s := ⟨_, rfl⟩
                have ls97 : z5 ≤ s97 := by rw [← hs97, ← hz5]; exact gx96.size
                have T100 := Lib.hid (T6.out.keep (Kept.of_below gx96))
                clear gx96
                go_simp
                obtain ⟨wy98, hwy98⟩ : ∃ w2, wx95.alloc (.cells zTx.toArray 26) = w2 := ⟨_, rfl⟩
                have bz := ((Below.refl wx95.heap.size wx95).alloc (Nat.le_refl _) (.cells zTx.toArray 26))
                have xz := Ro.new wx95 26 zTx
                rw [hwy98] at bz xz
                rw [hs97] at xz
                have Gwy98 := Lib.hid (Gwx95.out.trans (bz.mono Gwx95.out.size))
                obtain ⟨z99, hz99⟩ : ∃ s, wy98.heap.size = s := ⟨_, rfl⟩
                have lz99 : z99 = s97 + 1 := by rw [← hs97, ← hz99, ← hwy98, World.size_alloc]
                have Xwy98 := Lib.hid xz
                have T101 := Lib.hid (T100.out.keep (Kept.of_below bz))
                rw [hwy98]
                try rw [hs97]
                clear bz xz hwy98
                refine hK _ _ Gwy98.out ?_
                clear hK K
                refine wpK_two (f := 3) (i := 3) (k := 5) (by kernel_rfl) rfl rfl rfl rfl ?_ ?_
                · intro wx102 gx103 K hK
                  have Gwx102 := Lib.hid (Gwy98.out.trans (gx103.mono Gwy98.out.size))
                  obtain ⟨s104, hs104⟩ : ∃ s, wx102.heap.size = s := ⟨_, rfl⟩
                  have ls104 : z99 ≤ s104 := by rw [← hs104, ← hz99]; exact gx103.size
                  have T107 := Lib.hid (T101.out.keep (Kept.of_below gx103))
                  have X108 := Lib.hid (Xwy98.out.later gx103)
                  clear gx103
                  have Tz := U8.out.keep (Kept.of_below Gwx102.out)
                  have Ez : lo ≤ wx102.heap.size := (by rw [hs104]; omega)
                  go_simp
                  with_reducible refine (refPlain_gen (t := u) _ WU.out Ez Tz).mono ?_
                  clear Tz Ez
                  rintro e wy105 ⟨Qi, qi, qc, Qo, qo, qd, rfl, Tq, bq⟩
                  have Gwy105 := Lib.hid (Gwx102.out.trans (bq.mono Gwx102.out.size))
                  obtain ⟨z106, hz106⟩ : ∃ s, wy105.heap.size = s := ⟨_, rfl⟩
                  have lz106 : s104 ≤ z106 := by rw [← hs104, ← hz106]; exact bq.size
                  rw [hs104] at Tq
                  have T109 : Hid (TxG wy105 (fun b => (b < lo ∨ s104 ≤ b) ∧ b < z106) (plain u) Qi qi qc Qo qo qd) := Lib.hid (by rw [← hz106]; exact Tq.weak fun b h h2 => ⟨h, h2⟩)
                  have T110 := Lib.hid (T107.out.keep (Kept.of_below bq))
                  have X111 := Lib.hid (X108.out.later bq)
                  clear Tq
                  refine hK _ _ Gwy105.out ?_
                  clear hK K
                  refine wpK_one (f := 2) (i := 5) (by kernel_rfl) rfl rfl ?_
                  intro wx112 gx113 K hK
                  have Gwx112 := Lib.hid (Gwy105.out.trans (gx113.mono Gwy105.out.size))
                  obtain ⟨s114, hs114⟩ : ∃ s, wx112.heap.size = s := ⟨_, rfl⟩
                  have ls114 : z106 ≤ s114 := by rw [← hs114, ← hz106]; exact gx113.size
                  have T117 := Lib.hid (T110.out.keep (Kept.of_below gx113))
                  have T118 := Lib.hid (T109.out.keep (Kept.of_below gx113))
                  have X119 := Lib.hid (X111.out.later gx113)
                  clear gx113
                  go_simp
                  obtain ⟨wy115, hwy115⟩ : ∃ w2, wx112.alloc (.cells zTx.toArray 26) = w2 := ⟨_, rfl⟩
                  have bz := ((Below.refl wx112.heap.size wx112).alloc (Nat.le_refl _) (.cells zTx.toArray 26))
                  have xz := Ro.new wx112 26 zTx
                  rw [hwy115] at bz xz
                  rw [hs114] at xz
                  have Gwy115 := Lib.hid (Gwx112.out.trans (bz.mono Gwx112.out.size))
                  obtain ⟨z116, hz116⟩ : ∃ s, wy115.heap.size = s := ⟨_, rfl⟩
                  have lz116 : z116 = s114 + 1 := by rw [← hs114, ← hz116, ← hwy115, World.size_alloc]
                  have Xwy115 := Lib.hid xz
                  have T120 := Lib.hid (T117.out.keep (Kept.of_below bz))
                  have T121 := Lib.hid (T118.out.keep (Kept.of_below bz))
                  have X122 := Lib.hid (X119.out.later bz)
                  rw [hwy115]
                  try rw [hs114]
                  clear bz xz hwy115
                  refine hK _ _ Gwy115.out ?_
                  clear hK K
                  refine wpK_one (f := 1) (i := 6) (by kernel_rfl) rfl rfl ?_
                  intro wx123 gx124 K hK
                  have Gwx123 := Lib.hid (Gwy115.out.trans (gx124.mono Gwy115.out.size))
                  obtain ⟨s125, hs125⟩ : ∃ s, wx123.heap.size = s := ⟨_, rfl⟩
                  have ls125 : z116 ≤ s125 := by rw [← hs125, ← hz116]; exact gx124.size
                  have T128 := Lib.hid (T120.out.keep (Kept.of_below gx124))
                  have T129 := Lib.hid (T121.out.keep (Kept.of_below gx124))
                  have X130 := Lib.hid (X122.out.later gx124)
                  have X131 := Lib.hid (Xwy115.out.later gx124)
                  clear gx124
                  have T132 : Hid (TxG wx123 (fun b => b ≠ s97 ∧ b ≠ s114) (plain t) Pi pi pc Po po pd) := Lib.hid (T128.out.weak fun b h _ => by omega)
                  have T133 : Hid (TxG wx123 (fun b => b ≠ s97 ∧ b ≠ s114) (plain u) Qi qi qc Qo qo qd) := Lib.hid (T129.out.weak fun b h _ => by omega)
                  refine wp_store_ro (.tmp 11) (.tmp 62) rfl rfl (vs := txV t.ver Pi pi pc Po po pd t.lock) rfl rowTx X130.out rfl rfl (txV_one _ _ _ _ _ _ _ _) ?_
                  intro wy126 xz gz
                  have Gwy126 := Lib.hid (Gwx123.out.grown gz Gwx123.out.size (fun b e => by injection e with e; rw [hlo]; omega))
                  obtain ⟨z127, hz127⟩ : ∃ s, wy126.heap.size = s := ⟨_, rfl⟩
                  have Xwy126 := Lib.hid xz
                  have Ywy126 := Lib.hid (X131.out.far gz (fun e => by injection e with e; omega))
                  have TPwy126 := Lib.hid (T132.out.keep (Kept.of_grown gz fun b hb e => by injection e with e; omega))
                  have TQwy126 := Lib.hid (T133.out.keep (Kept.of_grown gz fun b hb e => by injection e with e; omega))
                  have lz127 : s125 ≤ z127 := by rw [← hs125, ← hz127]; exact gz.size
                  clear xz gz
                  refine hK _ _ Gwy126.out ?_
                  clear hK K
                  refine wpK_one (f := 0) (i := 7) (by kernel_rfl) rfl rfl ?_
                  intro wx134 gx135 K hK
                  have Gwx134 := Lib.hid (Gwy126.out.trans (gx135.mono Gwy126.out.size))
                  obtain ⟨s136, hs136⟩ : ∃ s, wx134.heap.size = s := ⟨_, rfl⟩
                  have ls136 : z127 ≤ s136 := by rw [← hs136, ← hz127]; exact gx135.size
                  have T139 := Lib.hid (TPwy126.out.keep (Kept.of_below gx135))
                  have T140 := Lib.hid (TQwy126.out.keep (Kept.of_below gx135))
                  have X141 := Lib.hid (Xwy126.out.later gx135)
                  have X142 := Lib.hid (Ywy126.out.later gx135)
                  clear gx135
                  refine wp_store_ro (.tmp 12) (.tmp 64) rfl rfl (vs := txV u.ver Qi qi qc Qo qo qd u.lock) rfl rowTx X142.out rfl rfl (txV_one _ _ _ _ _ _ _ _) ?_
                  intro wy137 xz gz
                  have Gwy137 := Lib.hid (Gwx134.out.grown gz Gwx134.out.size (fun b e => by injection e with e; rw [hlo]; omega))
                  obtain ⟨z138, hz138⟩ : ∃ s, wy137.heap.size = s := ⟨_, rfl⟩
                  have Xwy137 := Lib.hid xz
                  have Ywy137 := Lib.hid (X141.out.far gz (fun e => by injection e with e; omega))
                  have TPwy137 := Lib.hid (T139.out.keep (Kept.of_grown gz fun b hb e => by injection e with e; omega))
                  have TQwy137 := Lib.hid (T140.out.keep (Kept.of_grown gz fun b hb e => by injection e with e; omega))
                  have lz138 : s136 ≤ z138 := by rw [← hs136, ← hz138]; exact gz.size
                  clear xz gz
                  refine hK _ _ Gwy137.out ?_
                  clear hK K
                  refine wpK_end (by kernel_rfl) fun we ge => ?_
                  have BE := Lib.hid (Gwy137.out.trans (ge.mono Gwy137.out.size))
                  have E1 := Lib.hid (Ywy137.out.later ge)
                  have E2 := Lib.hid (Xwy137.out.later ge)
                  have E3 := Lib.hid (TPwy137.out.keep (Kept.of_below ge))
                  have E4 := Lib.hid (TQwy137.out.keep (Kept.of_below ge))
                  clear ge
                  go_wp2_with fail
                  go_meet
                  exact ⟨_, _, Pi, pi, pc, Po, po, pd, Qi, qi, qc, Qo, qo, qd, rfl, rfl, E1.out, E2.out, E3.out.r, E4.out.r, BE.out⟩
                · intro wx143 gx144 K hK
                  have Gwx143 := Lib.hid (Gwy98.out.trans (gx144.mono Gwy98.out.size))
                  obtain ⟨s145, hs145⟩ : ∃ s, wx143.heap.size = s := ⟨_, rfl⟩
                  have ls145 : z99 ≤ s145 := by rw [← hs145, ← hz99]; exact gx144.size
                  have T148 := Lib.hid (T101.out.keep (Kept.of_below gx144))
                  have X149 := Lib.hid (Xwy98.out.later gx144)
                  clear gx144
                  go_simp
                  obtain ⟨wy146, hwy146⟩ : ∃ w2, wx143.alloc (.cells zTx.toArray 26) = w2 := ⟨_, rfl⟩
                  have bz := ((Below.refl wx143.heap.size wx143).alloc (Nat.le_refl _) (.cells zTx.toArray 26))
                  have xz := Ro.new wx143 26 zTx
                  rw [hwy146] at bz xz
                  rw [hs145] at xz
                  have Gwy146 := Lib.hid (Gwx143.out.trans (bz.mono Gwx143.out.size))
                  obtain ⟨z147, hz147⟩ : ∃ s, wy146.heap.size = s := ⟨_, rfl⟩
                  have lz147 : z147 = s145 + 1 := by rw [← hs145, ← hz147, ← hwy146, World.size_alloc]
                  have Xwy146 := Lib.hid xz
                  have T150 := Lib.hid (T148.out.keep (Kept.of_below bz))
                  have X151 := Lib.hid (X149.out.later bz)
                  rw [hwy146]
                  try rw [hs145]
                  clear bz xz hwy146
                  refine hK _ _ Gwy146.out ?_
                  clear hK K
                  refine wpK_one (f := 2) (i := 3) (by kernel_rfl) rfl rfl ?_
                  intro wx152 gx153 K hK
                  have Gwx152 := Lib.hid (Gwy146.out.trans (gx153.mono Gwy146.out.size))
                  obtain ⟨s154, hs154⟩ : ∃ s, wx152.heap.size = s := ⟨_, rfl⟩
                  have ls154 : z147 ≤ s154 := by rw [← hs154, ← hz147]; exact gx153.size
                  have T157 := Lib.hid (T150.out.keep (Kept.of_below gx153))
                  have X158 := Lib.hid (X151.out.later gx153)
                  have X159 := Lib.hid (Xwy146.out.later gx153)
                  clear gx153
                  have Tz := U8.out.keep (Kept.of_below Gwx152.out)
                  have Ez : lo ≤ wx152.heap.size := (by rw [hs154]; omega)
                  go_simp
                  with_reducible refine (refPlain_gen (t := u) _ WU.out Ez Tz).mono ?_
                  clear Tz Ez
                  rintro e wy155 ⟨Qi, qi, qc, Qo, qo, qd, rfl, Tq, bq⟩
                  have Gwy155 := Lib.hid (Gwx152.out.trans (bq.mono Gwx152.out.size))
                  obtain ⟨z156, hz156⟩ : ∃ s, wy155.heap.size = s := ⟨_, rfl⟩
                  have lz156 : s154 ≤ z156 := by rw [← hs154, ← hz156]; exact bq.size
                  rw [hs154] at Tq
                  have T160 : Hid (TxG wy155 (fun b => (b < lo ∨ s154 ≤ b) ∧ b < z156) (plain u) Qi qi qc Qo qo qd) := Lib.hid (by rw [← hz156]; exact Tq.weak fun b h h2 => ⟨h, h2⟩)
                  have T161 := Lib.hid (T157.out.keep (Kept.of_below bq))
                  have X162 := Lib.hid (X158.out.later bq)
                  have X163 := Lib.hid (X159.out.later bq)
                  clear Tq
                  refine hK _ _ Gwy155.out ?_
                  clear hK K
                  refine wpK_one (f := 1) (i := 6) (by kernel_rfl) rfl rfl ?_
                  intro wx164 gx165 K hK
                  have Gwx164 := Lib.hid (Gwy155.out.trans (gx165.mono Gwy155.out.size))
                  obtain ⟨s166, hs166⟩ : ∃ s, wx164.heap.size = s := ⟨_, rfl⟩
                  have ls166 : z156 ≤ s166 := by rw [← hs166, ← hz156]; exact gx165.size
                  have T169 := Lib.hid (T161.out.keep (Kept.of_below gx165))
                  have T170 := Lib.hid (T160.out.keep (Kept.of_below gx165))
                  have X171 := Lib.hid (X162.out.later gx165)
                  have X172 := Lib.hid (X163.out.later gx165)
                  clear gx165
                  have T173 : Hid (TxG wx164 (fun b => b ≠ s97 ∧ b ≠ s145) (plain t) Pi pi pc Po po pd) := Lib.hid (T169.out.weak fun b h _ => by omega)
                  have T174 : Hid (TxG wx164 (fun b => b ≠ s97 ∧ b ≠ s145) (plain u) Qi qi qc Qo qo qd) := Lib.hid (T170.out.weak fun b h _ => by omega)
                  refine wp_store_ro (.tmp 11) (.tmp 62) rfl rfl (vs := txV t.ver Pi pi pc Po po pd t.lock) rfl rowTx X171.out rfl rfl (txV_one _ _ _ _ _ _ _ _) ?_
                  intro wy167 xz gz
                  have Gwy167 := Lib.hid (Gwx164.out.grown gz Gwx164.out.size (fun b e => by injection e with e; rw [hlo]; omega))
                  obtain ⟨z168, hz168⟩ : ∃ s, wy167.heap.size = s := ⟨_, rfl⟩
                  have Xwy167 := Lib.hid xz
                  have Ywy167 := Lib.hid (X172.out.far gz (fun e => by injection e with e; omega))
                  have TPwy167 := Lib.hid (T173.out.keep (Kept.of_grown gz fun b hb e => by injection e with e; omega))
                  have TQwy167 := Lib.hid (T174.out.keep (Kept.of_grown gz fun b hb e => by injection e with e; omega))
                  have lz168 : s166 ≤ z168 := by rw [← hs166, ← hz168]; exact gz.size
                  clear xz gz
                  refine hK _ _ Gwy167.out ?_
                  clear hK K
                  refine wpK_one (f := 0) (i := 7) (by kernel_rfl) rfl rfl ?_
                  intro wx175 gx176 K hK
                  have Gwx175 := Lib.hid (Gwy167.out.trans (gx176.mono Gwy167.out.size))
                  obtain ⟨s177, hs177⟩ : ∃ s, wx175.heap.size = s := ⟨_, rfl⟩
                  have ls177 : z168 ≤ s177 := by rw [← hs177, ← hz168]; exact gx176.size
                  have T180 := Lib.hid (TPwy167.out.keep (Kept.of_below gx176))
                  have T181 := Lib.hid (TQwy167.out.keep (Kept.of_below gx176))
                  have X182 := Lib.hid (Xwy167.out.later gx176)
                  have X183 := Lib.hid (Ywy167.out.later gx176)
                  clear gx176
                  refine wp_store_ro (.tmp 12) (.tmp 64) rfl rfl (vs := txV u.ver Qi qi qc Qo qo qd u.lock) rfl rowTx X183.out rfl rfl (txV_one _ _ _ _ _ _ _ _) ?_
                  intro wy178 xz gz
                  have Gwy178 := Lib.hid (Gwx175.out.grown gz Gwx175.out.size (fun b e => by injection e with e; rw [hlo]; omega))
                  obtain ⟨z179, hz179⟩ : ∃ s, wy178.heap.size = s := ⟨_, rfl⟩
                  have Xwy178 := Lib.hid xz
                  have Ywy178 := Lib.hid (X182.out.far gz (fun e => by injection e with e; omega))
                  have TPwy178 := Lib.hid (T180.out.keep (Kept.of_grown gz fun b hb e => by injection e with e; omega))
                  have TQwy178 := Lib.hid (T181.out.keep (Kept.of_grown gz fun b hb e => by injection e with e; omega))
                  have lz179 : s177 ≤ z179 := by rw [← hs177, ← hz179]; exact gz.size
                  clear xz gz
                  refine hK _ _ Gwy178.out ?_
                  clear hK K
                  refine wpK_end (by kernel_rfl) fun we ge => ?_
                  have BE := Lib.hid (Gwy178.out.trans (ge.mono Gwy178.out.size))
                  have E1 := Lib.hid (Ywy178.out.later ge)
                  have E2 := Lib.hid (Xwy178.out.later ge)
                  have E3 := Lib.hid (TPwy178.out.keep (Kept.of_below ge))
                  have E4 := Lib.hid (TQwy178.out.keep (Kept.of_below ge))
                  clear ge
                  go_wp2_with fail
                  go_meet
                  exact ⟨_, _, Pi, pi, pc, Po, po, pd, Qi, qi, qc, Qo, qo, qd, rfl, rfl, E1.out, E2.out, E3.out.r, E4.out.r, BE.out⟩
              · intro wx184 gx185 K hK
                have Gwx184 := Lib.hid (Gwy4.out.trans (gx185.mono Gwy4.out.size))
                obtain ⟨s186, hs186⟩ : ∃ s, wx184.heap.size = s := ⟨_, rfl⟩
                have ls186 : z5 ≤ s186 := by rw [← hs186, ← hz5]; exact gx185.size
                have T189 := Lib.hid (T6.out.keep (Kept.of_below gx185))
                clear gx185
                go_simp
                obtain ⟨wy187, hwy187⟩ : ∃ w2, wx184.alloc (.cells zTx.toArray 26) = w2 := ⟨_, rfl⟩
                have bz := ((Below.refl wx184.heap.size wx184).alloc (Nat.le_refl _) (.cells zTx.toArray 26))
                have xz := Ro.new wx184 26 zTx
                rw [hwy187] at bz xz
                rw [hs186] at xz
                have Gwy187 := Lib.hid (Gwx184.out.trans (bz.mono Gwx184.out.size))
                obtain ⟨z188, hz188⟩ : ∃ s, wy187.heap.size = s := ⟨_, rfl⟩
                have lz188 : z188 = s186 + 1 := by rw [← hs186, ← hz188, ← hwy187, World.size_alloc]
                have Xwy187 := Lib.hid xz
                have T190 := Lib.hid (T189.out.keep (Kept.of_below bz))
                rw [hwy187]
                try rw [hs186]
                clear bz xz hwy187
                refine hK _ _ Gwy187.out ?_
                clear hK K
                refine wpK_two (f := 3) (i := 3) (k := 4) (by kernel_rfl) rfl rfl rfl rfl ?_ ?_
                · intro wx191 gx192 K hK
                  have Gwx191 := Lib.hid (Gwy187.out.trans (gx192.mono Gwy187.out.size))
                  obtain ⟨s193, hs193⟩ : ∃ s, wx191.heap.size = s := ⟨_, rfl⟩
                  have ls193 : z188 ≤ s193 := by rw [← hs193, ← hz188]; exact gx192.size
                  have T196 := Lib.hid (T190.out.keep (Kept.of_below gx192))
                  have X197 := Lib.hid (Xwy187.out.later gx192)
                  clear gx192
                  have Tz := U8.out.keep (Kept.of_below Gwx191.out)
                  have Ez : lo ≤ wx191.heap.size := (by rw [hs193]; omega)
                  go_simp
                  with_reducible refine (refPlain_gen (t := u) _ WU.out Ez Tz).mono ?_
                  clear Tz Ez
                  rintro e wy194 ⟨Qi, qi, qc, Qo, qo, qd, rfl, Tq, bq⟩
                  have Gwy194 := Lib.hid (Gwx191.out.trans (bq.mono Gwx191.out.size))
                  obtain ⟨z195, hz195⟩ : ∃ s, wy194.heap.size = s := ⟨_, rfl⟩
                  have lz195 : s193 ≤ z195 := by rw [← hs193, ← hz195]; exact bq.size
                  rw [hs193] at Tq
                  have T198 : Hid (TxG wy194 (fun b => (b < lo ∨ s193 ≤ b) ∧ b < z195) (plain u) Qi qi qc Qo qo qd) := Lib.hid (by rw [← hz195]; exact Tq.weak fun b h h2 => ⟨h, h2⟩)
                  have T199 := Lib.hid (T196.out.keep (Kept.of_below bq))
                  have X200 := Lib.hid (X197.out.later bq)
                  clear Tq
                  refine hK _ _ Gwy194.out ?_
                  clear hK K
                  refine wpK_one (f := 2) (i := 4) (by kernel_rfl) rfl rfl ?_
                  intro wx201 gx202 K hK
                  have Gwx201 := Lib.hid (Gwy194.out.trans (gx202.mono Gwy194.out.size))
                  obtain ⟨s203, hs203⟩ : ∃ s, wx201.heap.size = s := ⟨_, rfl⟩
                  have ls203 : z195 ≤ s203 := by rw [← hs203, ← hz195]; exact gx202.size
                  have T206 := Lib.hid (T199.out.keep (Kept.of_below gx202))
                  have T207 := Lib.hid (T198.out.keep (Kept.of_below gx202))
                  have X208 := Lib.hid (X200.out.later gx202)
                  clear gx202
                  go_simp
                  obtain ⟨wy204, hwy204⟩ : ∃ w2, wx201.alloc (.cells zTx.toArray 26) = w2 := ⟨_, rfl⟩
                  have bz := ((Below.refl wx201.heap.size wx201).alloc (Nat.le_refl _) (.cells zTx.toArray 26))
                  have xz := Ro.new wx201 26 zTx
                  rw [hwy204] at bz xz
                  rw [hs203] at xz
                  have Gwy204 := Lib.hid (Gwx201.out.trans (bz.mono Gwx201.out.size))
                  obtain ⟨z205, hz205⟩ : ∃ s, wy204.heap.size = s := ⟨_, rfl⟩
                  have lz205 : z205 = s203 + 1 := by rw [← hs203, ← hz205, ← hwy204, World.size_alloc]
                  have Xwy204 := Lib.hid xz
                  have T209 := Lib.hid (T206.out.keep (Kept.of_below bz))
                  have T210 := Lib.hid (T207.out.keep (Kept.of_below bz))
                  have X211 := Lib.hid (X208.out.later bz)
                  rw [hwy204]
                  try rw [hs203]
                  clear bz xz hwy204
                  refine hK _ _ Gwy204.out ?_
                  clear hK K
                  refine wpK_one (f := 1) (i := 6) (by kernel_rfl) rfl rfl ?_
                  intro wx212 gx213 K hK
                  have Gwx212 := Lib.hid (Gwy204.out.trans (gx213.mono Gwy204.out.size))
                  obtain ⟨s214, hs214⟩ : ∃ s, wx212.heap.size = s := ⟨_, rfl⟩
                  have ls214 : z205 ≤ s214 := by rw [← hs214, ← hz205]; exact gx213.size
                  have T217 := Lib.hid (T209.out.keep (Kept.of_below gx213))
                  have T218 := Lib.hid (T210.out.keep (Kept.of_below gx213))
                  have X219 := Lib.hid (X211.out.later gx213)
                  have X220 := Lib.hid (Xwy204.out.later gx213)
                  clear gx213
                  have T221 : Hid (TxG wx212 (fun b => b ≠ s203 ∧ b ≠ s186) (plain t) Pi pi pc Po po pd) := Lib.hid (T217.out.weak fun b h _ => by omega)
                  have T222 : Hid (TxG wx212 (fun b => b ≠ s203 ∧ b ≠ s186) (plain u) Qi qi qc Qo qo qd) := Lib.hid (T218.out.weak fun b h _ => by omega)
                  refine wp_store_ro (.tmp 11) (.tmp 62) rfl rfl (vs := txV t.ver Pi pi pc Po po pd t.lock) rfl rowTx X220.out rfl rfl (txV_one _ _ _ _ _ _ _ _) ?_
                  intro wy215 xz gz
                  have Gwy215 := Lib.hid (Gwx212.out.grown gz Gwx212.out.size (fun b e => by injection e with e; rw [hlo]; omega))
                  obtain ⟨z216, hz216⟩ : ∃ s, wy215.heap.size = s := ⟨_, rfl⟩
                  have Xwy215 := Lib.hid xz
                  have Ywy215 := Lib.hid (X219.out.far gz (fun e => by injection e with e; omega))
                  have TPwy215 := Lib.hid (T221.out.keep (Kept.of_grown gz fun b hb e => by injection e with e; omega))
                  have TQwy215 := Lib.hid (T222.out.keep (Kept.of_grown gz fun b hb e => by injection e with e; omega))
                  have lz216 : s214 ≤ z216 := by rw [← hs214, ← hz216]; exact gz.size
                  clear xz gz
                  refine hK _ _ Gwy215.out ?_
                  clear hK K
                  refine wpK_one (f := 0) (i := 7) (by kernel_rfl) rfl rfl ?_
                  intro wx223 gx224 K hK
                  have Gwx223 := Lib.hid (Gwy215.out.trans (gx224.mono Gwy215.out.size))
                  obtain ⟨s225, hs225⟩ : ∃ s, wx223.heap.size = s := ⟨_, rfl⟩
                  have ls225 : z216 ≤ s225 := by rw [← hs225, ← hz216]; exact gx224.size
                  have T228 := Lib.hid (TPwy215.out.keep (Kept.of_below gx224))
                  have T229 := Lib.hid (TQwy215.out.keep (Kept.of_below gx224))
                  have X230 := Lib.hid (Ywy215.out.later gx224)
                  have X231 := Lib.hid (Xwy215.out.later gx224)
                  clear gx224
                  refine wp_store_ro (.tmp 12) (.tmp 64) rfl rfl (vs := txV u.ver Qi qi qc Qo qo qd u.lock) rfl rowTx X230.out rfl rfl (txV_one _ _ _ _ _ _ _ _) ?_
                  intro wy226 xz gz
                  have Gwy226 := Lib.hid (Gwx223.out.grown gz Gwx223.out.size (fun b e => by injection e with e; rw [hlo]; omega))
                  obtain ⟨z227, hz227⟩ : ∃ s, wy226.heap.size = s := ⟨_, rfl⟩
                  have Xwy226 := Lib.hid xz
                  have Ywy226 := Lib.hid (X231.out.far gz (fun e => by injection e with e; omega))
                  have TPwy226 := Lib.hid (T228.out.keep (Kept.of_grown gz fun b hb e => by injection e with e; omega))
                  have TQwy226 := Lib.hid (T229.out.keep (Kept.of_grown gz fun b hb e => by injection e with e; omega))
                  have lz227 : s225 ≤ z227 := by rw [← hs225, ← hz227]; exact gz.size
                  clear xz gz
                  refine hK _ _ Gwy226.out ?_
                  clear hK K
                  refine wpK_end (by kernel_rfl) fun we ge => ?_
                  have BE := Lib.hid (Gwy226.out.trans (ge.mono Gwy226.out.size))
                  have E1 := Lib.hid (Ywy226.out.later ge)
                  have E2 := Lib.hid (Xwy226.out.later ge)
                  have E3 := Lib.hid (TPwy226.out.keep (Kept.of_below ge))
                  have E4 := Lib.hid (TQwy226.out.keep (Kept.of_below ge))
                  clear ge
                  go_wp2_with fail
                  go_meet
                  exact ⟨_, _, Pi, pi, pc, Po, po, pd, Qi, qi, qc, Qo, qo, qd, rfl, rfl, E1.out, E2.out, E3.out.r, E4.out.r, BE.out⟩
                · intro wx232 gx233 K hK
                  have Gwx232 := Lib.hid (Gwy187.out.trans (gx233.mono Gwy187.out.size))
                  obtain ⟨s234, hs234⟩ : ∃ s, wx232.heap.size = s := ⟨_, rfl⟩
                  have ls234 : z188 ≤ s234 := by rw [← hs234, ← hz188]; exact gx233.size
                  have T237 := Lib.hid (T190.out.keep (Kept.of_below gx233))
                  have X238 := Lib.hid (Xwy187.out.later gx233)
                  clear gx233
                  go_simp
                  obtain ⟨wy235, hwy235⟩ : ∃ w2, wx232.alloc (.cells zTx.toArray 26) = w2 := ⟨_, rfl⟩
                  have bz := ((Below.refl wx232.heap.size wx232).alloc (Nat.le_refl _) (.cells zTx.toArray 26))
                  have xz := Ro.new wx232 26 zTx
                  rw [hwy235] at bz xz
                  rw [hs234] at xz
                  have Gwy235 := Lib.hid (Gwx232.out.trans (bz.mono Gwx232.out.size))
                  obtain ⟨z236, hz236⟩ : ∃ s, wy235.heap.size = s := ⟨_, rfl⟩
                  have lz236 : z236 = s234 + 1 := by rw [← hs234, ← hz236, ← hwy235, World.size_alloc]
                  have Xwy235 := Lib.hid xz
                  have T239 := Lib.hid (T237.out.keep (Kept.of_below bz))
                  have X240 := Lib.hid (X238.out.later bz)
                  rw [hwy235]
                  try rw [hs234]
                  clear bz xz hwy235
                  refine hK _ _ Gwy235.out ?_
                  clear hK K
                  refine wpK_one (f := 2) (i := 3) (by kernel_rfl) rfl rfl ?_
                  intro wx241 gx242 K hK
                  have Gwx241 := Lib.hid (Gwy235.out.trans (gx242.mono Gwy235.out.size))
                  obtain ⟨s243, hs243⟩ : ∃ s, wx241.heap.size = s := ⟨_, rfl⟩
                  have ls243 : z236 ≤ s243 := by rw [← hs243, ← hz236]; exact gx242.size
                  have T246 := Lib.hid (T239.out.keep (Kept.of_below gx242))
                  have X247 := Lib.hid (X240.out.later gx242)
                  have X248 := Lib.hid (Xwy235.out.later gx242)
                  clear gx242
                  have Tz := U8.out.keep (Kept.of_below Gwx241.out)
                  have Ez : lo ≤ wx241.heap.size := (by rw [hs243]; omega)
                  go_simp
                  with_reducible refine (refPlain_gen (t := u) _ WU.out Ez Tz).mono ?_
                  clear Tz Ez
                  rintro e wy244 ⟨Qi, qi, qc, Qo, qo, qd, rfl, Tq, bq⟩
                  have Gwy244 := Lib.hid (Gwx241.out.trans (bq.mono Gwx241.out.size))
                  obtain ⟨z245, hz245⟩ : ∃ s, wy244.heap.size = s := ⟨_, rfl⟩
                  have lz245 : s243 ≤ z245 := by rw [← hs243, ← hz245]; exact bq.size
                  rw [hs243] at Tq
                  have T249 : Hid (TxG wy244 (fun b => (b < lo ∨ s243 ≤ b) ∧ b < z245) (plain u) Qi qi qc Qo qo qd) := Lib.hid (by rw [← hz245]; exact Tq.weak fun b h h2 => ⟨h, h2⟩)
                  have T250 := Lib.hid (T246.out.keep (Kept.of_below bq))
                  have X251 := Lib.hid (X247.out.later bq)
                  have X252 := Lib.hid (X248.out.later bq)
                  clear Tq
                  refine hK _ _ Gwy244.out ?_
                  clear hK K
                  refine wpK_one (f := 1) (i := 6) (by kernel_rfl) rfl rfl ?_
                  intro wx253 gx254 K hK
                  have Gwx253 := Lib.hid (Gwy244.out.trans (gx254.mono Gwy244.out.size))
                  obtain ⟨s255, hs255⟩ : ∃ s, wx253.heap.size = s := ⟨_, rfl⟩
                  have ls255 : z245 ≤ s255 := by rw [← hs255, ← hz245]; exact gx254.size
                  have T258 := Lib.hid (T250.out.keep (Kept.of_below gx254))
                  have T259 := Lib.hid (T249.out.keep (Kept.of_below gx254))
                  have X260 := Lib.hid (X251.out.later gx254)
                  have X261 := Lib.hid (X252.out.later gx254)
                  clear gx254
                  have T262 : Hid (TxG wx253 (fun b => b ≠ s234 ∧ b ≠ s186) (plain t) Pi pi pc Po po pd) := Lib.hid (T258.out.weak fun b h _ => by omega)
                  have T263 : Hid (TxG wx253 (fun b => b ≠ s234 ∧ b ≠ s186) (plain u) Qi qi qc Qo qo qd) := Lib.hid (T259.out.weak fun b h _ => by omega)
                  refine wp_store_ro (.tmp 11) (.tmp 62) rfl rfl (vs := txV t.ver Pi pi pc Po po pd t.lock) rfl rowTx X261.out rfl rfl (txV_one _ _ _ _ _ _ _ _) ?_
                  intro wy256 xz gz
                  have Gwy256 := Lib.hid (Gwx253.out.grown gz Gwx253.out.size (fun b e => by injection e with e; rw [hlo]; omega))
                  obtain ⟨z257, hz257⟩ : ∃ s, wy256.heap.size = s := ⟨_, rfl⟩
                  have Xwy256 := Lib.hid xz
                  have Ywy256 := Lib.hid (X260.out.far gz (fun e => by injection e with e; omega))
                  have TPwy256 := Lib.hid (T262.out.keep (Kept.of_grown gz fun b hb e => by injection e with e; omega))
                  have TQwy256 := Lib.hid (T263.out.keep (Kept.of_grown gz fun b hb e => by injection e with e; omega))
                  have lz257 : s255 ≤ z257 := by rw [← hs255, ← hz257]; exact gz.size
                  clear xz gz
                  refine hK _ _ Gwy256.out ?_
                  clear hK K
                  refine wpK_one (f := 0) (i := 7) (by kernel_rfl) rfl rfl ?_
                  intro wx264 gx265 K hK
                  have Gwx264 := Lib.hid (Gwy256.out.trans (gx265.mono Gwy256.out.size))
                  obtain ⟨s266, hs266⟩ : ∃ s, wx264.heap.size = s := ⟨_, rfl⟩
                  have ls266 : z257 ≤ s266 := by rw [← hs266, ← hz257]; exact gx265.size
                  have T269 := Lib.hid (TPwy256.out.keep (Kept.of_below gx265))
                  have T270 := Lib.hid (TQwy256.out.keep (Kept.of_below gx265))
                  have X271 := Lib.hid (Ywy256.out.later gx265)
                  have X272 := Lib.hid (Xwy256.out.later gx265)
                  clear gx265
                  refine wp_store_ro (.tmp 12) (.tmp 64) rfl rfl (vs := txV u.ver Qi qi qc Qo qo qd u.lock) rfl rowTx X271.out rfl rfl (txV_one _ _ _ _ _ _ _ _) ?_
                  intro wy267 xz gz
                  have Gwy267 := Lib.hid (Gwx264.out.grown gz Gwx264.out.size (fun b e => by injection e with e; rw [hlo]; omega))
                  obtain ⟨z268, hz268⟩ : ∃ s, wy267.heap.size = s := ⟨_, rfl⟩
                  have Xwy267 := Lib.hid xz
                  have Ywy267 := Lib.hid (X272.out.far gz (fun e => by injection e with e; omega))
                  have TPwy267 := Lib.hid (T269.out.keep (Kept.of_grown gz fun b hb e => by injection e with e; omega))
                  have TQwy267 := Lib.hid (T270.out.keep (Kept.of_grown gz fun b hb e => by injection e with e; omega))
                  have lz268 : s266 ≤ z268 := by rw [← hs266, ← hz268]; exact gz.size
                  clear xz gz
                  refine hK _ _ Gwy267.out ?_
                  clear hK K
                  refine wpK_end (by kernel_rfl) fun we ge => ?_
                  have BE := Lib.hid (Gwy267.out.trans (ge.mono Gwy267.out.size))
                  have E1 := Lib.hid (Ywy267.out.later ge)
                  have E2 := Lib.hid (Xwy267.out.later ge)
                  have E3 := Lib.hid (TPwy267.out.keep (Kept.of_below ge))
                  have E4 := Lib.hid (TQwy267.out.keep (Kept.of_below ge))
                  clear ge
                  go_wp2_with fail
                  go_meet
                  exact ⟨_, _, Pi, pi, pc, Po, po, pd, Qi, qi, qc, Qo, qo, qd, rfl, rfl, E1.out, E2.out, E3.out.r, E4.out.r, BE.out⟩
            · intro wx273 gx274 K hK
              have Gwx273 := Lib.hid (GA.out.trans (gx274.mono GA.out.size))
              obtain ⟨s275, hs275⟩ : ∃ s, wx273.heap.size = s := ⟨_, rfl⟩
              have ls275 : sa ≤ s275 := by rw [← hs275, ← hsa]; exact gx274.size
              clear gx274
              go_simp
              obtain ⟨wy276, hwy276⟩ : ∃ w2, wx273.alloc (.cells zTx.toArray 26) = w2 := ⟨_, rfl⟩
              have bz := ((Below.refl wx273.heap.size wx273).alloc (Nat.le_refl _) (.cells zTx.toArray 26))
              have xz := Ro.new wx273 26 zTx
              rw [hwy276] at bz xz
              rw [hs275] at xz
              have Gwy276 := Lib.hid (Gwx273.out.trans (bz.mono Gwx273.out.size))
              obtain ⟨z277, hz277⟩ : ∃ s, wy276.heap.size = s := ⟨_, rfl⟩
              have lz277 : z277 = s275 + 1 := by rw [← hs275, ← hz277, ← hwy276, World.size_alloc]
              have Xwy276 := Lib.hid xz
              rw [hwy276]
              try rw [hs275]
              clear bz xz hwy276
              refine hK _ _ Gwy276.out ?_
              clear hK K
              refine wpK_two (f := 4) (i := 1) (k := 5) (by kernel_rfl) rfl rfl rfl rfl ?_ ?_
              · intro wx278 gx279 K hK
                have Gwx278 := Lib.hid (Gwy276.out.trans (gx279.mono Gwy276.out.size))
                obtain ⟨s280, hs280⟩ : ∃ s, wx278.heap.size = s := ⟨_, rfl⟩
                have ls280 : z277 ≤ s280 := by rw [← hs280, ← hz277]; exact gx279.size
                have X283 := Lib.hid (Xwy276.out.later gx279)
                clear gx279
                have Tz := T8.out.keep (Kept.of_below Gwx278.out)
                have Ez : lo ≤ wx278.heap.size := (by rw [hs280]; omega)
                go_simp
                with_reducible refine (refPlain_gen (t := t) _ WT.out Ez Tz).mono ?_
                clear Tz Ez
                rintro e wy281 ⟨Pi, pi, pc, Po, po, pd, rfl, Tq, bq⟩
                have Gwy281 := Lib.hid (Gwx278.out.trans (bq.mono Gwx278.out.size))
                obtain ⟨z282, hz282⟩ : ∃ s, wy281.heap.size = s := ⟨_, rfl⟩
                have lz282 : s280 ≤ z282 := by rw [← hs280, ← hz282]; exact bq.size
                rw [hs280] at Tq
                have T284 : Hid (TxG wy281 (fun b => (b < lo ∨ s280 ≤ b) ∧ b < z282) (plain t) Pi pi pc Po po pd) := Lib.hid (by rw [← hz282]; exact Tq.weak fun b h h2 => ⟨h, h2⟩)
                have X285 := Lib.hid (X283.out.later bq)
                clear Tq
                refine hK _ _ Gwy281.out ?_
                clear hK K
                refine wpK_two (f := 3) (i := 3) (k := 5) (by kernel_rfl) rfl rfl rfl rfl ?_ ?_
                · intro wx286 gx287 K hK
                  have Gwx286 := Lib.hid (Gwy281.out.trans (gx287.mono Gwy281.out.size))
                  obtain ⟨s288, hs288⟩ : ∃ s, wx286.heap.size = s := ⟨_, rfl⟩
                  have ls288 : z282 ≤ s288 := by rw [← hs288, ← hz282]; exact gx287.size
                  have T291 := Lib.hid (T284.out.keep (Kept.of_below gx287))
                  have X292 := Lib.hid (X285.out.later gx287)
                  clear gx287
                  have Tz := U8.out.keep (Kept.of_below Gwx286.out)
                  have Ez : lo ≤ wx286.heap.size := (by rw [hs288]; omega)
                  go_simp
                  with_reducible refine (refPlain_gen (t := u) _ WU.out Ez Tz).mono ?_
                  clear Tz Ez
                  rintro e wy289 ⟨Qi, qi, qc, Qo, qo, qd, rfl, Tq, bq⟩
                  have Gwy289 := Lib.hid (Gwx286.out.trans (bq.mono Gwx286.out.size))
                  obtain ⟨z290, hz290⟩ : ∃ s, wy289.heap.size = s := ⟨_, rfl⟩
                  have lz290 : s288 ≤ z290 := by rw [← hs288, ← hz290]; exact bq.size
                  rw [hs288] at Tq
                  have T293 : Hid (TxG wy289 (fun b => (b < lo ∨ s288 ≤ b) ∧ b < z290) (plain u) Qi qi qc Qo qo qd) := Lib.hid (by rw [← hz290]; exact Tq.weak fun b h h2 => ⟨h, h2⟩)
                  have T294 := Lib.hid (T291.out.keep (Kept.of_below bq))
                  have X295 := Lib.hid (X292.out.later bq)
                  clear Tq
                  refine hK _ _ Gwy289.out ?_
                  clear hK K
                  refine wpK_one (f := 2) (i := 5) (by kernel_rfl) rfl rfl ?_
                  intro wx296 gx297 K hK
                  have Gwx296 := Lib.hid (Gwy289.out.trans (gx297.mono Gwy289.out.size))
                  obtain ⟨s298, hs298⟩ : ∃ s, wx296.heap.size = s := ⟨_, rfl⟩
                  have ls298 : z290 ≤ s298 := by rw [← hs298, ← hz290]; exact gx297.size
                  have T301 := Lib.hid (T294.out.keep (Kept.of_below gx297))
                  have T302 := Lib.hid (T293.out.keep (Kept.of_below gx297))
                  have X303 := Lib.hid (X295.out.later gx297)
                  clear gx297
                  go_simp
                  obtain ⟨wy299, hwy299⟩ : ∃ w2, wx296.alloc (.cells zTx.toArray 26) = w2 := ⟨_, rfl⟩
                  have bz := ((Below.refl wx296.heap.size wx296).alloc (Nat.le_refl _) (.cells zTx.toArray 26))
                  have xz := Ro.new wx296 26 zTx
                  rw [hwy299] at bz xz
                  rw [hs298] at xz
                  have Gwy299 := Lib.hid (Gwx296.out.trans (bz.mono Gwx296.out.size))
                  obtain ⟨z300, hz300⟩ : ∃ s, wy299.heap.size = s := ⟨_, rfl⟩
                  have lz300 : z300 = s298 + 1 := by rw [← hs298, ← hz300, ← hwy299, World.size_alloc]
                  have Xwy299 := Lib.hid xz
                  have T304 := Lib.hid (T301.out.keep (Kept.of_below bz))
                  have T305 := Lib.hid (T302.out.keep (Kept.of_below bz))
                  have X306 := Lib.hid (X303.out.later bz)
                  rw [hwy299]
                  try rw [hs298]
                  clear bz xz hwy299
                  refine hK _ _ Gwy299.out ?_
                  clear hK K
                  refine wpK_one (f := 1) (i := 6) (by kernel_rfl) rfl rfl ?_
                  intro wx307 gx308 K hK
                  have Gwx307 := Lib.hid (Gwy299.out.trans (gx308.mono Gwy299.out.size))
                  obtain ⟨s309, hs309⟩ : ∃ s, wx307.heap.size = s := ⟨_, rfl⟩
                  have ls309 : z300 ≤ s309 := by rw [← hs309, ← hz300]; exact gx308.size
                  have T312 := Lib.hid (T304.out.keep (Kept.of_below gx308))
                  have T313 := Lib.hid (T305.out.keep (Kept.of_below gx308))
                  have X314 := Lib.hid (X306.out.later gx308)
                  have X315 := Lib.hid (Xwy299.out.later gx308)
                  clear gx308
                  have T316 : Hid (TxG wx307 (fun b => b ≠ s275 ∧ b ≠ s298) (plain t) Pi pi pc Po po pd) := Lib.hid (T312.out.weak fun b h _ => by omega)
                  have T317 : Hid (TxG wx307 (fun b => b ≠ s275 ∧ b ≠ s298) (plain u) Qi qi qc Qo qo qd) := Lib.hid (T313.out.weak fun b h _ => by omega)
                  refine wp_store_ro (.tmp 11) (.tmp 62) rfl rfl (vs := txV t.ver Pi pi pc Po po pd t.lock) rfl rowTx X314.out rfl rfl (txV_one _ _ _ _ _ _ _ _) ?_
                  intro wy310 xz gz
                  have Gwy310 := Lib.hid (Gwx307.out.grown gz Gwx307.out.size (fun b e => by injection e with e; rw [hlo]; omega))
                  obtain ⟨z311, hz311⟩ : ∃ s, wy310.heap.size = s := ⟨_, rfl⟩
                  have Xwy310 := Lib.hid xz
                  have Ywy310 := Lib.hid (X315.out.far gz (fun e => by injection e with e; omega))
                  have TPwy310 := Lib.hid (T316.out.keep (Kept.of_grown gz fun b hb e => by injection e with e; omega))
                  have TQwy310 := Lib.hid (T317.out.keep (Kept.of_grown gz fun b hb e => by injection e with e; omega))
                  have lz311 : s309 ≤ z311 := by rw [← hs309, ← hz311]; exact gz.size
                  clear xz gz
                  refine hK _ _ Gwy310.out ?_
                  clear hK K
                  refine wpK_one (f := 0) (i := 7) (by kernel_rfl) rfl rfl ?_
                  intro wx318 gx319 K hK
                  have Gwx318 := Lib.hid (Gwy310.out.trans (gx319.mono Gwy310.out.size))
                  obtain ⟨s320, hs320⟩ : ∃ s, wx318.heap.size = s := ⟨_, rfl⟩
                  have ls320 : z311 ≤ s320 := by rw [← hs320, ← hz311]; exact gx319.size
                  have T323 := Lib.hid (TPwy310.out.keep (Kept.of_below gx319))
                  have T324 := Lib.hid (TQwy310.out.keep (Kept.of_below gx319))
                  have X325 := Lib.hid (Xwy310.out.later gx319)
                  have X326 := Lib.hid (Ywy310.out.later gx319)
                  clear gx319
                  refine wp_store_ro (.tmp 12) (.tmp 64) rfl rfl (vs := txV u.ver Qi qi qc Qo qo qd u.lock) rfl rowTx X326.out rfl rfl (txV_one _ _ _ _ _ _ _ _) ?_
                  intro wy321 xz gz
                  have Gwy321 := Lib.hid (Gwx318.out.grown gz Gwx318.out.size (fun b e => by injection e with e; rw [hlo]; omega))
                  obtain ⟨z322, hz322⟩ : ∃ s, wy321.heap.size = s := ⟨_, rfl⟩
                  have Xwy321 := Lib.hid xz
                  have Ywy321 := Lib.hid (X325.out.far gz (fun e => by injection e with e; omega))
                  have TPwy321 := Lib.hid (T323.out.keep (Kept.of_grown gz fun b hb e => by injection e with e; omega))
                  have TQwy321 := Lib.hid (T324.out.keep (Kept.of_grown gz fun b hb e => by injection e with e; omega))
                  have lz322 : s320 ≤ z322 := by rw [← hs320, ← hz322]; exact gz.size
                  clear xz gz
                  refine hK _ _ Gwy321.out ?_
                  clear hK K
                  refine wpK_end (by kernel_rfl) fun we ge => ?_
                  have BE := Lib.hid (Gwy321.out.trans (ge.mono Gwy321.out.size))
                  have E1 := Lib.hid (Ywy321.out.later ge)
                  have E2 := Lib.hid (Xwy321.out.later ge)
                  have E3 := Lib.hid (TPwy321.out.keep (Kept.of_below ge))
                  have E4 := Lib.hid (TQwy321.out.keep (Kept.of_below ge))
                  clear ge
                  go_wp2_with fail
                  go_meet
                  exact ⟨_, _, Pi, pi, pc, Po, po, pd, Qi, qi, qc, Qo, qo, qd, rfl, rfl, E1.out, E2.out, E3.out.r, E4.out.r, BE.out⟩
                · intro wx327 gx328 K hK
                  have Gwx327 := Lib.hid (Gwy281.out.trans (gx328.mono Gwy281.out.size))
                  obtain ⟨s329, hs329⟩ : ∃ s, wx327.heap.size = s := ⟨_, rfl⟩
                  have ls329 : z282 ≤ s329 := by rw [← hs329, ← hz282]; exact gx328.size
                  have T332 := Lib.hid (T284.out.keep (Kept.of_below gx328))
                  have X333 := Lib.hid (X285.out.later gx328)
                  clear gx328
                  go_simp
                  obtain ⟨wy330, hwy330⟩ : ∃ w2, wx327.alloc (.cells zTx.toArray 26) = w2 := ⟨_, rfl⟩
                  have bz := ((Below.refl wx327.heap.size wx327).alloc (Nat.le_refl _) (.cells zTx.toArray 26))
                  have xz := Ro.new wx327 26 zTx
                  rw [hwy330] at bz xz
                  rw [hs329] at xz
                  have Gwy330 := Lib.hid (Gwx327.out.trans (bz.mono Gwx327.out.size))
                  obtain ⟨z331, hz331⟩ : ∃ s, wy330.heap.size = s := ⟨_, rfl⟩
                  have lz331 : z331 = s329 + 1 := by rw [← hs329, ← hz331, ← hwy330, World.size_alloc]
                  have Xwy330 := Lib.hid xz
                  have T334 := Lib.hid (T332.out.keep (Kept.of_below bz))
                  have X335 := Lib.hid (X333.out.later bz)
                  rw [hwy330]
                  try rw [hs329]
                  clear bz xz hwy330
                  refine hK _ _ Gwy330.out ?_
                  clear hK K
                  refine wpK_one (f := 2) (i := 3) (by kernel_rfl) rfl rfl ?_
                  intro wx336 gx337 K hK
                  have Gwx336 := Lib.hid (Gwy330.out.trans (gx337.mono Gwy330.out.size))
                  obtain ⟨s338, hs338⟩ : ∃ s, wx336.heap.size = s := ⟨_, rfl⟩
                  have ls338 : z331 ≤ s338 := by rw [← hs338, ← hz331]; exact gx337.size
                  have T341 := Lib.hid (T334.out.keep (Kept.of_below gx337))
                  have X342 := Lib.hid (X335.out.later gx337)
                  have X343 := Lib.hid (Xwy330.out.later gx337)
                  clear gx337
                  have Tz := U8.out.keep (Kept.of_below Gwx336.out)
                  have Ez : lo ≤ wx336.heap.size := (by rw [hs338]; omega)
                  go_simp
                  with_reducible refine (refPlain_gen (t := u) _ WU.out Ez Tz).mono ?_
                  clear Tz Ez
                  rintro e wy339 ⟨Qi, qi, qc, Qo, qo, qd, rfl, Tq, bq⟩
                  have Gwy339 := Lib.hid (Gwx336.out.trans (bq.mono Gwx336.out.size))
                  obtain ⟨z340, hz340⟩ : ∃ s, wy339.heap.size = s := ⟨_, rfl⟩
                  have lz340 : s338 ≤ z340 := by rw [← hs338, ← hz340]; exact bq.size
                  rw [hs338] at Tq
                  have T344 : Hid (TxG wy339 (fun b => (b < lo ∨ s338 ≤ b) ∧ b < z340) (plain u) Qi qi qc Qo qo qd) := Lib.hid (by rw [← hz340]; exact Tq.weak fun b h h2 => ⟨h, h2⟩)
                  have T345 := Lib.hid (T341.out.keep (Kept.of_below bq))
                  have X346 := Lib.hid (X342.out.later bq)
                  have X347 := Lib.hid (X343.out.later bq)
                  clear Tq
                  refine hK _ _ Gwy339.out ?_
                  clear hK K
                  refine wpK_one (f := 1) (i := 6) (by kernel_rfl) rfl rfl ?_
                  intro wx348 gx349 K hK
                  have Gwx348 := Lib.hid (Gwy339.out.trans (gx349.mono Gwy339.out.size))
                  obtain ⟨s350, hs350⟩ : ∃ s, wx348.heap.size = s := ⟨_, rfl⟩
                  have ls350 : z340 ≤ s350 := by rw [← hs350, ← hz340]; exact gx349.size
                  have T353 := Lib.hid (T345.out.keep (Kept.of_below gx349))
                  have T354 := Lib.hid (T344.out.keep (Kept.of_below gx349))
                  have X355 := Lib.hid (X346.out.later gx349)
                  have X356 := Lib.hid (X347.out.later gx349)
                  clear gx349
                  have T357 : Hid (TxG wx348 (fun b => b ≠ s275 ∧ b ≠ s329) (plain t) Pi pi pc Po po pd) := Lib.hid (T353.out.weak fun b h _ => by omega)
                  have T358 : Hid (TxG wx348 (fun b => b ≠ s275 ∧ b ≠ s329) (plain u) Qi qi qc Qo qo qd) := Lib.hid (T354.out.weak fun b h _ => by omega)
                  refine wp_store_ro (.tmp 11) (.tmp 62) rfl rfl (vs := txV t.ver Pi pi pc Po po pd t.lock) rfl rowTx X355.out rfl rfl (txV_one _ _ _ _ _ _ _ _) ?_
                  intro wy351 xz gz
                  have Gwy351 := Lib.hid (Gwx348.out.grown gz Gwx348.out.size (fun b e => by injection e with e; rw [hlo]; omega))
                  obtain ⟨z352, hz352⟩ : ∃ s, wy351.heap.size = s := ⟨_, rfl⟩
                  have Xwy351 := Lib.hid xz
                  have Ywy351 := Lib.hid (X356.out.far gz (fun e => by injection e with e; omega))
                  have TPwy351 := Lib.hid (T357.out.keep (Kept.of_grown gz fun b hb e => by injection e with e; omega))
                  have TQwy351 := Lib.hid (T358.out.keep (Kept.of_grown gz fun b hb e => by injection e with e; omega))
                  have lz352 : s350 ≤ z352 := by rw [← hs350, ← hz352]; exact gz.size
                  clear xz gz
                  refine hK _ _ Gwy351.out ?_
                  clear hK K
                  refine wpK_one (f := 0) (i := 7) (by kernel_rfl) rfl rfl ?_
                  intro wx359 gx360 K hK
                  have Gwx359 := Lib.hid (Gwy351.out.trans (gx360.mono Gwy351.out.size))
                  obtain ⟨s361, hs361⟩ : ∃ s, wx359.heap.size = s := ⟨_, rfl⟩
                  have ls361 : z352 ≤ s361 := by rw [← hs361, ← hz352]; exact gx360.size
                  have T364 := Lib.hid (TPwy351.out.keep (Kept.of_below gx360))
                  have T365 := Lib.hid (TQwy351.out.keep (Kept.of_below gx360))
                  have X366 := Lib.hid (Xwy351.out.later gx360)
                  have X367 := Lib.hid (Ywy351.out.later gx360)
                  clear gx360
                  refine wp_store_ro (.tmp 12) (.tmp 64) rfl rfl (vs := txV u.ver Qi qi qc Qo qo qd u.lock) rfl rowTx X367.out rfl rfl (txV_one _ _ _ _ _ _ _ _) ?_
                  intro wy362 xz gz
                  have Gwy362 := Lib.hid (Gwx359.out.grown gz Gwx359.out.size (fun b e => by injection e with e; rw [hlo]; omega))
                  obtain ⟨z363, hz363⟩ : ∃ s, wy362.heap.size = s := ⟨_, rfl⟩
                  have Xwy362 := Lib.hid xz
                  have Ywy362 := Lib.hid (X366.out.far gz (fun e => by injection e with e; omega))
                  have TPwy362 := Lib.hid (T364.out.keep (Kept.of_grown gz fun b hb e => by injection e with e; omega))
                  have TQwy362 := Lib.hid (T365.out.keep (Kept.of_grown gz fun b hb e => by injection e with e; omega))
                  have lz363 : s361 ≤ z363 := by rw [← hs361, ← hz363]; exact gz.size
                  clear xz gz
                  refine hK _ _ Gwy362.out ?_
                  clear hK K
                  refine wpK_end (by kernel_rfl) fun we ge => ?_
                  have BE := Lib.hid (Gwy362.out.trans (ge.mono Gwy362.out.size))
                  have E1 := Lib.hid (Ywy362.out.later ge)
                  have E2 := Lib.hid (Xwy362.out.later ge)
                  have E3 := Lib.hid (TPwy362.out.keep (Kept.of_below ge))
                  have E4 := Lib.hid (TQwy362.out.keep (Kept.of_below ge))
                  clear ge
                  go_wp2_with fail
                  go_meet
                  exact ⟨_, _, Pi, pi, pc, Po, po, pd, Qi, qi, qc, Qo, qo, qd, rfl, rfl, E1.out, E2.out, E3.out.r, E4.out.r, BE.out⟩
              · intro wx368 gx369 K hK
                have Gwx368 := Lib.hid (Gwy276.out.trans (gx369.mono Gwy276.out.size))
                obtain ⟨s370, hs370⟩ : ∃ s, wx368.heap.size = s := ⟨_, rfl⟩
                have ls370 : z277 ≤ s370 := by rw [← hs370, ← hz277]; exact gx369.size
                have X373 := Lib.hid (Xwy276.out.later gx369)
                clear gx369
                go_simp
                obtain ⟨wy371, hwy371⟩ : ∃ w2, wx368.alloc (.cells zTx.toArray 26) = w2 := ⟨_, rfl⟩
                have bz := ((Below.refl wx368.heap.size wx368).alloc (Nat.le_refl _) (.cells zTx.toArray 26))
                have xz := Ro.new wx368 26 zTx
                rw [hwy371] at bz xz
                rw [hs370] at xz
                have Gwy371 := Lib.hid (Gwx368.out.trans (bz.mono Gwx368.out.size))
                obtain ⟨z372, hz372⟩ : ∃ s, wy371.heap.size = s := ⟨_, rfl⟩
                have lz372 : z372 = s370 + 1 := by rw [← hs370, ← hz372, ← hwy371, World.size_alloc]
                have Xwy371 := Lib.hid xz
                have X374 := Lib.hid (X373.out.later bz)
                rw [hwy371]
                try rw [hs370]
                clear bz xz hwy371
                refine hK _ _ Gwy371.out ?_
                clear hK K
                refine wpK_one (f := 3) (i := 1) (by kernel_rfl) rfl rfl ?_
                intro wx375 gx376 K hK
                have Gwx375 := Lib.hid (Gwy371.out.trans (gx376.mono Gwy371.out.size))
                obtain ⟨s377, hs377⟩ : ∃ s, wx375.heap.size = s := ⟨_, rfl⟩
                have ls377 : z372 ≤ s377 := by rw [← hs377, ← hz372]; exact gx376.size
                have X380 := Lib.hid (X374.out.later gx376)
                have X381 := Lib.hid (Xwy371.out.later gx376)
                clear gx376
                have Tz := T8.out.keep (Kept.of_below Gwx375.out)
                have Ez : lo ≤ wx375.heap.size := (by rw [hs377]; omega)
                go_simp
                with_reducible refine (refPlain_gen (t := t) _ WT.out Ez Tz).mono ?_
                clear Tz Ez
                rintro e wy378 ⟨Pi, pi, pc, Po, po, pd, rfl, Tq, bq⟩
                have Gwy378 := Lib.hid (Gwx375.out.trans (bq.mono Gwx375.out.size))
                obtain ⟨z379, hz379⟩ : ∃ s, wy378.heap.size = s := ⟨_, rfl⟩
                have lz379 : s377 ≤ z379 := by rw [← hs377, ← hz379]; exact bq.size
                rw [hs377] at Tq
                have T382 : Hid (TxG wy378 (fun b => (b < lo ∨ s377 ≤ b) ∧ b < z379) (plain t) Pi pi pc Po po pd) := Lib.hid (by rw [← hz379]; exact Tq.weak fun b h h2 => ⟨h, h2⟩)
                have X383 := Lib.hid (X380.out.later bq)
                have X384 := Lib.hid (X381.out.later bq)
                clear Tq
                refine hK _ _ Gwy378.out ?_
                clear hK K
                refine wpK_one (f := 2) (i := 3) (by kernel_rfl) rfl rfl ?_
                intro wx385 gx386 K hK
                have Gwx385 := Lib.hid (Gwy378.out.trans (gx386.mono Gwy378.out.size))
                obtain ⟨s387, hs387⟩ : ∃ s, wx385.heap.size = s := ⟨_, rfl⟩
                have ls387 : z379 ≤ s387 := by rw [← hs387, ← hz379]; exact gx386.size
                have T390 := Lib.hid (T382.out.keep (Kept.of_below gx386))
                have X391 := Lib.hid (X383.out.later gx386)
                have X392 := Lib.hid (X384.out.later gx386)
                clear gx386
                have Tz := U8.out.keep (Kept.of_below Gwx385.out)
                have Ez : lo ≤ wx385.heap.size := (by rw [hs387]; omega)
                go_simp
                with_reducible refine (refPlain_gen (t := u) _ WU.out Ez Tz).mono ?_
                clear Tz Ez
                rintro e wy388 ⟨Qi, qi, qc, Qo, qo, qd, rfl, Tq, bq⟩
                have Gwy388 := Lib.hid (Gwx385.out.trans (bq.mono Gwx385.out.size))
                obtain ⟨z389, hz389⟩ : ∃ s, wy388.heap.size = s := ⟨_, rfl⟩
                have lz389 : s387 ≤ z389 := by rw [← hs387, ← hz389]; exact bq.size
                rw [hs387] at Tq
                have T393 : Hid (TxG wy388 (fun b => (b < lo ∨ s387 ≤ b) ∧ b < z389) (plain u) Qi qi qc Qo qo qd) := Lib.hid (by rw [← hz389]; exact Tq.weak fun b h h2 => ⟨h, h2⟩)
                have T394 := Lib.hid (T390.out.keep (Kept.of_below bq))
                have X395 := Lib.hid (X391.out.later bq)
                have X396 := Lib.hid (X392.out.later bq)
                clear Tq
                refine hK _ _ Gwy388.out ?_
                clear hK K
                refine wpK_one (f := 1) (i := 6) (by kernel_rfl) rfl rfl ?_
                intro wx397 gx398 K hK
                have Gwx397 := Lib.hid (Gwy388.out.trans (gx398.mono Gwy388.out.size))
                obtain ⟨s399, hs399⟩ : ∃ s, wx397.heap.size = s := ⟨_, rfl⟩
                have ls399 : z389 ≤ s399 := by rw [← hs399, ← hz389]; exact gx398.size
                have T402 := Lib.hid (T394.out.keep (Kept.of_below gx398))
                have T403 := Lib.hid (T393.out.keep (Kept.of_below gx398))
                have X404 := Lib.hid (X395.out.later gx398)
                have X405 := Lib.hid (X396.out.later gx398)
                clear gx398
                have T406 : Hid (TxG wx397 (fun b => b ≠ s275 ∧ b ≠ s370) (plain t) Pi pi pc Po po pd) := Lib.hid (T402.out.weak fun b h _ => by omega)
                have T407 : Hid (TxG wx397 (fun b => b ≠ s275 ∧ b ≠ s370) (plain u) Qi qi qc Qo qo qd) := Lib.hid (T403.out.weak fun b h _ => by omega)
                refine wp_store_ro (.tmp 11) (.tmp 62) rfl rfl (vs := txV t.ver Pi pi pc Po po pd t.lock) rfl rowTx X404.out rfl rfl (txV_one _ _ _ _ _ _ _ _) ?_
                intro wy400 xz gz
                have Gwy400 := Lib.hid (Gwx397.out.grown gz Gwx397.out.size (fun b e => by injection e with e; rw [hlo]; omega))
                obtain ⟨z401, hz401⟩ : ∃ s, wy400.heap.size = s := ⟨_, rfl⟩
                have Xwy400 := Lib.hid xz
                have Ywy400 := Lib.hid (X405.out.far gz (fun e => by injection e with e; omega))
                have TPwy400 := Lib.hid (T406.out.keep (Kept.of_grown gz fun b hb e => by injection e with e; omega))
                have TQwy400 := Lib.hid (T407.out.keep (Kept.of_grown gz fun b hb e => by injection e with e; omega))
                have lz401 : s399 ≤ z401 := by rw [← hs399, ← hz401]; exact gz.size
                clear xz gz
                refine hK _ _ Gwy400.out ?_
                clear hK K
                refine wpK_one (f := 0) (i := 7) (by kernel_rfl) rfl rfl ?_
                intro wx408 gx409 K hK
                have Gwx408 := Lib.hid (Gwy400.out.trans (gx409.mono Gwy400.out.size))
                obtain ⟨s410, hs410⟩ : ∃ s, wx408.heap.size = s := ⟨_, rfl⟩
                have ls410 : z401 ≤ s410 := by rw [← hs410, ← hz401]; exact gx409.size
                have T413 := Lib.hid (TPwy400.out.keep (Kept.of_below gx409))
                have T414 := Lib.hid (TQwy400.out.keep (Kept.of_below gx409))
                have X415 := Lib.hid (Xwy400.out.later gx409)
                have X416 := Lib.hid (Ywy400.out.later gx409)
                clear gx409
                refine wp_store_ro (.tmp 12) (.tmp 64) rfl rfl (vs := txV u.ver Qi qi qc Qo qo qd u.lock) rfl rowTx X416.out rfl rfl (txV_one _ _ _ _ _ _ _ _) ?_
                intro wy411 xz gz
                have Gwy411 := Lib.hid (Gwx408.out.grown gz Gwx408.out.size (fun b e => by injection e with e; rw [hlo]; omega))
                obtain ⟨z412, hz412⟩ : ∃ s, wy411.heap.size = s := ⟨_, rfl⟩
                have Xwy411 := Lib.hid xz
                have Ywy411 := Lib.hid (X415.out.far gz (fun e => by injection e with e; omega))
                have TPwy411 := Lib.hid (T413.out.keep (Kept.of_grown gz fun b hb e => by injection e with e; omega))
                have TQwy411 := Lib.hid (T414.out.keep (Kept.of_grown gz fun b hb e => by injection e with e; omega))
                have lz412 : s410 ≤ z412 := by rw [← hs410, ← hz412]; exact gz.size
                clear xz gz
                refine hK _ _ Gwy411.out ?_
                clear hK K
                refine wpK_end (by kernel_rfl) fun we ge => ?_
                have BE := Lib.hid (Gwy411.out.trans (ge.mono Gwy411.out.size))
                have E1 := Lib.hid (Ywy411.out.later ge)
                have E2 := Lib.hid (Xwy411.out.later ge)
                have E3 := Lib.hid (TPwy411.out.keep (Kept.of_below ge))
                have E4 := Lib.hid (TQwy411.out.keep (Kept.of_below ge))
                clear ge
                go_wp2_with fail
                go_meet
                exact ⟨_, _, Pi, pi, pc, Po, po, pd, Qi, qi, qc, Qo, qo, qd, rfl, rfl, E1.out, E2.out, E3.out.r, E4.out.r, BE.out⟩
            · intro wx417 gx418 K hK
              have Gwx417 := Lib.hid (GA.out.trans (gx418.mono GA.out.size))
              obtain ⟨s419, hs419⟩ : ∃ s, wx417.heap.size = s := ⟨_, rfl⟩
              have ls419 : sa ≤ s419 := by rw [← hs419, ← hsa]; exact gx418.size
              clear gx418
              go_simp
              obtain ⟨wy420, hwy420⟩ : ∃ w2, wx417.alloc (.cells zTx.toArray 26) = w2 := ⟨_, rfl⟩
              have bz := ((Below.refl wx417.heap.size wx417).alloc (Nat.le_refl _) (.cells zTx.toArray 26))
              have xz := Ro.new wx417 26 zTx
              rw [hwy420] at bz xz
              rw [hs419] at xz
              have Gwy420 := Lib.hid (Gwx417.out.trans (bz.mono Gwx417.out.size))
              obtain ⟨z421, hz421⟩ : ∃ s, wy420.heap.size = s := ⟨_, rfl⟩
              have lz421 : z421 = s419 + 1 := by rw [← hs419, ← hz421, ← hwy420, World.size_alloc]
              have Xwy420 := Lib.hid xz
              rw [hwy420]
              try rw [hs419]
              clear bz xz hwy420
              refine hK _ _ Gwy420.out ?_
              clear hK K
              refine wpK_two (f := 4) (i := 1) (k := 4) (by kernel_rfl) rfl rfl rfl rfl ?_ ?_
              · intro wx422 gx423 K hK
                have Gwx422 := Lib.hid (Gwy420.out.trans (gx423.mono Gwy420.out.size))
                obtain ⟨s424, hs424⟩ : ∃ s, wx422.heap.size = s := ⟨_, rfl⟩
                have ls424 : z421 ≤ s424 := by rw [← hs424, ← hz421]; exact gx423.size
                have X427 := Lib.hid (Xwy420.out.later gx423)
                clear gx423
                have Tz := T8.out.keep (Kept.of_below Gwx422.out)
                have Ez : lo ≤ wx422.heap.size := (by rw [hs424]; omega)
                go_simp
                with_reducible refine (refPlain_gen (t := t) _ WT.out Ez Tz).mono ?_
                clear Tz Ez
                rintro e wy425 ⟨Pi, pi, pc, Po, po, pd, rfl, Tq, bq⟩
                have Gwy425 := Lib.hid (Gwx422.out.trans (bq.mono Gwx422.out.size))
                obtain ⟨z426, hz426⟩ : ∃ s, wy425.heap.size = s := ⟨_, rfl⟩
                have lz426 : s424 ≤ z426 := by rw [← hs424, ← hz426]; exact bq.size
                rw [hs424] at Tq
                have T428 : Hid (TxG wy425 (fun b => (b < lo ∨ s424 ≤ b) ∧ b < z426) (plain t) Pi pi pc Po po pd) := Lib.hid (by rw [← hz426]; exact Tq.weak fun b h h2 => ⟨h, h2⟩)
                have X429 := Lib.hid (X427.out.later bq)
                clear Tq
                refine hK _ _ Gwy425.out ?_
                clear hK K
                refine wpK_two (f := 3) (i := 3) (k := 4) (by kernel_rfl) rfl rfl rfl rfl ?_ ?_
                · intro wx430 gx431 K hK
                  have Gwx430 := Lib.hid (Gwy425.out.trans (gx431.mono Gwy425.out.size))
                  obtain ⟨s432, hs432⟩ : ∃ s, wx430.heap.size = s := ⟨_, rfl⟩
                  have ls432 : z426 ≤ s432 := by rw [← hs432, ← hz426]; exact gx431.size
                  have T435 := Lib.hid (T428.out.keep (Kept.of_below gx431))
                  have X436 := Lib.hid (X429.out.later gx431)
                  clear gx431
                  have Tz := U8.out.keep (Kept.of_below Gwx430.out)
                  have Ez : lo ≤ wx430.heap.size := (by rw [hs432]; omega)
                  go_simp
                  with_reducible refine (refPlain_gen (t := u) _ WU.out Ez Tz).mono ?_
                  clear Tz Ez
                  rintro e wy433 ⟨Qi, qi, qc, Qo, qo, qd, rfl, Tq, bq⟩
                  have Gwy433 := Lib.hid (Gwx430.out.trans (bq.mono Gwx430.out.size))
                  obtain ⟨z434, hz434⟩ : ∃ s, wy433.heap.size = s := ⟨_, rfl⟩
                  have lz434 : s432 ≤ z434 := by rw [← hs432, ← hz434]; exact bq.size
                  rw [hs432] at Tq
                  have T437 : Hid (TxG wy433 (fun b => (b < lo ∨ s432 ≤ b) ∧ b < z434) (plain u) Qi qi qc Qo qo qd) := Lib.hid (by rw [← hz434]; exact Tq.weak fun b h h2 => ⟨h, h2⟩)
                  have T438 := Lib.hid (T435.out.keep (Kept.of_below bq))
                  have X439 := Lib.hid (X436.out.later bq)
                  clear Tq
                  refine hK _ _ Gwy433.out ?_
                  clear hK K
                  refine wpK_one (f := 2) (i := 4) (by kernel_rfl) rfl rfl ?_
                  intro wx440 gx441 K hK
                  have Gwx440 := Lib.hid (Gwy433.out.trans (gx441.mono Gwy433.out.size))
                  obtain ⟨s442, hs442⟩ : ∃ s, wx440.heap.size = s := ⟨_, rfl⟩
                  have ls442 : z434 ≤ s442 := by rw [← hs442, ← hz434]; exact gx441.size
                  have T445 := Lib.hid (T438.out.keep (Kept.of_below gx441))
                  have T446 := Lib.hid (T437.out.keep (Kept.of_below gx441))
                  have X447 := Lib.hid (X439.out.later gx441)
                  clear gx441
                  go_simp
                  obtain ⟨wy443, hwy443⟩ : ∃ w2, wx440.alloc (.cells zTx.toArray 26) = w2 := ⟨_, rfl⟩
                  have bz := ((Below.refl wx440.heap.size wx440).alloc (Nat.le_refl _) (.cells zTx.toArray 26))
                  have xz := Ro.new wx440 26 zTx
                  rw [hwy443] at bz xz
                  rw [hs442] at xz
                  have Gwy443 := Lib.hid (Gwx440.out.trans (bz.mono Gwx440.out.size))
                  obtain ⟨z444, hz444⟩ : ∃ s, wy443.heap.size = s := ⟨_, rfl⟩
                  have lz444 : z444 = s442 + 1 := by rw [← hs442, ← hz444, ← hwy443, World.size_alloc]
                  have Xwy443 := Lib.hid xz
                  have T448 := Lib.hid (T445.out.keep (Kept.of_below bz))
                  have T449 := Lib.hid (T446.out.keep (Kept.of_below bz))
                  have X450 := Lib.hid (X447.out.later bz)
                  rw [hwy443]
                  try rw [hs442]
                  clear bz xz hwy443
                  refine hK _ _ Gwy443.out ?_
                  clear hK K
                  refine wpK_one (f := 1) (i := 6) (by kernel_rfl) rfl rfl ?_
                  intro wx451 gx452 K hK
                  have Gwx451 := Lib.hid (Gwy443.out.trans (gx452.mono Gwy443.out.size))
                  obtain ⟨s453, hs453⟩ : ∃ s, wx451.heap.size = s := ⟨_, rfl⟩
                  have ls453 : z444 ≤ s453 := by rw [← hs453, ← hz444]; exact gx452.size
                  have T456 := Lib.hid (T448.out.keep (Kept.of_below gx452))
                  have T457 := Lib.hid (T449.out.keep (Kept.of_below gx452))
                  have X458 := Lib.hid (X450.out.later gx452)
                  have X459 := Lib.hid (Xwy443.out.later gx452)
                  clear gx452
                  have T460 : Hid (TxG wx451 (fun b => b ≠ s442 ∧ b ≠ s419) (plain t) Pi pi pc Po po pd) := Lib.hid (T456.out.weak fun b h _ => by omega)
                  have T461 : Hid (TxG wx451 (fun b => b ≠ s442 ∧ b ≠ s419) (plain u) Qi qi qc Qo qo qd) := Lib.hid (T457.out.weak fun b h _ => by omega)
                  refine wp_store_ro (.tmp 11) (.tmp 62) rfl rfl (vs := txV t.ver Pi pi pc Po po pd t.lock) rfl rowTx X459.out rfl rfl (txV_one _ _ _ _ _ _ _ _) ?_
                  intro wy454 xz gz
                  have Gwy454 := Lib.hid (Gwx451.out.grown gz Gwx451.out.size (fun b e => by injection e with e; rw [hlo]; omega))
                  obtain ⟨z455, hz455⟩ : ∃ s, wy454.heap.size = s := ⟨_, rfl⟩
                  have Xwy454 := Lib.hid xz
                  have Ywy454 := Lib.hid (X458.out.far gz (fun e => by injection e with e; omega))
                  have TPwy454 := Lib.hid (T460.out.keep (Kept.of_grown gz fun b hb e => by injection e with e; omega))
                  have TQwy454 := Lib.hid (T461.out.keep (Kept.of_grown gz fun b hb e => by injection e with e; omega))
                  have lz455 : s453 ≤ z455 := by rw [← hs453, ← hz455]; exact gz.size
                  clear xz gz
                  refine hK _ _ Gwy454.out ?_
                  clear hK K
                  refine wpK_one (f := 0) (i := 7) (by kernel_rfl) rfl rfl ?_
                  intro wx462 gx463 K hK
                  have Gwx462 := Lib.hid (Gwy454.out.trans (gx463.mono Gwy454.out.size))
                  obtain ⟨s464, hs464⟩ : ∃ s, wx462.heap.size = s := ⟨_, rfl⟩
                  have ls464 : z455 ≤ s464 := by rw [← hs464, ← hz455]; exact gx463.size
                  have T467 := Lib.hid (TPwy454.out.keep (Kept.of_below gx463))
                  have T468 := Lib.hid (TQwy454.out.keep (Kept.of_below gx463))
                  have X469 := Lib.hid (Ywy454.out.later gx463)
                  have X470 := Lib.hid (Xwy454.out.later gx463)
                  clear gx463
                  refine wp_store_ro (.tmp 12) (.tmp 64) rfl rfl (vs := txV u.ver Qi qi qc Qo qo qd u.lock) rfl rowTx X469.out rfl rfl (txV_one _ _ _ _ _ _ _ _) ?_
                  intro wy465 xz gz
                  have Gwy465 := Lib.hid (Gwx462.out.grown gz Gwx462.out.size (fun b e => by injection e with e; rw [hlo]; omega))
                  obtain ⟨z466, hz466⟩ : ∃ s, wy465.heap.size = s := ⟨_, rfl⟩
                  have Xwy465 := Lib.hid xz
                  have Ywy465 := Lib.hid (X470.out.far gz (fun e => by injection e with e; omega))
                  have TPwy465 := Lib.hid (T467.out.keep (Kept.of_grown gz fun b hb e => by injection e with e; omega))
                  have TQwy465 := Lib.hid (T468.out.keep (Kept.of_grown gz fun b hb e => by injection e with e; omega))
                  have lz466 : s464 ≤ z466 := by rw [← hs464, ← hz466]; exact gz.size
                  clear xz gz
                  refine hK _ _ Gwy465.out ?_
                  clear hK K
                  refine wpK_end (by kernel_rfl) fun we ge => ?_
                  have BE := Lib.hid (Gwy465.out.trans (ge.mono Gwy465.out.size))
                  have E1 := Lib.hid (Ywy465.out.later ge)
                  have E2 := Lib.hid (Xwy465.out.later ge)
                  have E3 := Lib.hid (TPwy465.out.keep (Kept.of_below ge))
                  have E4 := Lib.hid (TQwy465.out.keep (Kept.of_below ge))
                  clear ge
                  go_wp2_with fail
                  go_meet
                  exact ⟨_, _, Pi, pi, pc, Po, po, pd, Qi, qi, qc, Qo, qo, qd, rfl, rfl, E1.out, E2.out, E3.out.r, E4.out.r, BE.out⟩
                · intro wx471 gx472 K hK
                  have Gwx471 := Lib.hid (Gwy425.out.trans (gx472.mono Gwy425.out.size))
                  obtain ⟨s473, hs473⟩ : ∃ s, wx471.heap.size = s := ⟨_, rfl⟩
                  have ls473 : z426 ≤ s473 := by rw [← hs473, ← hz426]; exact gx472.size
                  have T476 := Lib.hid (T428.out.keep (Kept.of_below gx472))
                  have X477 := Lib.hid (X429.out.later gx472)
                  clear gx472
                  go_simp
                  obtain ⟨wy474, hwy474⟩ : ∃ w2, wx471.alloc (.cells zTx.toArray 26) = w2 := ⟨_, rfl⟩
                  have bz := ((Below.refl wx471.heap.size wx471).alloc (Nat.le_refl _) (.cells zTx.toArray 26))
                  have xz := Ro.new wx471 26 zTx
                  rw [hwy474] at bz xz
                  rw [hs473] at xz
                  have Gwy474 := Lib.hid (Gwx471.out.trans (bz.mono Gwx471.out.size))
                  obtain ⟨z475, hz475⟩ : ∃ s, wy474.heap.size = s := ⟨_, rfl⟩
                  have lz475 : z475 = s473 + 1 := by rw [← hs473, ← hz475, ← hwy474, World.size_alloc]
                  have Xwy474 := Lib.hid xz
                  have T478 := Lib.hid (T476.out.keep (Kept.of_below bz))
                  have X479 := Lib.hid (X477.out.later bz)
                  rw [hwy474]
                  try rw [hs473]
                  clear bz xz hwy474
                  refine hK _ _ Gwy474.out ?_
                  clear hK K
                  refine wpK_one (f := 2) (i := 3) (by kernel_rfl) rfl rfl ?_
                  intro wx480 gx481 K hK
                  have Gwx480 := Lib.hid (Gwy474.out.trans (gx481.mono Gwy474.out.size))
                  obtain ⟨s482, hs482⟩ : ∃ s, wx480.heap.size = s := ⟨_, rfl⟩
                  have ls482 : z475 ≤ s482 := by rw [← hs482, ← hz475]; exact gx481.size
                  have T485 := Lib.hid (T478.out.keep (Kept.of_below gx481))
                  have X486 := Lib.hid (X479.out.later gx481)
                  have X487 := Lib.hid (Xwy474.out.later gx481)
                  clear gx481
                  have Tz := U8.out.keep (Kept.of_below Gwx480.out)
                  have Ez : lo ≤ wx480.heap.size := (by rw [hs482]; omega)
                  go_simp
                  with_reducible refine (refPlain_gen (t := u) _ WU.out Ez Tz).mono ?_
                  clear Tz Ez
                  rintro e wy483 ⟨Qi, qi, qc, Qo, qo, qd, rfl, Tq, bq⟩
                  have Gwy483 := Lib.hid (Gwx480.out.trans (bq.mono Gwx480.out.size))
                  obtain ⟨z484, hz484⟩ : ∃ s, wy483.heap.size = s := ⟨_, rfl⟩
                  have lz484 : s482 ≤ z484 := by rw [← hs482, ← hz484]; exact bq.size
                  rw [hs482] at Tq
                  have T488 : Hid (TxG wy483 (fun b => (b < lo ∨ s482 ≤ b) ∧ b < z484) (plain u) Qi qi qc Qo qo qd) := Lib.hid (by rw [← hz484]; exact Tq.weak fun b h h2 => ⟨h, h2⟩)
                  have T489 := Lib.hid (T485.out.keep (Kept.of_below bq))
                  have X490 := Lib.hid (X486.out.later bq)
                  have X491 := Lib.hid (X487.out.later bq)
                  clear Tq
                  refine hK _ _ Gwy483.out ?_
                  clear hK K
                  refine wpK_one (f := 1) (i := 6) (by kernel_rfl) rfl rfl ?_
                  intro wx492 gx493 K hK
                  have Gwx492 := Lib.hid (Gwy483.out.trans (gx493.mono Gwy483.out.size))
                  obtain ⟨s494, hs494⟩ : ∃ s, wx492.heap.size = s := ⟨_, rfl⟩
                  have ls494 : z484 ≤ s494 := by rw [← hs494, ← hz484]; exact gx493.size
                  have T497 := Lib.hid (T489.out.keep (Kept.of_below gx493))
                  have T498 := Lib.hid (T488.out.keep (Kept.of_below gx493))
                  have X499 := Lib.hid (X490.out.later gx493)
                  have X500 := Lib.hid (X491.out.later gx493)
                  clear gx493
                  have T501 : Hid (TxG wx492 (fun b => b ≠ s473 ∧ b ≠ s419) (plain t) Pi pi pc Po po pd) := Lib.hid (T497.out.weak fun b h _ => by omega)
                  have T502 : Hid (TxG wx492 (fun b => b ≠ s473 ∧ b ≠ s419) (plain u) Qi qi qc Qo qo qd) := Lib.hid (T498.out.weak fun b h _ => by omega)
                  refine wp_store_ro (.tmp 11) (.tmp 62) rfl rfl (vs := txV t.ver Pi pi pc Po po pd t.lock) rfl rowTx X500.out rfl rfl (txV_one _ _ _ _ _ _ _ _) ?_
                  intro wy495 xz gz
                  have Gwy495 := Lib.hid (Gwx492.out.grown gz Gwx492.out.size (fun b e => by injection e with e; rw [hlo]; omega))
                  obtain ⟨z496, hz496⟩ : ∃ s, wy495.heap.size = s := ⟨_, rfl⟩
                  have Xwy495 := Lib.hid xz
                  have Ywy495 := Lib.hid (X499.out.far gz (fun e => by injection e with e; omega))
                  have TPwy495 := Lib.hid (T501.out.keep (Kept.of_grown gz fun b hb e => by injection e with e; omega))
                  have TQwy495 := Lib.hid (T502.out.keep (Kept.of_grown gz fun b hb e => by injection e with e; omega))
                  have lz496 : s494 ≤ z496 := by rw [← hs494, ← hz496]; exact gz.size
                  clear xz gz
                  refine hK _ _ Gwy495.out ?_
                  clear hK K
                  refine wpK_one (f := 0) (i := 7) (by kernel_rfl) rfl rfl ?_
                  intro wx503 gx504 K hK
                  have Gwx503 := Lib.hid (Gwy495.out.trans (gx504.mono Gwy495.out.size))
                  obtain ⟨s505, hs505⟩ : ∃ s, wx503.heap.size = s := ⟨_, rfl⟩
                  have ls505 : z496 ≤ s505 := by rw [← hs505, ← hz496]; exact gx504.size
                  have T508 := Lib.hid (TPwy495.out.keep (Kept.of_below gx504))
                  have T509 := Lib.hid (TQwy495.out.keep (Kept.of_below gx504))
                  have X510 := Lib.hid (Ywy495.out.later gx504)
                  have X511 := Lib.hid (Xwy495.out.later gx504)
                  clear gx504
                  refine wp_store_ro (.tmp 12) (.tmp 64) rfl rfl (vs := txV u.ver Qi qi qc Qo qo qd u.lock) rfl rowTx X510.out rfl rfl (txV_one _ _ _ _ _ _ _ _) ?_
                  intro wy506 xz gz
                  have Gwy506 := Lib.hid (Gwx503.out.grown gz Gwx503.out.size (fun b e => by injection e with e; rw [hlo]; omega))
                  obtain ⟨z507, hz507⟩ : ∃ s, wy506.heap.size = s := ⟨_, rfl⟩
                  have Xwy506 := Lib.hid xz
                  have Ywy506 := Lib.hid (X511.out.far gz (fun e => by injection e with e; omega))
                  have TPwy506 := Lib.hid (T508.out.keep (Kept.of_grown gz fun b hb e => by injection e with e; omega))
                  have TQwy506 := Lib.hid (T509.out.keep (Kept.of_grown gz fun b hb e => by injection e with e; omega))
                  have lz507 : s505 ≤ z507 := by rw [← hs505, ← hz507]; exact gz.size
                  clear xz gz
                  refine hK _ _ Gwy506.out ?_
                  clear hK K
                  refine wpK_end (by kernel_rfl) fun we ge => ?_
                  have BE := Lib.hid (Gwy506.out.trans (ge.mono Gwy506.out.size))
                  have E1 := Lib.hid (Ywy506.out.later ge)
                  have E2 := Lib.hid (Xwy506.out.later ge)
                  have E3 := Lib.hid (TPwy506.out.keep (Kept.of_below ge))
                  have E4 := Lib.hid (TQwy506.out.keep (Kept.of_below ge))
                  clear ge
                  go_wp2_with fail
                  go_meet
                  exact ⟨_, _, Pi, pi, pc, Po, po, pd, Qi, qi, qc, Qo, qo, qd, rfl, rfl, E1.out, E2.out, E3.out.r, E4.out.r, BE.out⟩
              · intro wx512 gx513 K hK
                have Gwx512 := Lib.hid (Gwy420.out.trans (gx513.mono Gwy420.out.size))
                obtain ⟨s514, hs514⟩ : ∃ s, wx512.heap.size = s := ⟨_, rfl⟩
                have ls514 : z421 ≤ s514 := by rw [← hs514, ← hz421]; exact gx513.size
                have X517 := Lib.hid (Xwy420.out.later gx513)
                clear gx513
                go_simp
                obtain ⟨wy515, hwy515⟩ : ∃ w2, wx512.alloc (.cells zTx.toArray 26) = w2 := ⟨_, rfl⟩
                have bz := ((Below.refl wx512.heap.size wx512).alloc (Nat.le_refl _) (.cells zTx.toArray 26))
                have xz := Ro.new wx512 26 zTx
                rw [hwy515] at bz xz
                rw [hs514] at xz
                have Gwy515 := Lib.hid (Gwx512.out.trans (bz.mono Gwx512.out.size))
                obtain ⟨z516, hz516⟩ : ∃ s, wy515.heap.size = s := ⟨_, rfl⟩
                have lz516 : z516 = s514 + 1 := by rw [← hs514, ← hz516, ← hwy515, World.size_alloc]
                have Xwy515 := Lib.hid xz
                have X518 := Lib.hid (X517.out.later bz)
                rw [hwy515]
                try rw [hs514]
                clear bz xz hwy515
                refine hK _ _ Gwy515.out ?_
                clear hK K
                refine wpK_one (f := 3) (i := 1) (by kernel_rfl) rfl rfl ?_
                intro wx519 gx520 K hK
                have Gwx519 := Lib.hid (Gwy515.out.trans (gx520.mono Gwy515.out.size))
                obtain ⟨s521, hs521⟩ : ∃ s, wx519.heap.size = s := ⟨_, rfl⟩
                have ls521 : z516 ≤ s521 := by rw [← hs521, ← hz516]; exact gx520.size
                have X524 := Lib.hid (X518.out.later gx520)
                have X525 := Lib.hid (Xwy515.out.later gx520)
                clear gx520
                have Tz := T8.out.keep (Kept.of_below Gwx519.out)
                have Ez : lo ≤ wx519.heap.size := (by rw [hs521]; omega)
                go_simp
                with_reducible refine (refPlain_gen (t := t) _ WT.out Ez Tz).mono ?_
                clear Tz Ez
                rintro e wy522 ⟨Pi, pi, pc, Po, po, pd, rfl, Tq, bq⟩
                have Gwy522 := Lib.hid (Gwx519.out.trans (bq.mono Gwx519.out.size))
                obtain ⟨z523, hz523⟩ : ∃ s, wy522.heap.size = s := ⟨_, rfl⟩
                have lz523 : s521 ≤ z523 := by rw [← hs521, ← hz523]; exact bq.size
                rw [hs521] at Tq
                have T526 : Hid (TxG wy522 (fun b => (b < lo ∨ s521 ≤ b) ∧ b < z523) (plain t) Pi pi pc Po po pd) := Lib.hid (by rw [← hz523]; exact Tq.weak fun b h h2 => ⟨h, h2⟩)
                have X527 := Lib.hid (X524.out.later bq)
                have X528 := Lib.hid (X525.out.later bq)
                clear Tq
                refine hK _ _ Gwy522.out ?_
                clear hK K
                refine wpK_one (f := 2) (i := 3) (by kernel_rfl) rfl rfl ?_
                intro wx529 gx530 K hK
                have Gwx529 := Lib.hid (Gwy522.out.trans (gx530.mono Gwy522.out.size))
                obtain ⟨s531, hs531⟩ : ∃ s, wx529.heap.size = s := ⟨_, rfl⟩
                have ls531 : z523 ≤ s531 := by rw [← hs531, ← hz523]; exact gx530.size
                have T534 := Lib.hid (T526.out.keep (Kept.of_below gx530))
                have X535 := Lib.hid (X527.out.later gx530)
                have X536 := Lib.hid (X528.out.later gx530)
                clear gx530
                have Tz := U8.out.keep (Kept.of_below Gwx529.out)
                have Ez : lo ≤ wx529.heap.size := (by rw [hs531]; omega)
                go_simp
                with_reducible refine (refPlain_gen (t := u) _ WU.out Ez Tz).mono ?_
                clear Tz Ez
                rintro e wy532 ⟨Qi, qi, qc, Qo, qo, qd, rfl, Tq, bq⟩
                have Gwy532 := Lib.hid (Gwx529.out.trans (bq.mono Gwx529.out.size))
                obtain ⟨z533, hz533⟩ : ∃ s, wy532.heap.size = s := ⟨_, rfl⟩
                have lz533 : s531 ≤ z533 := by rw [← hs531, ← hz533]; exact bq.size
                rw [hs531] at Tq
                have T537 : Hid (TxG wy532 (fun b => (b < lo ∨ s531 ≤ b) ∧ b < z533) (plain u) Qi qi qc Qo qo qd) := Lib.hid (by rw [← hz533]; exact Tq.weak fun b h h2 => ⟨h, h2⟩)
                have T538 := Lib.hid (T534.out.keep (Kept.of_below bq))
                have X539 := Lib.hid (X535.out.later bq)
                have X540 := Lib.hid (X536.out.later bq)
                clear Tq
                refine hK _ _ Gwy532.out ?_
                clear hK K
                refine wpK_one (f := 1) (i := 6) (by kernel_rfl) rfl rfl ?_
                intro wx541 gx542 K hK
                have Gwx541 := Lib.hid (Gwy532.out.trans (gx542.mono Gwy532.out.size))
                obtain ⟨s543, hs543⟩ : ∃ s, wx541.heap.size = s := ⟨_, rfl⟩
                have ls543 : z533 ≤ s543 := by rw [← hs543, ← hz533]; exact gx542.size
                have T546 := Lib.hid (T538.out.keep (Kept.of_below gx542))
                have T547 := Lib.hid (T537.out.keep (Kept.of_below gx542))
                have X548 := Lib.hid (X539.out.later gx542)
                have X549 := Lib.hid (X540.out.later gx542)
                clear gx542
                have T550 : Hid (TxG wx541 (fun b => b ≠ s514 ∧ b ≠ s419) (plain t) Pi pi pc Po po pd) := Lib.hid (T546.out.weak fun b h _ => by omega)
                have T551 : Hid (TxG wx541 (fun b => b ≠ s514 ∧ b ≠ s419) (plain u) Qi qi qc Qo qo qd) := Lib.hid (T547.out.weak fun b h _ => by omega)
                refine wp_store_ro (.tmp 11) (.tmp 62) rfl rfl (vs := txV t.ver Pi pi pc Po po pd t.lock) rfl rowTx X549.out rfl rfl (txV_one _ _ _ _ _ _ _ _) ?_
                intro wy544 xz gz
                have Gwy544 := Lib.hid (Gwx541.out.grown gz Gwx541.out.size (fun b e => by injection e with e; rw [hlo]; omega))
                obtain ⟨z545, hz545⟩ : ∃ s, wy544.heap.size = s := ⟨_, rfl⟩
                have Xwy544 := Lib.hid xz
                have Ywy544 := Lib.hid (X548.out.far gz (fun e => by injection e with e; omega))
                have TPwy544 := Lib.hid (T550.out.keep (Kept.of_grown gz fun b hb e => by injection e with e; omega))
                have TQwy544 := Lib.hid (T551.out.keep (Kept.of_grown gz fun b hb e => by injection e with e; omega))
                have lz545 : s543 ≤ z545 := by rw [← hs543, ← hz545]; exact gz.size
                clear xz gz
                refine hK _ _ Gwy544.out ?_
                clear hK K
                refine wpK_one (f := 0) (i := 7) (by kernel_rfl) rfl rfl ?_
                intro wx552 gx553 K hK
                have Gwx552 := Lib.hid (Gwy544.out.trans (gx553.mono Gwy544.out.size))
                obtain ⟨s554, hs554⟩ : ∃ s, wx552.heap.size = s := ⟨_, rfl⟩
                have ls554 : z545 ≤ s554 := by rw [← hs554, ← hz545]; exact gx553.size
                have T557 := Lib.hid (TPwy544.out.keep (Kept.of_below gx553))
                have T558 := Lib.hid (TQwy544.out.keep (Kept.of_below gx553))
                have X559 := Lib.hid (Ywy544.out.later gx553)
                have X560 := Lib.hid (Xwy544.out.later gx553)
                clear gx553
                refine wp_store_ro (.tmp 12) (.tmp 64) rfl rfl (vs := txV u.ver Qi qi qc Qo qo qd u.lock) rfl rowTx X559.out rfl rfl (txV_one _ _ _ _ _ _ _ _) ?_
                intro wy555 xz gz
                have Gwy555 := Lib.hid (Gwx552.out.grown gz Gwx552.out.size (fun b e => by injection e with e; rw [hlo]; omega))
                obtain ⟨z556, hz556⟩ : ∃ s, wy555.heap.size = s := ⟨_, rfl⟩
                have Xwy555 := Lib.hid xz
                have Ywy555 := Lib.hid (X560.out.far gz (fun e => by injection e with e; omega))
                have TPwy555 := Lib.hid (T557.out.keep (Kept.of_grown gz fun b hb e => by injection e with e; omega))
                have TQwy555 := Lib.hid (T558.out.keep (Kept.of_grown gz fun b hb e => by injection e with e; omega))
                have lz556 : s554 ≤ z556 := by rw [← hs554, ← hz556]; exact gz.size
                clear xz gz
                refine hK _ _ Gwy555.out ?_
                clear hK K
                refine wpK_end (by kernel_rfl) fun we ge => ?_
                have BE := Lib.hid (Gwy555.out.trans (ge.mono Gwy555.out.size))
                have E1 := Lib.hid (Ywy555.out.later ge)
                have E2 := Lib.hid (Xwy555.out.later ge)
                have E3 := Lib.hid (TPwy555.out.keep (Kept.of_below ge))
                have E4 := Lib.hid (TQwy555.out.keep (Kept.of_below ge))
                clear ge
                go_wp2_with fail
                go_meet
                exact ⟨_, _, Pi, pi, pc, Po, po, pd, Qi, qi, qc, Qo, qo, qd, rfl, rfl, E1.out, E2.out, E3.out.r, E4.out.r, BE.out⟩
          case rest =>
            obtain ⟨g1, g2, Pi, pi, pc, Po, po, pd, Qi, qi, qc, Qo, qo, qd, rfl, rfl, TP⟩ := hcut
            obtain ⟨w9, hw9⟩ : ∃ w9, wc = w9 := ⟨_, rfl⟩
            rw [hw9] at TP ⊢
            clear hw9
            have B9 := Lib.hid (B8.out.trans (TP.bel.mono B8.out.size))
            have BX := Lib.hid (BW.out.trans (B9.out.mono BW.out.size))
            have R39 := Lib.hid (R1.out.later B9.out)
            have R49 := Lib.hid (R2.out.later B9.out)
            have T9 := Lib.hid (TS.out.later B9.out)
            have U9 := Lib.hid (TT.out.later B9.out)
            have D9 := Lib.hid (HD.out.later HD.out.lt B9.out)
            have P11 := Lib.hid TP.p
            have P12 := Lib.hid TP.q
            have TPP := Lib.hid TP.tp
            have TPQ := Lib.hid TP.tq
            have WP : Hid (weigh (plain t) ≤ 100000000) := Lib.hid (Nat.le_trans (weigh_plain t) WT.out)
            have okT := Lib.hid TS.out.ok
            have okU := Lib.hid TT.out.ok
            have fiT := Lib.hid TS.out.fit
            have fiU := Lib.hid TT.out.fit
            clear TP B8 R1 R2 TS TT HD LS BW
            have I32 : (idS t).length = 32 := shaS_len _
            obtain ⟨I, hI⟩ : ∃ I, idS t = I := ⟨_, rfl⟩
            have HI := Lib.hid hI
            have HI2 : Hid (idS (plain t) = I) := Lib.hid (by rw [idS_plain]; exact hI)
            rw [hI] at I32
            obtain ⟨Z, hZ⟩ : ∃ Z, strB (bareS t) = Z := ⟨_, rfl⟩
            have HZ := Lib.hid hZ
            have HZ2 : Hid (strB (bareS (plain t)) = Z) := Lib.hid (by rw [bare_plain]; exact hZ)
            have HZ3 : Hid (strB (putS (plain t)) = Z) := Lib.hid (by rw [put_plain]; exact hZ)
            have BY := str_dec (bareS_byt okT.out) (bareS_byt okU.out)
            rw [bare_same okT.out fiT.out okU.out fiU.out, hZ] at BY
            obtain ⟨Y, hY⟩ : ∃ Y, strB (bareS u) = Y := ⟨_, rfl⟩
            have HY := Lib.hid hY
            obtain ⟨q, hq⟩ : ∃ q, decide (plain t = plain u) = q := ⟨_, rfl⟩
            have HQ := Lib.hid hq
            rw [hq, hY] at BY
            have HBY := Lib.hid BY
            clear hI hZ hY hq BY
            go_upto_region 11 with fail
            go_cut [87] from 65 to 87 (fun v wx => v = .bool false ∧ Below w9.heap.size w9 wx)
            case first =>
              have EQH : ∀ w, (Op.equalIn 10000 32 (.agg (vals I).toArray) (.agg (vals I).toArray)).run Tryd.prog w = .ok true w := fun w => by
                rw [eq_hash I32 I32 w]
                unfold eqB
                rw [decide_eq_true rfl]
              have EZ : (Z.toList == Z.toList) = true := beq_self_eq_true _
              have EN : (Z.toList != Z.toList) = false := by simp
              clear I32
              refine wp_region_seg (W := w9) (by kernel_rfl) fun wa_ ga => ?_
              refine wpK_seg 0 7 (f := 16) (by kernel_rfl) (fun _ _ _ _ _ h => h) (by kernel_rfl) (by kernel_rfl) (by kernel_rfl) ga ?_
              apply Exists.intro
              refine ⟨?_, ?_⟩
              · intro wg hg
                simp only [List.drop_succ_cons, List.drop_zero, List.take_succ_cons, List.take_zero]
                have gg : Grows w9 wg := hg
                have P3g := Lib.hid (R39.out.later gg)
                have P11g := Lib.hid (P11.out.later gg)
                have LD : Hid (∀ u : After wg, Laid u.w) := Lib.hid (fun u => (D9.out.later D9.out.lt gg).later (D9.out.later D9.out.lt gg).lt u.below)
                have C1 : Hid (∀ u : After wg, Calls Tryd.prog 17 #[.agg (txV t.ver Pi pi pc Po po pd t.lock).toArray] u.w fun e w' => e = .returned (.agg (vals I).toArray) ∧ Below u.w.heap.size u.w w') := Lib.hid (fun u => by
                  rw [← HI2.out]; exact txId_any (t := plain t) u.w (LD.out u) WP.out ((TPP.out.later gg).later u.below))
                have C2 : Hid (∀ u : After wg, Calls Tryd.prog 17 #[.agg (txV t.ver Ai ni ci Ao no co t.lock).toArray] u.w fun e w' => e = .returned (.agg (vals I).toArray) ∧ Below u.w.heap.size u.w w') := Lib.hid (fun u => by
                  rw [← HI.out]; exact txId_any u.w (LD.out u) WT.out ((T9.out.later gg).later u.below))
                clear gg
                repeat (go_big_quiet_step (fail))
                go_big_quiet_want
                refine quiet_load_part (.tmp 11) rfl rfl rowTx (fun w9 h9 => by obtain ⟨u, rfl⟩ := h9; exact (P11g.out.later u.below).whole) rfl ?_
                simp only [Act.put, List.setIfInBounds_toArray, List.set_cons_succ, List.set_cons_zero]
                go_big_quiet_on
                go_big_quiet_step (exact after_call (C1.out _))
                repeat (go_big_quiet_step (fail))
                go_big_quiet_want
                refine quiet_load_part (.tmp 3) rfl rfl rowTx (fun w9 h9 => by obtain ⟨u, rfl⟩ := h9; exact (P3g.out.later u.below).whole) rfl ?_
                simp only [Act.put, List.setIfInBounds_toArray, List.set_cons_succ, List.set_cons_zero]
                go_big_quiet_on
                go_big_quiet_step (exact after_call (C2.out _))
                repeat (go_big_quiet_step (fail))
                go_big_quiet_want
                refine quiet_load_part (.tmp 3) rfl rfl rowTx (fun w9 h9 => by obtain ⟨u, rfl⟩ := h9; exact (P3g.out.later u.below).whole) rfl ?_
                simp only [Act.put, List.setIfInBounds_toArray, List.set_cons_succ, List.set_cons_zero]
                go_big_quiet_on
                refine wpQuiet_nil ?_
                exact rfl
              refine wpK_seg 9 1 (f := 15) (by kernel_rfl) (fun _ _ _ _ _ h => h) (by kernel_rfl) (by kernel_rfl) (by kernel_rfl) ga ?_
              apply Exists.intro
              refine ⟨?_, ?_⟩
              · intro wg hg
                simp only [List.drop_succ_cons, List.drop_zero, List.take_succ_cons, List.take_zero]
                have gg : Grows w9 wg := hg
                have P11g := Lib.hid (P11.out.later gg)
                clear gg
                go_big_quiet_want
                refine quiet_load_part (.tmp 11) rfl rfl rowTx (fun w9 h9 => by obtain ⟨u, rfl⟩ := h9; exact (P11g.out.later u.below).whole) rfl ?_
                simp only [Act.put, List.setIfInBounds_toArray, List.set_cons_succ, List.set_cons_zero]
                go_big_quiet_on
                refine wpQuiet_nil ?_
                exact rfl
              refine wpK_call_want (f := 14) (i := 7) (by kernel_rfl) rfl rfl ga ?_
              intro wz gb K hK
              have Gz : Grows w9 wz := gb
              have Tz := T9.out.later Gz
              go_simp
              with_reducible refine (txBare_any (t := t) _ WT.out Tz).mono ?_
              clear Tz
              rintro e wb ⟨Ab, nb, cb, rfl, _, Ob⟩
              refine hK _ _ Ob.bel ?_
              have Xb := Lib.hid Ob.reads
              have Yb := Lib.hid (Grows.trans gb Ob.bel)
              have Gb : Hid (Grows w9 wb) := Lib.hid (Grows.trans Gz Ob.bel)
              clear hK K Ob gb Gz
              refine wpK_from Yb.out _ _ _ _ ?_
              refine wpK_seg 8 1 (f := 13) (by kernel_rfl) (fun _ _ _ _ _ h => h) (by kernel_rfl) (by kernel_rfl) (by kernel_rfl) (Grows.refl wb) ?_
              apply Exists.intro
              refine ⟨?_, ?_⟩
              · intro wg hg
                simp only [List.drop_succ_cons, List.drop_zero, List.take_succ_cons, List.take_zero]
                have gg : Grows w9 wg := (Grows.trans Gb.out hg)
                have cvb : ∀ u : After wg, (convert 29 9 (.slice Ab nb cb)).run Tryd.prog u.w = .ok (.string Z) u.w := fun u => by rw [← HZ.out]; exact run_str ((Xb.out.later hg).later u.below)
                clear gg
                go_big_quiet_step (fail)
                refine wpQuiet_nil ?_
                exact rfl
              refine wpK_call_want (f := 12) (i := 10) (by kernel_rfl) rfl rfl (Grows.refl wb) ?_
              intro wz gb K hK
              have Gz : Grows w9 wz := (Grows.trans Gb.out gb)
              have Tz := TPP.out.later Gz
              have Cz : Calls Tryd.prog 15 #[.agg (txV t.ver Pi pi pc Po po pd t.lock).toArray] wz (GivesB wz (bareS (plain t))) := txBare_any (t := plain t) _ WP.out Tz
              go_simp
              with_reducible refine Cz.mono ?_
              clear Tz Cz
              rintro e wc ⟨Ac, nc, cc, rfl, _, Oc⟩
              refine hK _ _ Oc.bel ?_
              have Xc := Lib.hid Oc.reads
              have Yc := Lib.hid (Grows.trans gb Oc.bel)
              have Gc : Hid (Grows w9 wc) := Lib.hid (Grows.trans Gz Oc.bel)
              clear hK K Oc gb Gz
              refine wpK_from Yc.out _ _ _ _ ?_
              refine wpK_seg 11 5 (f := 7) (by kernel_rfl) (fun _ _ _ _ _ h => h) (by kernel_rfl) (by kernel_rfl) (by kernel_rfl) (Grows.refl wc) ?_
              apply Exists.intro
              refine ⟨?_, ?_⟩
              · intro wg hg
                simp only [List.drop_succ_cons, List.drop_zero, List.take_succ_cons, List.take_zero]
                have gg : Grows w9 wg := (Grows.trans Gc.out hg)
                have cvc : ∀ u : After wg, (convert 29 9 (.slice Ac nc cc)).run Tryd.prog u.w = .ok (.string Z) u.w := fun u => by rw [← HZ2.out]; exact run_str ((Xc.out.later hg).later u.below)
                have P11g := Lib.hid (P11.out.later gg)
                clear gg
                repeat (go_big_quiet_step (fail))
                go_big_quiet_want
                refine quiet_load_part (.tmp 11) rfl rfl rowTx (fun w9 h9 => by obtain ⟨u, rfl⟩ := h9; exact (P11g.out.later u.below).whole) rfl ?_
                simp only [Act.put, List.setIfInBounds_toArray, List.set_cons_succ, List.set_cons_zero]
                go_big_quiet_on
                refine wpQuiet_nil ?_
                exact rfl
              refine wpK_seg 18 1 (f := 6) (by kernel_rfl) (fun _ _ _ _ _ h => h) (by kernel_rfl) (by kernel_rfl) (by kernel_rfl) (Grows.refl wc) ?_
              apply Exists.intro
              refine ⟨?_, ?_⟩
              · intro wg hg
                simp only [List.drop_succ_cons, List.drop_zero, List.take_succ_cons, List.take_zero]
                have gg : Grows w9 wg := (Grows.trans Gc.out hg)
                have P3g := Lib.hid (R39.out.later gg)
                clear gg
                go_big_quiet_want
                refine quiet_load_part (.tmp 3) rfl rfl rowTx (fun w9 h9 => by obtain ⟨u, rfl⟩ := h9; exact (P3g.out.later u.below).whole) rfl ?_
                simp only [Act.put, List.setIfInBounds_toArray, List.set_cons_succ, List.set_cons_zero]
                go_big_quiet_on
                refine wpQuiet_nil ?_
                exact rfl
              refine wpK_call_want (f := 5) (i := 16) (by kernel_rfl) rfl rfl (Grows.refl wc) ?_
              intro wz gb K hK
              have Gz : Grows w9 wz := (Grows.trans Gc.out gb)
              have Tz := TPP.out.later Gz
              have Cz : Calls Tryd.prog 13 #[.agg (txV t.ver Pi pi pc Po po pd t.lock).toArray] wz (GivesB wz (putS (plain t))) := txPut_any (t := plain t) _ WP.out Tz
              go_simp
              with_reducible refine Cz.mono ?_
              clear Tz Cz
              rintro e wd ⟨Ad, nd, cd, rfl, _, Od⟩
              refine hK _ _ Od.bel ?_
              have Xd := Lib.hid Od.reads
              have Yd := Lib.hid (Grows.trans gb Od.bel)
              have Gd : Hid (Grows w9 wd) := Lib.hid (Grows.trans Gz Od.bel)
              clear hK K Od gb Gz
              refine wpK_from Yd.out _ _ _ _ ?_
              refine wpK_seg 17 1 (f := 4) (by kernel_rfl) (fun _ _ _ _ _ h => h) (by kernel_rfl) (by kernel_rfl) (by kernel_rfl) (Grows.refl wd) ?_
              apply Exists.intro
              refine ⟨?_, ?_⟩
              · intro wg hg
                simp only [List.drop_succ_cons, List.drop_zero, List.take_succ_cons, List.take_zero]
                have gg : Grows w9 wg := (Grows.trans Gd.out hg)
                have cvd : ∀ u : After wg, (convert 29 9 (.slice Ad nd cd)).run Tryd.prog u.w = .ok (.string Z) u.w := fun u => by rw [← HZ3.out]; exact run_str ((Xd.out.later hg).later u.below)
                clear gg
                go_big_quiet_step (fail)
                refine wpQuiet_nil ?_
                exact rfl
              refine wpK_call_want (f := 3) (i := 19) (by kernel_rfl) rfl rfl (Grows.refl wd) ?_
              intro wz gb K hK
              have Gz : Grows w9 wz := (Grows.trans Gd.out gb)
              have Tz := T9.out.later Gz
              go_simp
              with_reducible refine (txBare_any (t := t) _ WT.out Tz).mono ?_
              clear Tz
              rintro e we ⟨Ae, ne, ce, rfl, _, Oe⟩
              refine hK _ _ Oe.bel ?_
              have Xe := Lib.hid Oe.reads
              have Ye := Lib.hid (Grows.trans gb Oe.bel)
              have Ge : Hid (Grows w9 we) := Lib.hid (Grows.trans Gz Oe.bel)
              clear hK K Oe gb Gz
              refine wpK_from Ye.out _ _ _ _ ?_
              refine wpK_seg 20 3 (f := 0) (by kernel_rfl) (fun _ _ _ _ _ h => h) (by kernel_rfl) (by kernel_rfl) (by kernel_rfl) (Grows.refl we) ?_
              apply Exists.intro
              refine ⟨?_, ?_⟩
              · intro wg hg
                simp only [List.drop_succ_cons, List.drop_zero, List.take_succ_cons, List.take_zero]
                have gg : Grows w9 wg := (Grows.trans Ge.out hg)
                have cve : ∀ u : After wg, (convert 29 9 (.slice Ae ne ce)).run Tryd.prog u.w = .ok (.string Z) u.w := fun u => by rw [← HZ.out]; exact run_str ((Xe.out.later hg).later u.below)
                clear gg
                repeat (go_big_quiet_step (fail))
                refine wpQuiet_nil ?_
                exact rfl
              refine wpK_end (by kernel_rfl) fun wz9 gz => ?_
              have GZ : Grows w9 wz9 := (Grows.trans Ge.out gz)
              go_wp2_with fail
              go_meet
              exact ⟨rfl, GZ⟩
            case rest =>
              obtain ⟨rfl, hB10⟩ := hcut
              obtain ⟨w10, hw10⟩ : ∃ w10, wc = w10 := ⟨_, rfl⟩
              rw [hw10] at hB10 ⊢
              clear hw10
              have BX2 := Lib.hid (BX.out.trans (hB10.mono BX.out.size))
              have R30 := Lib.hid (R39.out.later hB10)
              have R40 := Lib.hid (R49.out.later hB10)
              have T10 := Lib.hid (T9.out.later hB10)
              have U10 := Lib.hid (U9.out.later hB10)
              have D10 := Lib.hid (D9.out.later D9.out.lt hB10)
              have Q11 := Lib.hid (P11.out.later hB10)
              have Q12 := Lib.hid (P12.out.later hB10)
              have TPA := Lib.hid (TPP.out.later hB10)
              have TPB := Lib.hid (TPQ.out.later hB10)
              clear hB10 R39 R49 T9 U9 D9 P11 P12 TPP TPQ BX
              go_upto_region 13 with fail
              refine wp_region_seg (W := w10) (by kernel_rfl) fun wa_ ga => ?_
              refine wpK_seg 0 1 (f := 14) (by kernel_rfl) (fun _ _ _ _ _ h => h) (by kernel_rfl) (by kernel_rfl) (by kernel_rfl) ga ?_
              apply Exists.intro
              refine ⟨?_, ?_⟩
              · intro wg hg
                simp only [List.drop_succ_cons, List.drop_zero, List.take_succ_cons, List.take_zero]
                have gg : Grows w10 wg := hg
                have P3g := Lib.hid (R30.out.later gg)
                clear gg
                go_big_quiet_want
                refine quiet_load_part (.tmp 3) rfl rfl rowTx (fun w9 h9 => by obtain ⟨u, rfl⟩ := h9; exact (P3g.out.later u.below).whole) rfl ?_
                simp only [Act.put, List.setIfInBounds_toArray, List.set_cons_succ, List.set_cons_zero]
                go_big_quiet_on
                refine wpQuiet_nil ?_
                exact rfl
              refine wpK_seg 3 1 (f := 13) (by kernel_rfl) (fun _ _ _ _ _ h => h) (by kernel_rfl) (by kernel_rfl) (by kernel_rfl) ga ?_
              apply Exists.intro
              refine ⟨?_, ?_⟩
              · intro wg hg
                simp only [List.drop_succ_cons, List.drop_zero, List.take_succ_cons, List.take_zero]
                have gg : Grows w10 wg := hg
                have P4g := Lib.hid (R40.out.later gg)
                clear gg
                go_big_quiet_want
                refine quiet_load_part (.tmp 4) rfl rfl rowTx (fun w9 h9 => by obtain ⟨u, rfl⟩ := h9; exact (P4g.out.later u.below).whole) rfl ?_
                simp only [Act.put, List.setIfInBounds_toArray, List.set_cons_succ, List.set_cons_zero]
                go_big_quiet_on
                refine wpQuiet_nil ?_
                exact rfl
              refine wpK_seg 7 2 (f := 11) (by kernel_rfl) (fun _ _ _ _ _ h => h) (by kernel_rfl) (by kernel_rfl) (by kernel_rfl) ga ?_
              apply Exists.intro
              refine ⟨?_, ?_⟩
              · intro wg hg
                simp only [List.drop_succ_cons, List.drop_zero, List.take_succ_cons, List.take_zero]
                have gg : Grows w10 wg := hg
                have P11g := Lib.hid (Q11.out.later gg)
                have P12g := Lib.hid (Q12.out.later gg)
                clear gg
                go_big_quiet_want
                refine quiet_load_part (.tmp 11) rfl rfl rowTx (fun w9 h9 => by obtain ⟨u, rfl⟩ := h9; exact (P11g.out.later u.below).whole) rfl ?_
                simp only [Act.put, List.setIfInBounds_toArray, List.set_cons_succ, List.set_cons_zero]
                go_big_quiet_on
                go_big_quiet_want
                refine quiet_load_part (.tmp 12) rfl rfl rowTx (fun w9 h9 => by obtain ⟨u, rfl⟩ := h9; exact (P12g.out.later u.below).whole) rfl ?_
                simp only [Act.put, List.setIfInBounds_toArray, List.set_cons_succ, List.set_cons_zero]
                go_big_quiet_on
                refine wpQuiet_nil ?_
                exact rfl
              refine wpK_call (f := 10) (i := 1) (by kernel_rfl) rfl rfl ga ?_
              intro wz gb K hK
              have Gz : Grows w10 wz := gb
              have Tz := T10.out.later Gz
              go_simp
              with_reducible refine (txBare_any (t := t) _ WT.out Tz).mono ?_
              clear Tz
              rintro e wb ⟨Ab, nb, cb, rfl, _, Ob⟩
              refine hK _ _ Ob.bel ?_
              have Xb := Lib.hid Ob.reads
              have Yb := Lib.hid (Grows.trans gb Ob.bel)
              have Gb : Hid (Grows w10 wb) := Lib.hid (Grows.trans Gz Ob.bel)
              clear hK K Ob gb Gz
              refine wpK_from Yb.out _ _ _ _ ?_
              refine wpK_seg 2 1 (f := 9) (by kernel_rfl) (fun _ _ _ _ _ h => h) (by kernel_rfl) (by kernel_rfl) (by kernel_rfl) (Grows.refl wb) ?_
              apply Exists.intro
              refine ⟨?_, ?_⟩
              · intro wg hg
                simp only [List.drop_succ_cons, List.drop_zero, List.take_succ_cons, List.take_zero]
                have gg : Grows w10 wg := (Grows.trans Gb.out hg)
                have cvb : ∀ u : After wg, (convert 29 9 (.slice Ab nb cb)).run Tryd.prog u.w = .ok (.string Z) u.w := fun u => by rw [← HZ.out]; exact run_str ((Xb.out.later hg).later u.below)
                clear gg
                go_big_quiet_step (fail)
                refine wpQuiet_nil ?_
                exact rfl
              refine wpK_call (f := 8) (i := 4) (by kernel_rfl) rfl rfl (Grows.refl wb) ?_
              intro wz gb K hK
              have Gz : Grows w10 wz := (Grows.trans Gb.out gb)
              have Tz := U10.out.later Gz
              go_simp
              with_reducible refine (txBare_any (t := u) _ WU.out Tz).mono ?_
              clear Tz
              rintro e wc ⟨Ac, nc, cc, rfl, _, Oc⟩
              refine hK _ _ Oc.bel ?_
              have Xc := Lib.hid Oc.reads
              have Yc := Lib.hid (Grows.trans gb Oc.bel)
              have Gc : Hid (Grows w10 wc) := Lib.hid (Grows.trans Gz Oc.bel)
              clear hK K Oc gb Gz
              refine wpK_from Yc.out _ _ _ _ ?_
              refine wpK_seg 5 2 (f := 6) (by kernel_rfl) (fun _ _ _ _ _ h => h) (by kernel_rfl) (by kernel_rfl) (by kernel_rfl) (Grows.refl wc) ?_
              apply Exists.intro
              refine ⟨?_, ?_⟩
              · intro wg hg
                simp only [List.drop_succ_cons, List.drop_zero, List.take_succ_cons, List.take_zero]
                have gg : Grows w10 wg := (Grows.trans Gc.out hg)
                have cvc : ∀ u : After wg, (convert 29 9 (.slice Ac nc cc)).run Tryd.prog u.w = .ok (.string Y) u.w := fun u => by rw [← HY.out]; exact run_str ((Xc.out.later hg).later u.below)
                have BYs := HBY.out
                clear gg
                repeat (go_big_quiet_step (fail))
                refine wpQuiet_nil ?_
                exact rfl
              refine wpK_seg 9 6 (f := 0) (by kernel_rfl) (fun _ _ _ _ _ h => h) (by kernel_rfl) (by kernel_rfl) (by kernel_rfl) (Grows.refl wc) ?_
              apply Exists.intro
              refine ⟨?_, ?_⟩
              · intro wg hg
                simp only [List.drop_succ_cons, List.drop_zero, List.take_succ_cons, List.take_zero]
                have gg : Grows w10 wg := (Grows.trans Gc.out hg)
                have LD : Hid (∀ u : After wg, Laid u.w) := Lib.hid (fun u => (D10.out.later D10.out.lt gg).later (D10.out.later D10.out.lt gg).lt u.below)
                have C1 : Hid (∀ x : After wg, Calls Tryd.prog 25 #[.agg (txV t.ver Pi pi pc Po po pd t.lock).toArray, .agg (txV u.ver Qi qi qc Qo qo qd u.lock).toArray] x.w fun e w' => e = .returned (.bool q) ∧ Below x.w.heap.size x.w w') := Lib.hid (fun x => by
                  rw [← HQ.out]; exact refSame_any (s := plain t) (t := plain u) x.w ((TPA.out.later gg).later x.below) ((TPB.out.later gg).later x.below))
                have EQ : (q == q) = true := beq_self_eq_true q
                have C2 : Hid (∀ x : After wg, Calls Tryd.prog 12 #[] x.w fun e w' => e = .returned (.bool true) ∧ Below x.w.heap.size x.w w') := Lib.hid (fun x => works_any x.w (LD.out x))
                clear gg
                repeat (go_big_quiet_step (fail))
                go_big_quiet_step (exact after_call (C1.out _))
                repeat (go_big_quiet_step (fail))
                go_big_quiet_step (exact after_call (C2.out _))
                repeat (go_big_quiet_step (fail))
                refine wpQuiet_nil ?_
                exact rfl
              refine wpK_end (by kernel_rfl) fun wz10 gz => ?_
              have GZ : Grows w10 wz10 := (Grows.trans Gc.out gz)
              have BZ := Lib.hid (BX2.out.trans ((show Below w10.heap.size w10 wz10 from GZ).mono BX2.out.size))
              clear GZ
              go_wp2_with fail
              go_ret
              exact ⟨rfl, BZ.out⟩
end Go.Proofs.YtbdjcbdnhaddoaaDoor
