/- The chapter's examples hold: the statements' anchor. No condition but that the tables lie as laid. -/
import Derived.Test.YtipbpecihbmneaaDoorWorksL
namespace Go.Proofs.YtipbpecihbmneaaDoor
open Go.RowKit

set_option maxRecDepth 100000 in
set_option maxHeartbeats 8000000 in
theorem works_any (w : World) (hLd : Laid w) : Calls Tryd.prog 6 #[] w fun e w' => e = .returned (.bool true) ∧ Below w.heap.size w w' := by
  have HD := Lib.hid hLd
  have BA := build_1
  have ok1 := hashN_ok (n := 1) (by decide)
  have T1 := ex_text (hashN 1)
  have RY := Lib.hid ex_yes
  have RN := Lib.hid ex_no
  have BZ := build_z
  obtain ⟨h, hh⟩ : ∃ h, hashN 1 = h := ⟨_, rfl⟩
  rw [hh] at BA ok1 T1 RY RN
  clear hh
  have OK := Lib.hid ok1
  have O12 : Hid (En.Ok ⟨12, h⟩) := Lib.hid ⟨(by decide : (-9223372036854775808 : Int) ≤ 12 ∧ (12 : Int) ≤ 9223372036854775807), ok1.1, ok1.2⟩
  have O1 : Hid (En.Ok ⟨1, h⟩) := Lib.hid ⟨(by decide : (-9223372036854775808 : Int) ≤ 1 ∧ (1 : Int) ≤ 9223372036854775807), ok1.1, ok1.2⟩
  have O2 : Hid (En.Ok ⟨2, h⟩) := Lib.hid ⟨(by decide : (-9223372036854775808 : Int) ≤ 2 ∧ (2 : Int) ≤ 9223372036854775807), ok1.1, ok1.2⟩
  have OZ : Hid (En.Ok ⟨1, z32⟩) := Lib.hid ⟨by decide, rfl, zeroE_ok.2.2⟩
  have B12 := Lib.hid (build_en (h := 12) ok1.1)
  have B1 := Lib.hid (build_en (h := 1) ok1.1)
  have B2 := Lib.hid (build_en (h := 2) ok1.1)
  have lh := Lib.hid (show (vals h).length = 32 by rw [vals_length]; exact ok1.1)
  have lz := Lib.hid (show (vals z32).length = 32 from rfl)
  have xl : (hexL h.reverse).length = 64 := by rw [hexL_length, List.length_reverse, ok1.1]
  have MB : Hid (AllB (textS [⟨12, h⟩])) := Lib.hid (textS_byt (okEs_one O12.out))
  have ML : (textS [⟨12, h⟩]).length = 68 := by rw [T1, List.length_append, xl]; rfl
  have CT := Lib.hid (rturned_any (H := h) ⟨ok1.1, ok1.2⟩)
  have OF := Lib.hid (show ofS [⟨12, h⟩] = hexL (shaS (textS [⟨12, h⟩])) from if_neg (by simp))
  have e1 := strB_app (hexL h.reverse) [58, 49, 50, 58]
  rw [← T1] at e1
  have z1 : ¬ 9223372036854775807 < (strB (hexL h.reverse)).size + ({ data := #[58, 49, 50, 58] } : ByteArray).size := by rw [strB_size, xl]; show ¬ _ < _ + 4; omega
  rw [show strB [58, 49, 50, 58] = { data := #[58, 49, 50, 58] } from rfl] at e1
  obtain ⟨M, hM⟩ : ∃ M, textS [⟨12, h⟩] = M := ⟨_, rfl⟩
  rw [hM] at e1 MB ML OF
  have l0 := Lib.hid (show (vals (shaS M)).length = 32 by rw [vals_length]; exact shaS_len M)
  have bH := Lib.hid (shaS_byt M)
  have sH := Lib.hid (shaS_len M)
  obtain ⟨H, hH⟩ : ∃ H, shaS M = H := ⟨_, rfl⟩
  rw [hH] at l0 bH sH OF
  have HHq := Lib.hid hH
  obtain ⟨S, hS⟩ : ∃ S, strB M = S := ⟨_, rfl⟩
  have HS := Lib.hid hS
  obtain ⟨X, hX⟩ : ∃ S, strB (hexL h.reverse) = S := ⟨_, rfl⟩
  obtain ⟨Y, hY⟩ : ∃ S, strB (hexL H) = S := ⟨_, rfl⟩
  have HY := Lib.hid hY
  have CTt : Hid (∀ w, Calls Tryd.prog 13 #[.agg (vals h).toArray] w fun e w' => e = .returned (.string X) ∧ Below w.heap.size w w') := Lib.hid (fun w => by rw [← hX]; exact CT.out w)
  have EQY : (Y.toList == Y.toList) = true := beq_self_eq_true _
  have EQN : ((⟨#[]⟩ : ByteArray).toList == (⟨#[]⟩ : ByteArray).toList) = true := beq_self_eq_true _
  rw [hS, hX] at e1
  rw [hX] at z1
  have Z1 := Lib.hid (Ro.new w 27 (vals z32))
  have lM := Lib.hid ML
  have b1 := (Below.refl w.heap.size w).alloc (Nat.le_refl _) (.cells (vals z32).toArray 27)
  have GZ := Lib.hid b1
  clear hLd ok1 T1 hM hS hX hY hH xl ML CT b1
  go_enter Tryd.func6, Tryd.ntmps6
  go_wp2_with (first | (refine wpList_buildR rfl 27 #[(0, .const (.int .u8 1))] rfl (vs := #[(0, .int .u8 1)]) (by simp [go_sem]) (BA _) ?_) | (refine wpList_store_ro rfl (.tmp 1) (.tmp 3) rfl rfl rfl row26 Z1.out lz.out lh.out (vals_one _) ?_))
  intro w4 A4 g4
  have RA := Lib.hid A4
  have BW := Lib.hid (GZ.out.grown g4 GZ.out.size (fun q e => by injection e; omega))
  obtain ⟨ka, hka⟩ : ∃ k, w.heap.size = k := ⟨_, rfl⟩
  have HB0 := Lib.hid (show w.heap.size ≤ w4.heap.size from BW.out.size)
  rw [hka] at RA ⊢
  clear A4 g4 Z1 GZ BA
  go_wp2_with (refine wpList_load_ro rfl (.tmp 1) rfl rfl row26 RA.out lh.out ?_)
  refine (CTt.out _).mono ?_
  rintro e w5 ⟨rfl, hb⟩
  replace RA := Lib.hid (RA.out.later hb)
  replace BW := Lib.hid (BW.out.trans (hb.mono BW.out.size))
  clear hb CTt
  obtain ⟨c2, w6, r, R6, b6⟩ := run_bytes MB.out w5
  rw [HS.out, lM.out] at r
  rw [lM.out] at R6
  replace RA := Lib.hid (RA.out.later b6)
  replace BW := Lib.hid (BW.out.trans (b6.mono BW.out.size))
  have HR6 := Lib.hid R6
  have CS := refSum_any (c := c2) w6 (by decide) HR6.out
  rw [HHq.out] at CS
  have HCS := Lib.hid CS
  clear R6 b6 CS
  go_wp2_with fail
  refine HCS.out.mono ?_
  rintro e w7 ⟨rfl, hb⟩
  replace RA := Lib.hid (RA.out.later hb)
  replace BW := Lib.hid (BW.out.trans (hb.mono BW.out.size))
  clear hb HCS r HR6 e1 z1
  go_wp2_with (refine wpList_store_ro rfl (.tmp 2) (.tmp 8) rfl rfl rfl row26 (Ro.new w7 27 (vals z32)) rfl l0.out (vals_one _) ?_)
  intro w8 R8 g8
  have hb := box_store g8
  have RS := Lib.hid R8
  obtain ⟨ks, hks⟩ : ∃ k, w7.heap.size = k := ⟨_, rfl⟩
  rw [hks] at RS ⊢
  replace RA := Lib.hid (RA.out.later hb)
  replace BW := Lib.hid (BW.out.trans (hb.mono BW.out.size))
  clear hb R8 g8 hks
  clear hka HB0
  go_wp2_with fail
  refine wp_region_seg (W := w8) (by kernel_rfl) fun wa ga => ?_
  refine wpK_seg 0 2 (f := 25) (by kernel_rfl) (fun _ _ _ _ _ h => h) (by kernel_rfl) (by kernel_rfl) (by kernel_rfl) ga ?_
  apply Exists.intro
  refine ⟨?_, ?_⟩
  · intro wg2 hg
    simp only [List.drop_succ_cons, List.drop_zero, List.take_succ_cons, List.take_zero]
    have RAg := Lib.hid (RA.out.later hg)
    have RSg := Lib.hid (RS.out.later hg)
    have LD : Hid (∀ u : After wg2, Laid u.w) := Lib.hid (fun u => HD.out.later HD.out.lt ((BW.out.trans (hg.mono BW.out.size)).trans (u.below.mono (Nat.le_trans BW.out.size hg.size))))
    repeat (go_big_quiet_step (fail))
    go_big_quiet_want
    refine quiet_load_part (.tmp 1) rfl rfl row26 (fun w9 h9 => by obtain ⟨u, rfl⟩ := h9; exact range_later (rangeOf RAg.out) RAg.out.lt u.below) lh.out ?_
    simp only [Act.put, List.setIfInBounds_toArray, List.set_cons_succ, List.set_cons_zero]
    go_big_quiet_on
    go_big_quiet_want
    refine quiet_buildR 29 #[(0, .const (.int .i64 12)), (1, .tmp 9)] rfl (vs := #[(0, .int .i64 12), (1, .agg (vals h).toArray)]) (by simp [go_sem]) B12.out ?_
    simp only [Act.put, List.setIfInBounds_toArray, List.set_cons_succ, List.set_cons_zero]
    go_big_quiet_on
    refine wpQuiet_nil ?_
    exact rfl
  refine wpK_seg 4 1 (f := 24) (by kernel_rfl) (fun _ _ _ _ _ h => h) (by kernel_rfl) (by kernel_rfl) (by kernel_rfl) ga ?_
  apply Exists.intro
  refine ⟨?_, ?_⟩
  · intro wg2 hg
    simp only [List.drop_succ_cons, List.drop_zero, List.take_succ_cons, List.take_zero]
    have RAg := Lib.hid (RA.out.later hg)
    have RSg := Lib.hid (RS.out.later hg)
    have LD : Hid (∀ u : After wg2, Laid u.w) := Lib.hid (fun u => HD.out.later HD.out.lt ((BW.out.trans (hg.mono BW.out.size)).trans (u.below.mono (Nat.le_trans BW.out.size hg.size))))
    repeat (go_big_quiet_step (fail))
    refine wpQuiet_nil ?_
    exact rfl
  refine wpK_call_want (f := 23) (i := 2) (by kernel_rfl) rfl (by rfl) ga ?_
  intro wb2 gb K hK
  refine wp_litE (d := some 11) rfl (.tmp 10) rfl rfl (enV_len O12.out) ?_
  simp only [Act.put, List.setIfInBounds_toArray, List.set_cons_succ, List.set_cons_zero]
  have GN := Lib.hid (Grows.trans gb ((Below.refl wb2.heap.size wb2).alloc (Nat.le_refl _) (.cells (enV ⟨12, h⟩).toArray 29)))
  refine hK _ _ ((Below.refl wb2.heap.size wb2).alloc (Nat.le_refl _) (.cells (enV ⟨12, h⟩).toArray 29)) ?_
  clear hK K ga
  refine wpK_from GN.out _ _ _ _ ?_
  have HN := Ro.new wb2 29 (enV ⟨12, h⟩)
  obtain ⟨wn, hwn⟩ : ∃ wn, wn = wb2.alloc (.cells (enV ⟨12, h⟩).toArray 29) := ⟨_, rfl⟩
  rw [← hwn] at GN HN ⊢
  rw [show enV ⟨12, h⟩ = esV [⟨12, h⟩] by simp [esV]] at HN
  replace HN := Lib.hid (HN.es (okEs_one O12.out))
  obtain ⟨kwn, hkwn⟩ : ∃ k, wb2.heap.size = k := ⟨_, rfl⟩
  rw [hkwn] at HN ⊢
  clear hwn hkwn gb
  replace RA := Lib.hid (RA.out.later GN.out)
  replace RS := Lib.hid (RS.out.later GN.out)
  replace BW := Lib.hid (BW.out.trans ((GN.out).mono BW.out.size))
  have ga := Grows.refl wn
  clear GN
  refine wpK_seg 3 1 (f := 22) (by kernel_rfl) (fun _ _ _ _ _ h => h) (by kernel_rfl) (by kernel_rfl) (by kernel_rfl) ga ?_
  apply Exists.intro
  refine ⟨?_, ?_⟩
  · intro wg2 hg
    simp only [List.drop_succ_cons, List.drop_zero, List.take_succ_cons, List.take_zero]
    have RAg := Lib.hid (RA.out.later hg)
    have RSg := Lib.hid (RS.out.later hg)
    have LD : Hid (∀ u : After wg2, Laid u.w) := Lib.hid (fun u => HD.out.later HD.out.lt ((BW.out.trans (hg.mono BW.out.size)).trans (u.below.mono (Nat.le_trans BW.out.size hg.size))))
    have CO : Hid (∀ u : After wg2, Calls Tryd.prog 7 #[.slice (some ⟨kwn, 0, none⟩) 1 1] u.w fun e w' => e = .returned (.string Y) ∧ Below u.w.heap.size u.w w') := Lib.hid (fun u => by
      have q := of_any (n := 1) (c := 1) u.w (LD.out u) (by decide) ((HN.out.later hg).later u.below)
      rw [OF.out, HY.out] at q
      exact q)
    repeat (go_big_quiet_step (fail))
    go_big_quiet_step (exact after_call (CO.out _))
    repeat (go_big_quiet_step (fail))
    refine wpQuiet_nil ?_
    exact rfl
  clear HN
  refine wpK_seg 5 10 (f := 12) (by kernel_rfl) (fun _ _ _ _ _ h => h) (by kernel_rfl) (by kernel_rfl) (by kernel_rfl) ga ?_
  apply Exists.intro
  refine ⟨?_, ?_⟩
  · intro wg2 hg
    simp only [List.drop_succ_cons, List.drop_zero, List.take_succ_cons, List.take_zero]
    have RAg := Lib.hid (RA.out.later hg)
    have RSg := Lib.hid (RS.out.later hg)
    have LD : Hid (∀ u : After wg2, Laid u.w) := Lib.hid (fun u => HD.out.later HD.out.lt ((BW.out.trans (hg.mono BW.out.size)).trans (u.below.mono (Nat.le_trans BW.out.size hg.size))))
    have CH : Hid (∀ u : After wg2, Calls Tryd.prog 14 #[.slice (some ⟨ks, 0, none⟩) 32 32] u.w fun e w' => e = .returned (.string Y) ∧ Below u.w.heap.size u.w w') := Lib.hid (fun u => by
      have hb4 := (RSg.out.later u.below).bs bH.out
      rw [sH.out] at hb4
      have q := rhex_any (c := 32) u.w (by decide) hb4
      rw [HY.out] at q
      exact q)
    have CN : Hid (∀ u : After wg2, Calls Tryd.prog 7 #[.slice none 0 0] u.w fun e w' => e = .returned (.string ⟨#[]⟩) ∧ Below u.w.heap.size u.w w') := Lib.hid (fun u => of_any (c := 0) u.w (LD.out u) (by decide) (Es.nil u.w none))
    repeat (go_big_quiet_step (fail))
    go_big_quiet_step (exact after_call (CH.out _))
    repeat (go_big_quiet_step (fail))
    go_big_quiet_step (exact after_call (CN.out _))
    repeat (go_big_quiet_step (fail))
    go_big_quiet_want
    refine quiet_load_part (.tmp 1) rfl rfl row26 (fun w9 h9 => by obtain ⟨u, rfl⟩ := h9; exact range_later (rangeOf RAg.out) RAg.out.lt u.below) lh.out ?_
    simp only [Act.put, List.setIfInBounds_toArray, List.set_cons_succ, List.set_cons_zero]
    go_big_quiet_on
    go_big_quiet_want
    refine quiet_buildR 29 #[(0, .const (.int .i64 1)), (1, .tmp 21)] rfl (vs := #[(0, .int .i64 1), (1, .agg (vals h).toArray)]) (by simp [go_sem]) B1.out ?_
    simp only [Act.put, List.setIfInBounds_toArray, List.set_cons_succ, List.set_cons_zero]
    go_big_quiet_on
    go_big_quiet_want
    refine quiet_buildR 29 #[(0, .const (.int .i64 1))] rfl (vs := #[(0, .int .i64 1)]) (by simp [go_sem]) BZ ?_
    simp only [Act.put, List.setIfInBounds_toArray, List.set_cons_succ, List.set_cons_zero]
    go_big_quiet_on
    refine wpQuiet_nil ?_
    exact rfl
  refine wpK_call_want (f := 11) (i := 15) (by kernel_rfl) rfl (by rfl) ga ?_
  intro wb2 gb K hK
  refine wp_litE2 (d := some 24) rfl (.tmp 22) (.tmp 23) rfl rfl rfl (enV_len O1.out) (enV_len OZ.out) ?_
  simp only [Act.put, List.setIfInBounds_toArray, List.set_cons_succ, List.set_cons_zero]
  have GN := Lib.hid (Grows.trans gb ((Below.refl wb2.heap.size wb2).alloc (Nat.le_refl _) (.cells (enV ⟨1, h⟩ ++ enV ⟨1, z32⟩).toArray 29)))
  refine hK _ _ ((Below.refl wb2.heap.size wb2).alloc (Nat.le_refl _) (.cells (enV ⟨1, h⟩ ++ enV ⟨1, z32⟩).toArray 29)) ?_
  clear hK K ga
  refine wpK_from GN.out _ _ _ _ ?_
  have HN := Ro.new wb2 29 (enV ⟨1, h⟩ ++ enV ⟨1, z32⟩)
  obtain ⟨wo, hwn⟩ : ∃ wo, wo = wb2.alloc (.cells (enV ⟨1, h⟩ ++ enV ⟨1, z32⟩).toArray 29) := ⟨_, rfl⟩
  rw [← hwn] at GN HN ⊢
  rw [show enV ⟨1, h⟩ ++ enV ⟨1, z32⟩ = esV [⟨1, h⟩, ⟨1, z32⟩] by simp [esV]] at HN
  replace HN := Lib.hid (HN.es ((okEs_one O1.out).app (okEs_one OZ.out)))
  obtain ⟨kwo, hkwo⟩ : ∃ k, wb2.heap.size = k := ⟨_, rfl⟩
  rw [hkwo] at HN ⊢
  clear hwn hkwo gb
  replace RA := Lib.hid (RA.out.later GN.out)
  replace RS := Lib.hid (RS.out.later GN.out)
  replace BW := Lib.hid (BW.out.trans ((GN.out).mono BW.out.size))
  have ga := Grows.refl wo
  clear GN
  refine wpK_seg 16 6 (f := 5) (by kernel_rfl) (fun _ _ _ _ _ h => h) (by kernel_rfl) (by kernel_rfl) (by kernel_rfl) ga ?_
  apply Exists.intro
  refine ⟨?_, ?_⟩
  · intro wg2 hg
    simp only [List.drop_succ_cons, List.drop_zero, List.take_succ_cons, List.take_zero]
    have RAg := Lib.hid (RA.out.later hg)
    have RSg := Lib.hid (RS.out.later hg)
    have LD : Hid (∀ u : After wg2, Laid u.w) := Lib.hid (fun u => HD.out.later HD.out.lt ((BW.out.trans (hg.mono BW.out.size)).trans (u.below.mono (Nat.le_trans BW.out.size hg.size))))
    have CR : Hid (∀ u : After wg2, Calls Tryd.prog 9 #[.slice (some ⟨kwo, 0, none⟩) 2 2] u.w fun e w' => e = .returned (.bool true) ∧ Below u.w.heap.size u.w w') := Lib.hid (fun u => by
      have q := mayRight_any (n := 2) (c := 2) u.w (by decide) ((HN.out.later hg).later u.below)
      rw [RY.out] at q
      exact q)
    go_big_quiet_step (exact after_call (CR.out _))
    repeat (go_big_quiet_step (fail))
    go_big_quiet_want
    refine quiet_load_part (.tmp 1) rfl rfl row26 (fun w9 h9 => by obtain ⟨u, rfl⟩ := h9; exact range_later (rangeOf RAg.out) RAg.out.lt u.below) lh.out ?_
    simp only [Act.put, List.setIfInBounds_toArray, List.set_cons_succ, List.set_cons_zero]
    go_big_quiet_on
    go_big_quiet_want
    refine quiet_buildR 29 #[(0, .const (.int .i64 2)), (1, .tmp 28)] rfl (vs := #[(0, .int .i64 2), (1, .agg (vals h).toArray)]) (by simp [go_sem]) B2.out ?_
    simp only [Act.put, List.setIfInBounds_toArray, List.set_cons_succ, List.set_cons_zero]
    go_big_quiet_on
    go_big_quiet_want
    refine quiet_buildR 29 #[(0, .const (.int .i64 1))] rfl (vs := #[(0, .int .i64 1)]) (by simp [go_sem]) BZ ?_
    simp only [Act.put, List.setIfInBounds_toArray, List.set_cons_succ, List.set_cons_zero]
    go_big_quiet_on
    refine wpQuiet_nil ?_
    exact rfl
  clear HN
  refine wpK_call_want (f := 4) (i := 22) (by kernel_rfl) rfl (by rfl) ga ?_
  intro wb2 gb K hK
  refine wp_litE2 (d := some 31) rfl (.tmp 29) (.tmp 30) rfl rfl rfl (enV_len O2.out) (enV_len OZ.out) ?_
  simp only [Act.put, List.setIfInBounds_toArray, List.set_cons_succ, List.set_cons_zero]
  have GN := Lib.hid (Grows.trans gb ((Below.refl wb2.heap.size wb2).alloc (Nat.le_refl _) (.cells (enV ⟨2, h⟩ ++ enV ⟨1, z32⟩).toArray 29)))
  refine hK _ _ ((Below.refl wb2.heap.size wb2).alloc (Nat.le_refl _) (.cells (enV ⟨2, h⟩ ++ enV ⟨1, z32⟩).toArray 29)) ?_
  clear hK K ga
  refine wpK_from GN.out _ _ _ _ ?_
  have HN := Ro.new wb2 29 (enV ⟨2, h⟩ ++ enV ⟨1, z32⟩)
  obtain ⟨wp, hwn⟩ : ∃ wp, wp = wb2.alloc (.cells (enV ⟨2, h⟩ ++ enV ⟨1, z32⟩).toArray 29) := ⟨_, rfl⟩
  rw [← hwn] at GN HN ⊢
  rw [show enV ⟨2, h⟩ ++ enV ⟨1, z32⟩ = esV [⟨2, h⟩, ⟨1, z32⟩] by simp [esV]] at HN
  replace HN := Lib.hid (HN.es ((okEs_one O2.out).app (okEs_one OZ.out)))
  obtain ⟨kwp, hkwp⟩ : ∃ k, wb2.heap.size = k := ⟨_, rfl⟩
  rw [hkwp] at HN ⊢
  clear hwn hkwp gb
  replace RA := Lib.hid (RA.out.later GN.out)
  replace RS := Lib.hid (RS.out.later GN.out)
  replace BW := Lib.hid (BW.out.trans ((GN.out).mono BW.out.size))
  have ga := Grows.refl wp
  clear GN
  refine wpK_seg 23 4 (f := 0) (by kernel_rfl) (fun _ _ _ _ _ h => h) (by kernel_rfl) (by kernel_rfl) (by kernel_rfl) ga ?_
  apply Exists.intro
  refine ⟨?_, ?_⟩
  · intro wg2 hg
    simp only [List.drop_succ_cons, List.drop_zero, List.take_succ_cons, List.take_zero]
    have RAg := Lib.hid (RA.out.later hg)
    have RSg := Lib.hid (RS.out.later hg)
    have LD : Hid (∀ u : After wg2, Laid u.w) := Lib.hid (fun u => HD.out.later HD.out.lt ((BW.out.trans (hg.mono BW.out.size)).trans (u.below.mono (Nat.le_trans BW.out.size hg.size))))
    have CR : Hid (∀ u : After wg2, Calls Tryd.prog 9 #[.slice (some ⟨kwp, 0, none⟩) 2 2] u.w fun e w' => e = .returned (.bool false) ∧ Below u.w.heap.size u.w w') := Lib.hid (fun u => by
      have q := mayRight_any (n := 2) (c := 2) u.w (by decide) ((HN.out.later hg).later u.below)
      rw [RN.out] at q
      exact q)
    go_big_quiet_step (exact after_call (CR.out _))
    repeat (go_big_quiet_step (fail))
    refine wpQuiet_nil ?_
    exact rfl
  refine wpK_end (by kernel_rfl) fun wz gz => ?_
  have BZ := Lib.hid (BW.out.trans (gz.mono BW.out.size))
  go_wp2_with fail
  go_ret
  exact ⟨rfl, BZ.out⟩
end Go.Proofs.YtipbpecihbmneaaDoor
