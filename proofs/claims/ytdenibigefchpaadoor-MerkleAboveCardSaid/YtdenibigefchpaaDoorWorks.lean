/- The chapter's example holds: the statements' anchor. No condition but that the tables lie as laid. -/
import Derived.Test.YtdenibigefchpaaDoorWorksL
namespace Go.Proofs.YtdenibigefchpaaDoor
open Go.RowKit

theorem eq_same {H : List Nat} (h : H.length = 32) : ∀ w, (Op.equalIn 10000 24 (.agg (vals H).toArray) (.agg (vals H).toArray)).run Tryd.prog w = .ok true w := fun w => (eq_hash h h w).trans (by rw [eqB_yes rfl])

set_option maxRecDepth 100000 in
set_option maxHeartbeats 8000000 in
theorem works_any (w : World) (hLd : Laid w) : Calls Tryd.prog 9 #[] w fun e w' => e = .returned (.bool true) ∧ Below w.heap.size w w' := by
  have HD := Lib.hid hLd
  have BA := build_1
  have BB := build_2
  have BC := build_3
  have oka := hashN_ok (n := 1) (by decide)
  have okb := hashN_ok (n := 2) (by decide)
  have okc := hashN_ok (n := 3) (by decide)
  have ne1 := ex_ne
  have ne2 : hashN 2 ≠ hashN 1 := by decide
  obtain ⟨a, ha⟩ : ∃ a, hashN 1 = a := ⟨_, rfl⟩
  obtain ⟨b, hb⟩ : ∃ b, hashN 2 = b := ⟨_, rfl⟩
  obtain ⟨c, hc⟩ : ∃ c, hashN 3 = c := ⟨_, rfl⟩
  rw [ha] at BA oka ne1 ne2
  rw [hb] at BB okb ne1 ne2
  rw [hc] at BC okc ne1
  have EQC := eq_same okc.1
  have EQA := eq_same oka.1
  have OA := Lib.hid oka
  have OB := Lib.hid okb
  have OC := Lib.hid okc
  have OP := Lib.hid (joinS_ok a b)
  have OQ := Lib.hid (joinS_ok c c)
  have OR := Lib.hid (joinS_ok (joinS a b) (joinS c c))
  have EQP := eq_same OP.out.1
  have EQR := eq_same OR.out.1
  have T3 := Lib.hid (twice3 joinS a b c ne2 ne1)
  have T2 := Lib.hid (twice2 joinS a)
  have F2 := Lib.hid (fold3 joinS a b c ne1)
  have F3 := Lib.hid (fold3no joinS a b c)
  have R3 := Lib.hid (root3 joinS z32 a b c)
  have R1 := Lib.hid (root1 joinS z32 a)
  have B3 := Lib.hid (branch3 joinS a b c)
  have CP : Hid (∀ u, Laid u → Calls Tryd.prog 12 #[.agg (vals a).toArray, .agg (vals b).toArray] u fun e w' => e = .returned (.agg (vals (joinS a b)).toArray) ∧ Below u.heap.size u w') := Lib.hid (fun u h => join_any OA.out OB.out u h)
  have CQ : Hid (∀ u, Laid u → Calls Tryd.prog 12 #[.agg (vals c).toArray, .agg (vals c).toArray] u fun e w' => e = .returned (.agg (vals (joinS c c)).toArray) ∧ Below u.heap.size u w') := Lib.hid (fun u h => join_any OC.out OC.out u h)
  have CR : Hid (∀ u, Laid u → Calls Tryd.prog 12 #[.agg (vals (joinS a b)).toArray, .agg (vals (joinS c c)).toArray] u fun e w' => e = .returned (.agg (vals (joinS (joinS a b) (joinS c c))).toArray) ∧ Below u.heap.size u w') := Lib.hid (fun u h => join_any OP.out OQ.out u h)
  have CX : Hid (∀ u, Calls Tryd.prog 13 #[.agg (vals a).toArray, .agg (vals b).toArray] u fun e w' => e = .returned (.agg (vals (joinS a b)).toArray) ∧ Below u.heap.size u w') := Lib.hid (fun u => refJoin_any OA.out OB.out u)
  obtain ⟨R, hR⟩ : ∃ R, joinS (joinS a b) (joinS c c) = R := ⟨_, rfl⟩
  obtain ⟨Q2, hQ⟩ : ∃ Q2, joinS c c = Q2 := ⟨_, rfl⟩
  obtain ⟨P, hP⟩ : ∃ P, joinS a b = P := ⟨_, rfl⟩
  rw [hR] at OR EQR F2 R3 CR
  rw [hP] at OP EQP F2 F3 B3 CP CR CX
  rw [hQ] at OQ CQ CR
  have la := Lib.hid (show (vals a).length = 32 by rw [vals_length]; exact oka.1)
  have lb := Lib.hid (show (vals b).length = 32 by rw [vals_length]; exact okb.1)
  have lc := Lib.hid (show (vals c).length = 32 by rw [vals_length]; exact okc.1)
  have lR := Lib.hid (show (vals R).length = 32 by rw [vals_length]; exact OR.out.1)
  have lz := Lib.hid (show (vals z32).length = 32 by rw [vals_length]; exact z32_ok.1)
  have e3 : Hid (gsV [a, b, c] = vals a ++ (vals b ++ vals c)) := Lib.hid (by simp [gsV])
  have e2 : Hid (gsV [a, a] = vals a ++ vals a) := Lib.hid (by simp [gsV])
  have e1 : Hid (gsV [a] = vals a) := Lib.hid (by simp [gsV])
  have ok3 : Hid (OkG [a, b, c]) := Lib.hid (OkG.app (okG_one OA.out) (OkG.app (okG_one OB.out) (okG_one OC.out)))
  have ok2 : Hid (OkG [a, a]) := Lib.hid (OkG.app (okG_one OA.out) (okG_one OA.out))
  have Z1 := Lib.hid (((Ro.new w 24 (vals z32)).alloc (.cells (vals z32).toArray 24)).alloc (.cells (vals z32).toArray 24))
  have z2 := (Ro.new (w.alloc (.cells (vals z32).toArray 24)) 24 (vals z32)).alloc (.cells (vals z32).toArray 24)
  rw [World.size_alloc] at z2
  have z3 := Ro.new ((w.alloc (.cells (vals z32).toArray 24)).alloc (.cells (vals z32).toArray 24)) 24 (vals z32)
  rw [World.size_alloc, World.size_alloc] at z3
  have Z2 := Lib.hid z2
  have Z3 := Lib.hid z3
  have b1 := (Below.refl w.heap.size w).alloc (Nat.le_refl _) (.cells (vals z32).toArray 24)
  have b2 := b1.alloc b1.size (.cells (vals z32).toArray 24)
  have GZ := Lib.hid (b2.alloc b2.size (.cells (vals z32).toArray 24))
  have hmk := run_make_bytes 64 64 64 64 rfl rfl (Nat.le_refl _) (by decide)
  clear hLd oka okb okc ne1 ne2 ha hb hc hR hP hQ z2 z3 b1 b2
  go_enter Tryd.func9, Tryd.ntmps9
  go_wp2_with (first | (refine wpList_buildR rfl 24 #[(0, .const (.int .u8 1))] rfl (vs := #[(0, .int .u8 1)]) (by simp [go_sem]) (BA _) ?_) | (refine wpList_buildR rfl 24 #[(0, .const (.int .u8 2))] rfl (vs := #[(0, .int .u8 2)]) (by simp [go_sem]) (BB _) ?_) | (refine wpList_buildR rfl 24 #[(0, .const (.int .u8 3))] rfl (vs := #[(0, .int .u8 3)]) (by simp [go_sem]) (BC _) ?_) | (refine wpList_store_ro rfl (.tmp 1) (.tmp 15) rfl rfl rfl row26 Z1.out lz.out la.out (vals_one _) ?_))
  intro w4 A4 g4
  have N2 := Lib.hid (Z2.out.far g4 (fun e => by injection e; omega))
  have N3 := Lib.hid (Z3.out.far g4 (fun e => by injection e; omega))
  have G4 := Lib.hid (GZ.out.grown g4 GZ.out.size (fun q e => by injection e; omega))
  have HA4 := Lib.hid A4
  clear A4 g4 Z1 Z2 Z3 GZ BA BB BC
  go_wp2_with (refine wpList_store_ro rfl (.tmp 2) (.tmp 16) rfl rfl rfl row26 N2.out lz.out lb.out (vals_one _) ?_)
  intro w5 B5 g5
  have HA5 := Lib.hid (HA4.out.far g5 (fun e => by injection e; omega))
  have N5 := Lib.hid (N3.out.far g5 (fun e => by injection e; omega))
  have G5 := Lib.hid (G4.out.grown g5 G4.out.size (fun q e => by injection e; omega))
  have HB5 := Lib.hid B5
  clear B5 g5 N2 N3 G4 HA4
  go_wp2_with (refine wpList_store_ro rfl (.tmp 3) (.tmp 17) rfl rfl rfl row26 N5.out lz.out lc.out (vals_one _) ?_)
  intro w6 C6 g6
  have RA := Lib.hid (HA5.out.far g6 (fun e => by injection e; omega))
  have RB := Lib.hid (HB5.out.far g6 (fun e => by injection e; omega))
  have RC := Lib.hid C6
  have BW := Lib.hid (G5.out.grown g6 G5.out.size (fun q e => by injection e; omega))
  clear C6 g6 N5 G5 HA5 HB5
  have CT : Hid (Calls Tryd.prog 14 #[.slice (some ⟨w6.heap.size, 0, none⟩) 3 3] (w6.alloc (.cells (vals a ++ (vals b ++ vals c)).toArray 24)) fun e w' => e = .returned (.agg (vals R).toArray) ∧ Below (w6.heap.size + 1) (w6.alloc (.cells (vals a ++ (vals b ++ vals c)).toArray 24)) w') := Lib.hid (by
    have q := root_any (n := 3) (c := 3) (w6.alloc (.cells (gsV [a, b, c]).toArray 24)) (HD.out.later HD.out.lt (BW.out.alloc BW.out.size _)) (by decide) ((Ro.new w6 _ (gsV [a, b, c])).gs ok3.out)
    rw [R3.out, e3.out, World.size_alloc] at q
    exact q)
  go_wp2_with (first | (refine wpList_load_ro rfl (.tmp 1) rfl rfl row26 RA.out la.out ?_) | (refine wpList_load_ro rfl (.tmp 2) rfl rfl row26 RB.out lb.out ?_) | (refine wpList_load_ro rfl (.tmp 3) rfl rfl row26 RC.out lc.out ?_) | (refine wpList_litG3 rfl (.tmp 18) (.tmp 19) (.tmp 20) rfl rfl rfl rfl la.out lb.out lc.out ?_))
  refine CT.out.mono ?_
  rintro e w8 ⟨rfl, hb8⟩
  have hb9 : Below w6.heap.size w6 w8 := ((Below.refl w6.heap.size w6).alloc (Nat.le_refl _) _).trans (hb8.mono (Nat.le_succ _))
  clear CT hb8
  replace RA := Lib.hid (RA.out.later hb9)
  replace RB := Lib.hid (RB.out.later hb9)
  replace RC := Lib.hid (RC.out.later hb9)
  replace BW := Lib.hid (BW.out.trans ((hb9).mono BW.out.size))
  clear hb9
  go_wp2_with (refine wpList_store_ro rfl (.tmp 4) (.tmp 22) rfl rfl rfl row26 (Ro.new w8 24 (vals z32)) lz.out lR.out (vals_one _) ?_)
  intro w9 R9 g9
  have hb9 := box_store g9
  have R4 := Lib.hid R9
  replace RA := Lib.hid (RA.out.later hb9)
  replace RB := Lib.hid (RB.out.later hb9)
  replace RC := Lib.hid (RC.out.later hb9)
  replace BW := Lib.hid (BW.out.trans ((hb9).mono BW.out.size))
  clear hb9 R9 g9
  have CT : Hid (Calls Tryd.prog 10 #[.slice (some ⟨w9.heap.size, 0, none⟩) 3 3, .int .i64 2] (w9.alloc (.cells (vals a ++ (vals b ++ vals c)).toArray 24)) fun e w' => ∃ A d, e = .returned (.tuple #[.slice A 2 d, .int .i64 0]) ∧ Gs w' A 2 [c, P] ∧ Below (w9.heap.size + 1) (w9.alloc (.cells (vals a ++ (vals b ++ vals c)).toArray 24)) w') := Lib.hid (by
    have q := branch_any (n := 3) (c := 3) (k := 2) (w9.alloc (.cells (gsV [a, b, c]).toArray 24)) (HD.out.later HD.out.lt (BW.out.alloc BW.out.size _)) (by decide) (by decide) ((Ro.new w9 _ (gsV [a, b, c])).gs ok3.out)
    rw [B3.out, e3.out] at q
    refine Calls.mono q ?_
    rintro e w' ⟨A, m, d, rfl, O⟩
    obtain rfl : 2 = m := O.len
    have hb := O.bel
    rw [World.size_alloc] at hb
    exact ⟨A, d, rfl, O.reads, hb⟩)
  go_wp2_with (first | (refine wpList_load_ro rfl (.tmp 1) rfl rfl row26 RA.out la.out ?_) | (refine wpList_load_ro rfl (.tmp 2) rfl rfl row26 RB.out lb.out ?_) | (refine wpList_load_ro rfl (.tmp 3) rfl rfl row26 RC.out lc.out ?_) | (refine wpList_litG3 rfl (.tmp 24) (.tmp 25) (.tmp 26) rfl rfl rfl rfl la.out lb.out lc.out ?_))
  refine CT.out.mono ?_
  rintro e wb ⟨A, d, rfl, gl, hb8⟩
  have hb9 : Below w9.heap.size w9 wb := ((Below.refl w9.heap.size w9).alloc (Nat.le_refl _) _).trans (hb8.mono (Nat.le_succ _))
  have GL := Lib.hid gl
  clear CT hb8 gl
  replace RA := Lib.hid (RA.out.later hb9)
  replace RB := Lib.hid (RB.out.later hb9)
  replace RC := Lib.hid (RC.out.later hb9)
  replace R4 := Lib.hid (R4.out.later hb9)
  replace BW := Lib.hid (BW.out.trans ((hb9).mono BW.out.size))
  clear hb9
  obtain ⟨bl, ol, rfl, hbl, _⟩ := GL.out.cel (by decide)
  have ad := add_at bl ol
  have g0 := Lib.hid ((GL.out.at_ (k := 0) (by decide)).2)
  have g1 := Lib.hid ((GL.out.at_ (k := 1) (by decide)).2)
  rw [show nt [c, P] 0 = c from rfl, Nat.zero_mul, Nat.add_zero] at g0
  rw [show nt [c, P] 1 = P from rfl] at g1
  have lbl : Hid (bl < wb.heap.size) := Lib.hid hbl
  have lP := Lib.hid (show (vals P).length = 32 by rw [vals_length]; exact OP.out.1)
  clear hbl
  go_wp2_with fail
  refine wp_region_after (by kernel_rfl) (by kernel_rfl) ?_
  have CJ : Hid (∀ u : After wb, Calls Tryd.prog 12 #[.agg (vals a).toArray, .agg (vals b).toArray] u.w fun e w' => e = .returned (.agg (vals P).toArray) ∧ Below u.w.heap.size u.w w') := Lib.hid (fun u => CP.out u.w (HD.out.later HD.out.lt (BW.out.trans (u.below.mono BW.out.size))))
  repeat (go_big_quiet_step (fail))
  go_big_quiet_want
  refine quiet_load_part (.tmp 40) rfl rfl row26 (fun w9 h9 => by obtain ⟨u, rfl⟩ := h9; exact range_later g0.out lbl.out u.below) lc.out ?_
  simp only [Act.put, List.setIfInBounds_toArray, List.set_cons_succ, List.set_cons_zero]
  go_big_quiet_on
  go_big_quiet_want
  refine quiet_load_part (.tmp 3) rfl rfl row26 (fun w9 h9 => by obtain ⟨u, rfl⟩ := h9; exact range_later (rangeOf RC.out) RC.out.lt u.below) lc.out ?_
  simp only [Act.put, List.setIfInBounds_toArray, List.set_cons_succ, List.set_cons_zero]
  go_big_quiet_on
  repeat (go_big_quiet_step (fail))
  go_big_quiet_want
  refine quiet_load_part (.tmp 47) rfl rfl row26 (fun w9 h9 => by obtain ⟨u, rfl⟩ := h9; exact range_later g1.out lbl.out u.below) lP.out ?_
  simp only [Act.put, List.setIfInBounds_toArray, List.set_cons_succ, List.set_cons_zero]
  go_big_quiet_on
  go_big_quiet_want
  refine quiet_load_part (.tmp 1) rfl rfl row26 (fun w9 h9 => by obtain ⟨u, rfl⟩ := h9; exact range_later (rangeOf RA.out) RA.out.lt u.below) la.out ?_
  simp only [Act.put, List.setIfInBounds_toArray, List.set_cons_succ, List.set_cons_zero]
  go_big_quiet_on
  go_big_quiet_want
  refine quiet_load_part (.tmp 2) rfl rfl row26 (fun w9 h9 => by obtain ⟨u, rfl⟩ := h9; exact range_later (rangeOf RB.out) RB.out.lt u.below) lb.out ?_
  simp only [Act.put, List.setIfInBounds_toArray, List.set_cons_succ, List.set_cons_zero]
  go_big_quiet_on
  go_big_quiet_step (exact after_call (CJ.out _))
  repeat (go_big_quiet_step (fail))
  refine wpQuiet_nil ?_
  rintro wc ⟨u, hu⟩
  have hb9 : Below wb.heap.size wb wc := by rw [hu]; exact u.below
  clear hu u CJ g0 g1 lbl
  replace RA := Lib.hid (RA.out.later hb9)
  replace RB := Lib.hid (RB.out.later hb9)
  replace RC := Lib.hid (RC.out.later hb9)
  replace R4 := Lib.hid (R4.out.later hb9)
  replace GL := Lib.hid (GL.out.later hb9)
  replace BW := Lib.hid (BW.out.trans ((hb9).mono BW.out.size))
  clear hb9
  have CT : Hid (Calls Tryd.prog 19 #[.agg (vals c).toArray, .slice (some ⟨bl, ol, none⟩) 2 d, .int .i64 2] wc fun e w' => e = .returned (.tuple #[.agg (vals R).toArray, .int .i64 0]) ∧ Below wc.heap.size wc w') := Lib.hid (by
    have q := fold_any (c := d) (k := 2) (x := c) wc (HD.out.later HD.out.lt BW.out) OC.out (by decide) (by decide) (by decide) GL.out
    rw [F2.out] at q
    exact q)
  go_wp2_with (refine wpList_load_ro rfl (.tmp 3) rfl rfl row26 RC.out lc.out ?_)
  refine CT.out.mono ?_
  rintro e wd ⟨rfl, hb9⟩
  clear CT
  replace RA := Lib.hid (RA.out.later hb9)
  replace RB := Lib.hid (RB.out.later hb9)
  replace RC := Lib.hid (RC.out.later hb9)
  replace R4 := Lib.hid (R4.out.later hb9)
  replace GL := Lib.hid (GL.out.later hb9)
  replace BW := Lib.hid (BW.out.trans ((hb9).mono BW.out.size))
  clear hb9
  go_wp2_with (refine wpList_store_ro rfl (.tmp 7) (.tmp 58) rfl rfl rfl row26 (Ro.new wd 24 (vals z32)) lz.out lR.out (vals_one _) ?_)
  intro we RX gX
  have hb9 := box_store gX
  have R7 := Lib.hid RX
  replace RA := Lib.hid (RA.out.later hb9)
  replace RB := Lib.hid (RB.out.later hb9)
  replace RC := Lib.hid (RC.out.later hb9)
  replace R4 := Lib.hid (R4.out.later hb9)
  replace GL := Lib.hid (GL.out.later hb9)
  replace BW := Lib.hid (BW.out.trans ((hb9).mono BW.out.size))
  clear hb9 RX gX
  have CT : Hid (Calls Tryd.prog 19 #[.agg (vals c).toArray, .slice (some ⟨bl, ol, none⟩) 2 d, .int .i64 3] we fun e w' => e = .returned (.tuple #[.agg (vals z32).toArray, .int .i64 15]) ∧ Below we.heap.size we w') := Lib.hid (by
    have q := fold_any (c := d) (k := 3) (x := c) we (HD.out.later HD.out.lt BW.out) OC.out (by decide) (by decide) (by decide) GL.out
    rw [F3.out] at q
    exact q)
  go_wp2_with (refine wpList_load_ro rfl (.tmp 3) rfl rfl row26 RC.out lc.out ?_)
  refine CT.out.mono ?_
  rintro e wf ⟨rfl, hb9⟩
  clear CT
  replace RA := Lib.hid (RA.out.later hb9)
  replace RB := Lib.hid (RB.out.later hb9)
  replace RC := Lib.hid (RC.out.later hb9)
  replace R4 := Lib.hid (R4.out.later hb9)
  replace GL := Lib.hid (GL.out.later hb9)
  replace R7 := Lib.hid (R7.out.later hb9)
  replace BW := Lib.hid (BW.out.trans ((hb9).mono BW.out.size))
  clear hb9
  go_wp2_with (refine wpList_store_ro rfl (.tmp 9) (.tmp 64) rfl rfl rfl row26 (Ro.new wf 24 (vals z32)) lz.out lz.out (vals_one _) ?_)
  intro wg RX gX
  have hb9 := box_store gX
  replace RA := Lib.hid (RA.out.later hb9)
  replace RB := Lib.hid (RB.out.later hb9)
  replace RC := Lib.hid (RC.out.later hb9)
  replace R4 := Lib.hid (R4.out.later hb9)
  replace GL := Lib.hid (GL.out.later hb9)
  replace R7 := Lib.hid (R7.out.later hb9)
  replace BW := Lib.hid (BW.out.trans ((hb9).mono BW.out.size))
  clear hb9 RX gX
  have CT : Hid (Calls Tryd.prog 19 #[.agg (vals c).toArray, .slice (some ⟨bl, ol, none⟩) 2 d, .int .i64 4] wg fun e w' => e = .returned (.tuple #[.agg (vals z32).toArray, .int .i64 1]) ∧ Below wg.heap.size wg w') := Lib.hid (by
    have q := fold_far (A := some ⟨bl, ol, none⟩) (n := 2) (c := d) (k := 4) (x := c) wg (by decide) (by decide) (by decide)
    exact q
    )
  go_wp2_with (refine wpList_load_ro rfl (.tmp 3) rfl rfl row26 RC.out lc.out ?_)
  refine CT.out.mono ?_
  rintro e wh ⟨rfl, hb9⟩
  clear CT
  replace RA := Lib.hid (RA.out.later hb9)
  replace RB := Lib.hid (RB.out.later hb9)
  replace RC := Lib.hid (RC.out.later hb9)
  replace R4 := Lib.hid (R4.out.later hb9)
  replace GL := Lib.hid (GL.out.later hb9)
  replace R7 := Lib.hid (R7.out.later hb9)
  replace BW := Lib.hid (BW.out.trans ((hb9).mono BW.out.size))
  clear hb9
  go_wp2_with (refine wpList_store_ro rfl (.tmp 11) (.tmp 70) rfl rfl rfl row26 (Ro.new wh 24 (vals z32)) lz.out lz.out (vals_one _) ?_)
  intro wi RX gX
  have hb9 := box_store gX
  replace RA := Lib.hid (RA.out.later hb9)
  replace RB := Lib.hid (RB.out.later hb9)
  replace RC := Lib.hid (RC.out.later hb9)
  replace R4 := Lib.hid (R4.out.later hb9)
  replace GL := Lib.hid (GL.out.later hb9)
  replace R7 := Lib.hid (R7.out.later hb9)
  replace BW := Lib.hid (BW.out.trans ((hb9).mono BW.out.size))
  clear hb9 RX gX
  have CT : Hid (Calls Tryd.prog 21 #[.slice (some ⟨wi.heap.size, 0, none⟩) 64 64] (wi.alloc (.cells (vals (List.replicate 64 0)).toArray 5)) fun e w' => e = .returned (.tuple #[.agg (vals z32).toArray, .int .i64 15]) ∧ Below (wi.heap.size + 1) (wi.alloc (.cells (vals (List.replicate 64 0)).toArray 5)) w') := Lib.hid (by
    have q := leaf_any (c := 64) (wi.alloc (.cells (vals (List.replicate 64 0)).toArray 5)) (HD.out.later HD.out.lt (BW.out.alloc BW.out.size _)) (by decide) (Nat.le_refl _) (Bs.lit wi (List.replicate 64 0) (fun x hx => by rw [List.eq_of_mem_replicate hx]; decide))
    rw [World.size_alloc] at q
    exact q)
  go_wp2_with fail
  refine CT.out.mono ?_
  rintro e wj ⟨rfl, hb8⟩
  have hb9 : Below wi.heap.size wi wj := ((Below.refl wi.heap.size wi).alloc (Nat.le_refl _) _).trans (hb8.mono (Nat.le_succ _))
  clear CT hb8 GL hmk
  replace RA := Lib.hid (RA.out.later hb9)
  replace RB := Lib.hid (RB.out.later hb9)
  replace RC := Lib.hid (RC.out.later hb9)
  replace R4 := Lib.hid (R4.out.later hb9)
  replace R7 := Lib.hid (R7.out.later hb9)
  replace BW := Lib.hid (BW.out.trans ((hb9).mono BW.out.size))
  clear hb9
  go_wp2_with (refine wpList_store_ro rfl (.tmp 13) (.tmp 75) rfl rfl rfl row26 (Ro.new wj 24 (vals z32)) lz.out lz.out (vals_one _) ?_)
  intro wk RX gX
  have hb9 := box_store gX
  replace RA := Lib.hid (RA.out.later hb9)
  replace RB := Lib.hid (RB.out.later hb9)
  replace RC := Lib.hid (RC.out.later hb9)
  replace R4 := Lib.hid (R4.out.later hb9)
  replace R7 := Lib.hid (R7.out.later hb9)
  replace BW := Lib.hid (BW.out.trans ((hb9).mono BW.out.size))
  clear hb9 RX gX ad
  go_wp2_with fail
  refine wp_region_seg (W := wk) (by kernel_rfl) fun wa ga => ?_
  refine wpK_seg 0 32 (f := 29) (by kernel_rfl) (fun _ _ _ _ _ h => h) (by kernel_rfl) (by kernel_rfl) (by kernel_rfl) ga ?_
  apply Exists.intro
  refine ⟨?_, ?_⟩
  · intro wg2 hg
    simp only [List.drop_zero, List.take_succ_cons, List.take_zero]
    have RAg := Lib.hid (RA.out.later hg)
    have RBg := Lib.hid (RB.out.later hg)
    have RCg := Lib.hid (RC.out.later hg)
    have R4g := Lib.hid (R4.out.later hg)
    have R7g := Lib.hid (R7.out.later hg)
    have LD : Hid (∀ u : After wg2, Laid u.w) := Lib.hid (fun u => HD.out.later HD.out.lt ((BW.out.trans (hg.mono BW.out.size)).trans (u.below.mono (Nat.le_trans BW.out.size hg.size))))
    go_big_quiet_want
    refine quiet_load_part (.tmp 7) rfl rfl row26 (fun w9 h9 => by obtain ⟨u, rfl⟩ := h9; exact range_later (rangeOf R7g.out) R7g.out.lt u.below) lR.out ?_
    simp only [Act.put, List.setIfInBounds_toArray, List.set_cons_succ, List.set_cons_zero]
    go_big_quiet_on
    go_big_quiet_want
    refine quiet_load_part (.tmp 4) rfl rfl row26 (fun w9 h9 => by obtain ⟨u, rfl⟩ := h9; exact range_later (rangeOf R4g.out) R4g.out.lt u.below) lR.out ?_
    simp only [Act.put, List.setIfInBounds_toArray, List.set_cons_succ, List.set_cons_zero]
    go_big_quiet_on
    repeat (go_big_quiet_step (fail))
    go_big_quiet_want
    refine quiet_load_part (.tmp 4) rfl rfl row26 (fun w9 h9 => by obtain ⟨u, rfl⟩ := h9; exact range_later (rangeOf R4g.out) R4g.out.lt u.below) lR.out ?_
    simp only [Act.put, List.setIfInBounds_toArray, List.set_cons_succ, List.set_cons_zero]
    go_big_quiet_on
    go_big_quiet_want
    refine quiet_load_part (.tmp 1) rfl rfl row26 (fun w9 h9 => by obtain ⟨u, rfl⟩ := h9; exact range_later (rangeOf RAg.out) RAg.out.lt u.below) la.out ?_
    simp only [Act.put, List.setIfInBounds_toArray, List.set_cons_succ, List.set_cons_zero]
    go_big_quiet_on
    go_big_quiet_want
    refine quiet_load_part (.tmp 2) rfl rfl row26 (fun w9 h9 => by obtain ⟨u, rfl⟩ := h9; exact range_later (rangeOf RBg.out) RBg.out.lt u.below) lb.out ?_
    simp only [Act.put, List.setIfInBounds_toArray, List.set_cons_succ, List.set_cons_zero]
    go_big_quiet_on
    go_big_quiet_step (exact after_call (CP.out _ (LD.out _)))
    go_big_quiet_want
    refine quiet_load_part (.tmp 3) rfl rfl row26 (fun w9 h9 => by obtain ⟨u, rfl⟩ := h9; exact range_later (rangeOf RCg.out) RCg.out.lt u.below) lc.out ?_
    simp only [Act.put, List.setIfInBounds_toArray, List.set_cons_succ, List.set_cons_zero]
    go_big_quiet_on
    go_big_quiet_want
    refine quiet_load_part (.tmp 3) rfl rfl row26 (fun w9 h9 => by obtain ⟨u, rfl⟩ := h9; exact range_later (rangeOf RCg.out) RCg.out.lt u.below) lc.out ?_
    simp only [Act.put, List.setIfInBounds_toArray, List.set_cons_succ, List.set_cons_zero]
    go_big_quiet_on
    go_big_quiet_step (exact after_call (CQ.out _ (LD.out _)))
    go_big_quiet_step (exact after_call (CR.out _ (LD.out _)))
    repeat (go_big_quiet_step (fail))
    go_big_quiet_want
    refine quiet_load_part (.tmp 1) rfl rfl row26 (fun w9 h9 => by obtain ⟨u, rfl⟩ := h9; exact range_later (rangeOf RAg.out) RAg.out.lt u.below) la.out ?_
    simp only [Act.put, List.setIfInBounds_toArray, List.set_cons_succ, List.set_cons_zero]
    go_big_quiet_on
    refine wpQuiet_nil ?_
    exact rfl
  refine wpK_seg 34 1 (f := 28) (by kernel_rfl) (fun _ _ _ _ _ h => h) (by kernel_rfl) (by kernel_rfl) (by kernel_rfl) ga ?_
  apply Exists.intro
  refine ⟨?_, ?_⟩
  · intro wg2 hg
    simp only [List.drop_succ_cons, List.drop_zero, List.take_succ_cons, List.take_zero]
    have RAg := Lib.hid (RA.out.later hg)
    have RBg := Lib.hid (RB.out.later hg)
    have RCg := Lib.hid (RC.out.later hg)
    have LD : Hid (∀ u : After wg2, Laid u.w) := Lib.hid (fun u => HD.out.later HD.out.lt ((BW.out.trans (hg.mono BW.out.size)).trans (u.below.mono (Nat.le_trans BW.out.size hg.size))))
    go_big_quiet_want
    refine quiet_load_part (.tmp 1) rfl rfl row26 (fun w9 h9 => by obtain ⟨u, rfl⟩ := h9; exact range_later (rangeOf RAg.out) RAg.out.lt u.below) la.out ?_
    simp only [Act.put, List.setIfInBounds_toArray, List.set_cons_succ, List.set_cons_zero]
    go_big_quiet_on
    refine wpQuiet_nil ?_
    exact rfl
  refine wpK_call_want (f := 27) (i := 32) (by kernel_rfl) rfl (by rfl) ga ?_
  intro wb2 gb K hK
  refine wp_litG (d := some 109) rfl (.tmp 108) rfl rfl la.out ?_
  simp only [Act.put, List.setIfInBounds_toArray, List.set_cons_succ, List.set_cons_zero]
  have GN := Lib.hid (Grows.trans gb ((Below.refl wb2.heap.size wb2).alloc (Nat.le_refl _) (.cells (vals a).toArray 24)))
  refine hK _ _ ((Below.refl wb2.heap.size wb2).alloc (Nat.le_refl _) (.cells (vals a).toArray 24)) ?_
  clear hK K ga
  refine wpK_from GN.out _ _ _ _ ?_
  have HN := Lib.hid (Ro.new wb2 24 (vals a))
  obtain ⟨wn, hwn⟩ : ∃ wn, wn = wb2.alloc (.cells (vals a).toArray 24) := ⟨_, rfl⟩
  rw [← hwn] at GN HN ⊢
  rw [← e1.out] at HN
  obtain ⟨kwn, hkwn⟩ : ∃ k, wb2.heap.size = k := ⟨_, rfl⟩
  rw [hkwn] at HN ⊢
  clear hwn hkwn gb
  replace RA := Lib.hid (RA.out.later GN.out)
  replace RB := Lib.hid (RB.out.later GN.out)
  replace RC := Lib.hid (RC.out.later GN.out)
  replace BW := Lib.hid (BW.out.trans ((GN.out).mono BW.out.size))
  have ga := Grows.refl wn
  clear GN
  refine wpK_seg 33 1 (f := 26) (by kernel_rfl) (fun _ _ _ _ _ h => h) (by kernel_rfl) (by kernel_rfl) (by kernel_rfl) ga ?_
  apply Exists.intro
  refine ⟨?_, ?_⟩
  · intro wg2 hg
    simp only [List.drop_succ_cons, List.drop_zero, List.take_succ_cons, List.take_zero]
    have RAg := Lib.hid (RA.out.later hg)
    have RBg := Lib.hid (RB.out.later hg)
    have RCg := Lib.hid (RC.out.later hg)
    have LD : Hid (∀ u : After wg2, Laid u.w) := Lib.hid (fun u => HD.out.later HD.out.lt ((BW.out.trans (hg.mono BW.out.size)).trans (u.below.mono (Nat.le_trans BW.out.size hg.size))))
    have CT : Hid (∀ u : After wg2, Calls Tryd.prog 14 #[.slice (some ⟨kwn, 0, none⟩) 1 1] u.w fun e w' => e = .returned (.agg (vals a).toArray) ∧ Below u.w.heap.size u.w w') := Lib.hid (fun u => by
      have q := root_any (n := 1) (c := 1) u.w (LD.out u) (by decide) (((HN.out.later hg).later u.below).gs (okG_one OA.out))
      rw [R1.out] at q
      exact q)
    go_big_quiet_step (exact after_call (CT.out _))
    refine wpQuiet_nil ?_
    exact rfl
  refine wpK_seg 35 15 (f := 11) (by kernel_rfl) (fun _ _ _ _ _ h => h) (by kernel_rfl) (by kernel_rfl) (by kernel_rfl) ga ?_
  apply Exists.intro
  refine ⟨?_, ?_⟩
  · intro wg2 hg
    simp only [List.drop_succ_cons, List.drop_zero, List.take_succ_cons, List.take_zero]
    have RAg := Lib.hid (RA.out.later hg)
    have RBg := Lib.hid (RB.out.later hg)
    have RCg := Lib.hid (RC.out.later hg)
    have LD : Hid (∀ u : After wg2, Laid u.w) := Lib.hid (fun u => HD.out.later HD.out.lt ((BW.out.trans (hg.mono BW.out.size)).trans (u.below.mono (Nat.le_trans BW.out.size hg.size))))
    repeat (go_big_quiet_step (fail))
    go_big_quiet_want
    refine quiet_load_part (.tmp 1) rfl rfl row26 (fun w9 h9 => by obtain ⟨u, rfl⟩ := h9; exact range_later (rangeOf RAg.out) RAg.out.lt u.below) la.out ?_
    simp only [Act.put, List.setIfInBounds_toArray, List.set_cons_succ, List.set_cons_zero]
    go_big_quiet_on
    go_big_quiet_want
    refine quiet_load_part (.tmp 2) rfl rfl row26 (fun w9 h9 => by obtain ⟨u, rfl⟩ := h9; exact range_later (rangeOf RBg.out) RBg.out.lt u.below) lb.out ?_
    simp only [Act.put, List.setIfInBounds_toArray, List.set_cons_succ, List.set_cons_zero]
    go_big_quiet_on
    go_big_quiet_step (exact after_call (CP.out _ (LD.out _)))
    go_big_quiet_want
    refine quiet_load_part (.tmp 1) rfl rfl row26 (fun w9 h9 => by obtain ⟨u, rfl⟩ := h9; exact range_later (rangeOf RAg.out) RAg.out.lt u.below) la.out ?_
    simp only [Act.put, List.setIfInBounds_toArray, List.set_cons_succ, List.set_cons_zero]
    go_big_quiet_on
    go_big_quiet_want
    refine quiet_load_part (.tmp 2) rfl rfl row26 (fun w9 h9 => by obtain ⟨u, rfl⟩ := h9; exact range_later (rangeOf RBg.out) RBg.out.lt u.below) lb.out ?_
    simp only [Act.put, List.setIfInBounds_toArray, List.set_cons_succ, List.set_cons_zero]
    go_big_quiet_on
    go_big_quiet_step (exact after_call (CX.out _))
    repeat (go_big_quiet_step (fail))
    go_big_quiet_want
    refine quiet_load_part (.tmp 1) rfl rfl row26 (fun w9 h9 => by obtain ⟨u, rfl⟩ := h9; exact range_later (rangeOf RAg.out) RAg.out.lt u.below) la.out ?_
    simp only [Act.put, List.setIfInBounds_toArray, List.set_cons_succ, List.set_cons_zero]
    go_big_quiet_on
    go_big_quiet_want
    refine quiet_load_part (.tmp 2) rfl rfl row26 (fun w9 h9 => by obtain ⟨u, rfl⟩ := h9; exact range_later (rangeOf RBg.out) RBg.out.lt u.below) lb.out ?_
    simp only [Act.put, List.setIfInBounds_toArray, List.set_cons_succ, List.set_cons_zero]
    go_big_quiet_on
    go_big_quiet_want
    refine quiet_load_part (.tmp 3) rfl rfl row26 (fun w9 h9 => by obtain ⟨u, rfl⟩ := h9; exact range_later (rangeOf RCg.out) RCg.out.lt u.below) lc.out ?_
    simp only [Act.put, List.setIfInBounds_toArray, List.set_cons_succ, List.set_cons_zero]
    go_big_quiet_on
    refine wpQuiet_nil ?_
    exact rfl
  clear HN
  refine wpK_call_want (f := 10) (i := 50) (by kernel_rfl) rfl (by rfl) ga ?_
  intro wb2 gb K hK
  refine wp_litG3 (d := some 127) rfl (.tmp 124) (.tmp 125) (.tmp 126) rfl rfl rfl rfl la.out lb.out lc.out ?_
  simp only [Act.put, List.setIfInBounds_toArray, List.set_cons_succ, List.set_cons_zero]
  have GN := Lib.hid (Grows.trans gb ((Below.refl wb2.heap.size wb2).alloc (Nat.le_refl _) (.cells (vals a ++ (vals b ++ vals c)).toArray 24)))
  refine hK _ _ ((Below.refl wb2.heap.size wb2).alloc (Nat.le_refl _) (.cells (vals a ++ (vals b ++ vals c)).toArray 24)) ?_
  clear hK K ga
  refine wpK_from GN.out _ _ _ _ ?_
  have HN := Lib.hid (Ro.new wb2 24 (vals a ++ (vals b ++ vals c)))
  obtain ⟨wo, hwn⟩ : ∃ wo, wo = wb2.alloc (.cells (vals a ++ (vals b ++ vals c)).toArray 24) := ⟨_, rfl⟩
  rw [← hwn] at GN HN ⊢
  rw [← e3.out] at HN
  obtain ⟨kwo, hkwo⟩ : ∃ k, wb2.heap.size = k := ⟨_, rfl⟩
  rw [hkwo] at HN ⊢
  clear hwn hkwo gb
  replace RA := Lib.hid (RA.out.later GN.out)
  replace RB := Lib.hid (RB.out.later GN.out)
  replace RC := Lib.hid (RC.out.later GN.out)
  replace BW := Lib.hid (BW.out.trans ((GN.out).mono BW.out.size))
  have ga := Grows.refl wo
  clear GN
  refine wpK_seg 51 6 (f := 4) (by kernel_rfl) (fun _ _ _ _ _ h => h) (by kernel_rfl) (by kernel_rfl) (by kernel_rfl) ga ?_
  apply Exists.intro
  refine ⟨?_, ?_⟩
  · intro wg2 hg
    simp only [List.drop_succ_cons, List.drop_zero, List.take_succ_cons, List.take_zero]
    have RAg := Lib.hid (RA.out.later hg)
    have RBg := Lib.hid (RB.out.later hg)
    have RCg := Lib.hid (RC.out.later hg)
    have LD : Hid (∀ u : After wg2, Laid u.w) := Lib.hid (fun u => HD.out.later HD.out.lt ((BW.out.trans (hg.mono BW.out.size)).trans (u.below.mono (Nat.le_trans BW.out.size hg.size))))
    have CT : Hid (∀ u : After wg2, Calls Tryd.prog 17 #[.slice (some ⟨kwo, 0, none⟩) 3 3] u.w fun e w' => e = .returned (.bool false) ∧ Below u.w.heap.size u.w w') := Lib.hid (fun u => by
      have q := doubled_any (n := 3) (c := 3) u.w (LD.out u) (by decide) (((HN.out.later hg).later u.below).gs ok3.out)
      rw [T3.out] at q
      exact q)
    go_big_quiet_step (exact after_call (CT.out _))
    repeat (go_big_quiet_step (fail))
    go_big_quiet_want
    refine quiet_load_part (.tmp 1) rfl rfl row26 (fun w9 h9 => by obtain ⟨u, rfl⟩ := h9; exact range_later (rangeOf RAg.out) RAg.out.lt u.below) la.out ?_
    simp only [Act.put, List.setIfInBounds_toArray, List.set_cons_succ, List.set_cons_zero]
    go_big_quiet_on
    go_big_quiet_want
    refine quiet_load_part (.tmp 1) rfl rfl row26 (fun w9 h9 => by obtain ⟨u, rfl⟩ := h9; exact range_later (rangeOf RAg.out) RAg.out.lt u.below) la.out ?_
    simp only [Act.put, List.setIfInBounds_toArray, List.set_cons_succ, List.set_cons_zero]
    go_big_quiet_on
    refine wpQuiet_nil ?_
    exact rfl
  clear HN
  refine wpK_call_want (f := 3) (i := 57) (by kernel_rfl) rfl (by rfl) ga ?_
  intro wb2 gb K hK
  refine wp_litG2 (d := some 134) rfl (.tmp 132) (.tmp 133) rfl rfl rfl la.out la.out ?_
  simp only [Act.put, List.setIfInBounds_toArray, List.set_cons_succ, List.set_cons_zero]
  have GN := Lib.hid (Grows.trans gb ((Below.refl wb2.heap.size wb2).alloc (Nat.le_refl _) (.cells (vals a ++ vals a).toArray 24)))
  refine hK _ _ ((Below.refl wb2.heap.size wb2).alloc (Nat.le_refl _) (.cells (vals a ++ vals a).toArray 24)) ?_
  clear hK K ga
  refine wpK_from GN.out _ _ _ _ ?_
  have HN := Lib.hid (Ro.new wb2 24 (vals a ++ vals a))
  obtain ⟨wp, hwn⟩ : ∃ wp, wp = wb2.alloc (.cells (vals a ++ vals a).toArray 24) := ⟨_, rfl⟩
  rw [← hwn] at GN HN ⊢
  rw [← e2.out] at HN
  obtain ⟨kwp, hkwp⟩ : ∃ k, wb2.heap.size = k := ⟨_, rfl⟩
  rw [hkwp] at HN ⊢
  clear hwn hkwp gb
  replace RA := Lib.hid (RA.out.later GN.out)
  replace RB := Lib.hid (RB.out.later GN.out)
  replace RC := Lib.hid (RC.out.later GN.out)
  replace BW := Lib.hid (BW.out.trans ((GN.out).mono BW.out.size))
  have ga := Grows.refl wp
  clear GN
  refine wpK_seg 58 3 (f := 0) (by kernel_rfl) (fun _ _ _ _ _ h => h) (by kernel_rfl) (by kernel_rfl) (by kernel_rfl) ga ?_
  apply Exists.intro
  refine ⟨?_, ?_⟩
  · intro wg2 hg
    simp only [List.drop_succ_cons, List.drop_zero, List.take_succ_cons, List.take_zero]
    have RAg := Lib.hid (RA.out.later hg)
    have RBg := Lib.hid (RB.out.later hg)
    have RCg := Lib.hid (RC.out.later hg)
    have LD : Hid (∀ u : After wg2, Laid u.w) := Lib.hid (fun u => HD.out.later HD.out.lt ((BW.out.trans (hg.mono BW.out.size)).trans (u.below.mono (Nat.le_trans BW.out.size hg.size))))
    have CT : Hid (∀ u : After wg2, Calls Tryd.prog 17 #[.slice (some ⟨kwp, 0, none⟩) 2 2] u.w fun e w' => e = .returned (.bool true) ∧ Below u.w.heap.size u.w w') := Lib.hid (fun u => by
      have q := doubled_any (n := 2) (c := 2) u.w (LD.out u) (by decide) (((HN.out.later hg).later u.below).gs ok2.out)
      rw [T2.out] at q
      exact q)
    go_big_quiet_step (exact after_call (CT.out _))
    repeat (go_big_quiet_step (fail))
    refine wpQuiet_nil ?_
    exact rfl
  refine wpK_end (by kernel_rfl) fun wz gz => ?_
  have BZ := Lib.hid (BW.out.trans (gz.mono BW.out.size))
  go_wp2_with fail
  go_ret
  exact ⟨rfl, BZ.out⟩
end Go.Proofs.YtdenibigefchpaaDoor
