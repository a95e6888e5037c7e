/- The document's example holds: the statements' anchor. No condition but that the tables lie as laid. -/
import Derived.Test.YtbdjcbdnhaddoaaDoorGw
import Derived.Test.YtbdjcbdnhaddoaaDoorRefP
namespace Go.Proofs.YtbdjcbdnhaddoaaDoor
open Go.RowKit

set_option maxRecDepth 100000 in
set_option maxHeartbeats 8000000 in
theorem works_any (w : World) (hLd : Laid w) : Calls Tryd.prog 12 #[] w fun e w' => e = .returned (.bool true) ∧ Below w.heap.size w w' := by
  have HD := Lib.hid hLd
  have z0 := zeroTx
  have CS := Lib.hid (small_any w)
  have EP := ex_put
  have BB : AllB (putS (smallT [81])) := putS_byt (smallT_ok _ (allB_one (by decide)))
  have BL := ex_len
  have EG := ex_get
  have EC := ex_cut
  have EB := ex_bare
  obtain ⟨B, hB⟩ : ∃ B, putS (smallT [81]) = B := ⟨_, rfl⟩
  rw [hB] at EP BB BL EG EC EB
  have HB := Lib.hid hB
  have HBB := Lib.hid BB
  have HBL := Lib.hid BL
  have HEG := Lib.hid EG
  have HEC := Lib.hid EC
  have HEB := Lib.hid EB
  have HEP := Lib.hid EP
  clear hLd hB EP BB BL EG EC EB
  go_enter Tryd.func12, Tryd.ntmps12
  go_wp2_with (first | (go_at_call 28; refine CS.out.mono ?_; rintro e w1 ⟨g1, g2, g3, rfl, S1, Q1, hg3, B1⟩; have HG3 := Lib.hid hg3; clear hg3; have HS1 := Lib.hid S1; have HQ1 := Lib.hid Q1; have HB1 := Lib.hid B1; clear S1 Q1 B1 CS) | (refine wpList_store_ro rfl (.tmp 1) (.tmp 8) rfl (vs := txV 1 (some ⟨g1, 0, none⟩) 1 1 (some ⟨g2, 0, none⟩) 1 1 0) rfl rfl rowTx (Ro.new w1 26 zTx) rfl rfl (txV_one _ _ _ _ _ _ _ _) ?_))
  intro w2 R2 g2'
  have b2 := box_store g2'
  have P2 := Lib.hid R2
  have S2 := Lib.hid (HS1.out.later b2)
  have Q2 := Lib.hid (HQ1.out.later b2)
  have W2 := Lib.hid (HB1.out.trans (b2.mono HB1.out.size))
  have T2 : Hid (TxG w2 (fun b => w.heap.size ≤ b) (smallT [81]) (some ⟨g1, 0, none⟩) 1 1 (some ⟨g2, 0, none⟩) 1 1) := Lib.hid (S2.out.tx (ws := []) (Rows.nil _ _ _ _ _) (Nat.le_refl _) (by decide) (fun x hx => by cases hx) (Q2.out.inp HG3.out.1) (Nat.le_refl _) (by decide))
  obtain ⟨p, hp⟩ : ∃ p, w1.heap.size = p := ⟨_, rfl⟩
  have gp : Hid (g1 < p ∧ g2 < p ∧ g3 < p ∧ w.heap.size ≤ p) := Lib.hid ⟨by rw [← hp]; exact HS1.out.i.lt, by rw [← hp]; exact HS1.out.o.lt, by rw [← hp]; exact bs_lt HQ1.out (by decide) rfl, by rw [← hp]; exact HB1.out.size⟩
  rw [hp] at P2 ⊢
  clear R2 g2' b2 hp HS1 HQ1 HB1
  have CP : Hid (Calls Tryd.prog 13 #[.agg (txV 1 (some ⟨g1, 0, none⟩) 1 1 (some ⟨g2, 0, none⟩) 1 1 0).toArray] w2 (GivesB w2 B)) := Lib.hid (by
    have := txPut_any (t := smallT [81]) w2 ex_w1 T2.out.r
    rw [HB.out] at this
    exact this)
  go_wp2_with (first | (go_at_call 13; refine CP.out.mono ?_) | (refine wpList_load_part rfl (.tmp 1) rfl rfl rowTx P2.out.whole rfl ?_))
  rintro e w3 ⟨A3, n3, c3, rfl, hc3, O3⟩
  obtain rfl : 61 = n3 := HBL.out.symm.trans O3.len
  obtain ⟨g, hg⟩ : ∃ g, A3 = some ⟨g, 0, none⟩ := by
    obtain ⟨g, cap, hv, _, _⟩ := O3.row.form (by decide)
    injection hv with hv
    exact ⟨g, hv⟩
  subst hg
  have R3 := O3.reads
  have ck : ∀ k, k < 61 → w3.cell? ⟨g, k, none⟩ = some (.int .u8 (nth B k : Nat)) := fun k hk => by
    obtain ⟨a, e, _, h⟩ := R3.cel (by decide)
    injection e with e
    subst e
    have := h k hk
    rwa [show (⟨g, 0, none⟩ : Addr).add k = ⟨g, k, none⟩ by unfold Addr.add; split <;> simp_all] at this
  have c0 : w3.cell? ⟨g, 0, none⟩ = some (.int .u8 1) := by have h := ck 0 (by decide); rw [HEP.out] at h; exact h
  have c4 : w3.cell? ⟨g, 4, none⟩ = some (.int .u8 1) := by have h := ck 4 (by decide); rw [HEP.out] at h; exact h
  have c37 : w3.cell? ⟨g, 37, none⟩ = some (.int .u8 255) := by have h := ck 37 (by decide); rw [HEP.out] at h; exact h
  have c46 : w3.cell? ⟨g, 46, none⟩ = some (.int .u8 1) := by have h := ck 46 (by decide); rw [HEP.out] at h; exact h
  have c47 : w3.cell? ⟨g, 47, none⟩ = some (.int .u8 5) := by have h := ck 47 (by decide); rw [HEP.out] at h; exact h
  have c56 : w3.cell? ⟨g, 56, none⟩ = some (.int .u8 81) := by have h := ck 56 (by decide); rw [HEP.out] at h; exact h
  have HR3 := Lib.hid R3
  have gg : Hid (p < g) := Lib.hid (by have := (O3.new g rfl).1; have := P2.out.lt; omega)
  have pw : Hid (p < w3.heap.size) := Lib.hid (by have := P2.out.lt; have := O3.bel.size; omega)
  have W3 := Lib.hid (W2.out.trans (O3.bel.mono W2.out.size))
  have P3 := Lib.hid (P2.out.later O3.bel)
  have S3 := Lib.hid (S2.out.later O3.bel)
  have Q3 := Lib.hid (Q2.out.later O3.bel)
  clear ck R3 O3 CP T2 W2 P2 S2 Q2
  have CG := Lib.hid (txGet_any w3 HR3.out (by decide) hc3)
  rw [HEG.out.1, HEG.out.2] at CG
  have gb : g < w3.heap.size := bs_lt HR3.out (by decide) rfl
  have gq : Hid (g < w3.heap.size) := Lib.hid gb
  clear gb
  go_wp2_with (first
    | (go_at_call 23; refine CG.out.mono ?_; rintro e w4 ⟨Ai, ni, ci, Ao, no, co, rfl, T4, B4⟩; have HT4 := Lib.hid T4; have HB4 := Lib.hid B4; clear T4 B4 CG c0 c4 c37 c46 c47 c56)
    | (refine wpList_store_ro rfl (.tmp 3) (.tmp 53) rfl (vs := txV 1 Ai ni ci Ao no co 0) rfl rfl rowTx (Ro.new w4 26 zTx) rfl rfl (txV_one _ _ _ _ _ _ _ _) ?_))
  intro w5 R5 g5
  have b5 := box_store g5
  have bb := HB4.out.trans (b5.mono HB4.out.size)
  have P5 := Lib.hid (P3.out.later bb)
  have S5 := Lib.hid (S3.out.later bb)
  have Q5 := Lib.hid (Q3.out.later bb)
  have W5 := Lib.hid (W3.out.trans (bb.mono W3.out.size))
  have HR5 := Lib.hid (HR3.out.later bb)
  obtain ⟨p3, hp⟩ : ∃ p3, w4.heap.size = p3 := ⟨_, rfl⟩
  have U5 : Hid (Ro w5 p3 26 (txV 1 Ai ni ci Ao no co 0)) := Lib.hid (by rw [← hp]; exact R5)
  have TU5 : Hid (TxG w5 (fun b => w3.heap.size ≤ b) (smallT [81]) Ai ni ci Ao no co) := Lib.hid (HT4.out.keep (Kept.of_below b5))
  have pp : Hid (p < p3) := Lib.hid (by have := P3.out.lt; have := HB4.out.size; omega)
  have wz : Hid (w3.heap.size ≤ p3) := Lib.hid (by rw [← hp]; exact HB4.out.size)
  rw [hp]
  clear R5 g5 b5 bb hp HT4 HB4 P3 S3 Q3 HR3 W3
  have CG := Lib.hid (txGet_any (c := c3) w5 (HR5.out.front (n := 60) (by decide)) (by decide) (by omega))
  rw [HEC.out] at CG
  obtain ⟨U, hU⟩ : ∃ U, getT (B.take 60) = U := ⟨_, rfl⟩
  rw [hU] at CG
  clear hU
  go_wp2_with (first
    | (go_at_call 23; refine CG.out.mono ?_; rintro e w6 ⟨Xi, xi, yi, Xo, xo, yo, rfl, T4, B4⟩; have HB6 := Lib.hid B4; clear T4 B4 CG)
    | (refine wpList_store_ro rfl (.tmp 5) (.tmp 59) rfl (vs := txV U.ver Xi xi yi Xo xo yo U.lock) rfl rfl rowTx (Ro.new w6 26 zTx) rfl rfl (txV_one _ _ _ _ _ _ _ _) ?_))
  intro w7 R7 g7
  have b7 := box_store g7
  have bb := HB6.out.trans (b7.mono HB6.out.size)
  have P7 := Lib.hid (P5.out.later bb)
  have S7 := Lib.hid (S5.out.later bb)
  have Q7 := Lib.hid (Q5.out.later bb)
  have W7 := Lib.hid (W5.out.trans (bb.mono W5.out.size))
  have HR7 := Lib.hid (HR5.out.later bb)
  have U7 := Lib.hid (U5.out.later bb)
  have TU7 := Lib.hid (TU5.out.keep (Kept.of_below bb))
  clear R7 g7 b7 bb HB6 P5 S5 Q5 W5 HR5 U5 TU5
  have c1 := P7.out.cell (k := 1) rfl
  have b8 := (Below.refl w7.heap.size w7).alloc (Nat.le_refl _) (.cells #[] 5)
  have b9 := b8.alloc b8.size (.cells #[.slice (some ⟨w7.heap.size, 0, none⟩) 0 0] 29)
  have r9 := Ro.new (w7.alloc (.cells #[] 5)) 29 [.slice (some ⟨w7.heap.size, 0, none⟩) 0 0]
  rw [World.size_alloc] at r9
  have B9 := Lib.hid b9
  have R9 := Lib.hid r9
  have S9 := Lib.hid (S7.out.later b9)
  have c35 := S9.out.i.cell (inV_get (show z32.length = 32 from rfl) _ _ _ _ _ _ _ _ 3)
  have f35 := S9.out.i.free 35
  clear b8 b9 r9
  go_upto_region 8 with fail
  obtain ⟨w9, hw9⟩ : ∃ w9, (w7.alloc (.cells #[] 5)).alloc (.cells #[.slice (some ⟨w7.heap.size, 0, none⟩) 0 0] 29) = w9 := ⟨_, rfl⟩
  have R9' : Ro w9 (w7.heap.size + 1) 29 [.slice (some ⟨w7.heap.size, 0, none⟩) 0 0] := by rw [← hw9]; exact R9.out
  rw [hw9] at B9 S9 ⊢
  have K10 : Below p w9 (w9.setCell ⟨p, 0, none⟩ (.int .u8 0)) := (Below.refl p w9).setCell (p := ⟨p, 0, none⟩) (Nat.le_refl _) _
  clear K10
  have P9 := Lib.hid (P7.out.later B9.out)
  have U9 := Lib.hid (U7.out.later B9.out)
  have HR9 := Lib.hid (HR7.out.later B9.out)
  have Q9 := Lib.hid (Q7.out.later B9.out)
  have TU9 := Lib.hid (TU7.out.keep (Kept.of_below B9.out))
  have W9 := Lib.hid (W7.out.trans (B9.out.mono W7.out.size))
  have x9 : w.heap.size ≤ w7.heap.size := W7.out.size
  obtain ⟨x, hx⟩ : ∃ x, w7.heap.size + 1 = x := ⟨_, rfl⟩
  obtain ⟨wv, hwv⟩ : ∃ wv, Value.slice (some ⟨x, 0, none⟩) 1 1 = wv := ⟨_, rfl⟩
  have G10 := gr_set w9 g1 35 (.slice (some ⟨x, 0, none⟩) 1 1)
  have g1p : Hid (g1 < p) := Lib.hid gp.out.1
  have S10 : Hid (SmallM (w9.setCell ⟨g1, 35, none⟩ (.slice (some ⟨x, 0, none⟩) 1 1)) w.heap.size g1 g2 (some ⟨x, 0, none⟩) 1 1 (some ⟨g3, 0, none⟩) 1 1) := Lib.hid ⟨by
    have h := S9.out.i.set 35 (.slice (some ⟨x, 0, none⟩) 1 1)
    rwa [inV_set_w (show z32.length = 32 from rfl)] at h, S9.out.o.other S9.out.ne.symm _, S9.out.l1, S9.out.l2, S9.out.ne⟩
  have P10 := Lib.hid (P9.out.far G10 (fun e => by have := g1p.out; injection e; omega))
  have U10 := Lib.hid (U9.out.far G10 (fun e => by have := g1p.out; have := pp.out; injection e; omega))
  have HR10 := Lib.hid (HR9.out.off G10 (by have := g1p.out; have := gg.out; omega))
  have TU10 := Lib.hid (TU9.out.keep (kept_off G10 (by have := g1p.out; have := pw.out; omega)))
  have W10 : Hid (Below w.heap.size w (w9.setCell ⟨g1, 35, none⟩ (.slice (some ⟨x, 0, none⟩) 1 1))) := Lib.hid (W9.out.setCell (p := ⟨g1, 35, none⟩) S9.out.l1 _)
  have RWit : Hid (Rows (w9.setCell ⟨g1, 35, none⟩ (.slice (some ⟨x, 0, none⟩) 1 1)) (fun b => w.heap.size ≤ b) 1 BsR (some ⟨x, 0, none⟩) 1 [[]]) := Lib.hid (by
    have lt : g1 < w7.heap.size := S7.out.i.lt
    have R9x : Ro (w9.setCell ⟨g1, 35, none⟩ (.slice (some ⟨x, 0, none⟩) 1 1)) x 29 [.slice (some ⟨w7.heap.size, 0, none⟩) 0 0] := by
      rw [← hx]
      exact R9'.other (by omega) _
    exact ⟨rfl, fun _ => ⟨x, 0, _, rfl, R9x.lt, by omega, R9x.whole, Each.one rfl ⟨_, 0, 0, rfl, Nat.le_refl _, by decide, BsP.nil _ _ _⟩⟩⟩)
  have Q10 := Lib.hid (Q9.out.off G10 HG3.out.2.1)
  rw [hx]
  obtain ⟨w10, hw10⟩ : ∃ w10, w9.setCell ⟨g1, 35, none⟩ (.slice (some ⟨x, 0, none⟩) 1 1) = w10 := ⟨_, rfl⟩
  rw [hw10] at S10 P10 U10 HR10 TU10 W10 RWit Q10 ⊢
  have T10 : Hid (TxG w10 (fun b => w.heap.size ≤ b) small2 (some ⟨g1, 0, none⟩) 1 1 (some ⟨g2, 0, none⟩) 1 1) := Lib.hid (S10.out.tx (ws := [[]]) RWit.out (Nat.le_refl _) (by decide) allBB_one (Q10.out.inp HG3.out.1) (Nat.le_refl _) (by decide))
  clear hw10 G10 hx hwv hw9 R9 R9' B9 S9 P9 U9 HR9 TU9 W9 Q9 P7 U7 HR7 TU7 W7 Q7 S7 S10 Q10 RWit c1 c35 f35 x9
  have EP2 := ex_put2
  have EL2 := ex_len2
  have E2B : AllB (putS small2) := putS_byt small2_ok
  have CP := txPut_any (t := small2) w10 ex_w2 T10.out.r
  obtain ⟨C, hC⟩ : ∃ C, putS small2 = C := ⟨_, rfl⟩
  rw [hC] at CP EP2 EL2
  have HEP2 := Lib.hid EP2
  have HEL2 := Lib.hid EL2
  have HCP := Lib.hid CP
  clear EP2 EL2 E2B CP hC
  go_wp2_with (first
    | (go_at_call 13; refine HCP.out.mono ?_; rintro e w11 ⟨A5, n5, c5, rfl, hc5, O5⟩; obtain rfl : 65 = n5 := HEL2.out.symm.trans O5.len; have HO5 := Lib.hid O5; clear O5 HCP)
    | (refine wpList_load_part rfl (.tmp 1) rfl rfl rowTx P10.out.whole rfl ?_))
  have P11 := Lib.hid (P10.out.later HO5.out.bel)
  have U11 := Lib.hid (U10.out.later HO5.out.bel)
  have T11 := Lib.hid (T10.out.keep (Kept.of_below HO5.out.bel))
  have TU11 := Lib.hid (TU10.out.keep (Kept.of_below HO5.out.bel))
  have HR11 := Lib.hid (HR10.out.later HO5.out.bel)
  have W11 := Lib.hid (W10.out.trans (HO5.out.bel.mono W10.out.size))
  obtain ⟨gc, hg⟩ : ∃ gc, A5 = some ⟨gc, 0, none⟩ := by
    obtain ⟨gc, cap, hv, _, _⟩ := HO5.out.row.form (by decide)
    injection hv with hv
    exact ⟨gc, hv⟩
  subst hg
  have R5 := HO5.out.reads
  have ck : ∀ k, k < 65 → w11.cell? ⟨gc, k, none⟩ = some (.int .u8 (nth C k : Nat)) := fun k hk => by
    obtain ⟨a, e, _, h⟩ := R5.cel (by decide)
    injection e with e
    subst e
    have := h k hk
    rwa [show (⟨gc, 0, none⟩ : Addr).add k = ⟨gc, k, none⟩ by unfold Addr.add; split <;> simp_all] at this
  have d4 : w11.cell? ⟨gc, 4, none⟩ = some (.int .u8 0) := by have h := ck 4 (by decide); rw [HEP2.out] at h; exact h
  have d5 : w11.cell? ⟨gc, 5, none⟩ = some (.int .u8 1) := by have h := ck 5 (by decide); rw [HEP2.out] at h; exact h
  have D4 := Lib.hid d4
  have D5 := Lib.hid d5
  clear R5 ck d4 d5 P10 U10 T10 TU10 HR10 W10 HO5 HEP2 HEL2
  clear HEG HEC HEP gp pw gq pp wz gg g1p HG3 HBL
  go_wp2_with fail
  refine wp_region_seg (W := w11) (by kernel_rfl) fun wa ga => ?_
  refine wpK_seg 0 1 (f := 62) (by kernel_rfl) (fun _ _ _ _ _ h => h) (by kernel_rfl) (by kernel_rfl) (by kernel_rfl) ga ?_
  apply Exists.intro
  refine ⟨?_, ?_⟩
  · intro wg hg
    simp only [List.drop_succ_cons, List.drop_zero, List.take_succ_cons, List.take_zero]
    have Pg := Lib.hid (P11.out.later hg)
    have Ug := Lib.hid (U11.out.later hg)
    have Tg := Lib.hid (T11.out.keep (Kept.of_below hg))
    have TUg := Lib.hid (TU11.out.keep (Kept.of_below hg))
    have HRg := Lib.hid (HR11.out.later hg)
    go_big_quiet_want
    refine quiet_load_part (.tmp 3) rfl rfl rowTx (fun w9 h9 => by obtain ⟨u, rfl⟩ := h9; exact (Ug.out.later u.below).whole) rfl ?_
    simp only [Act.put, List.setIfInBounds_toArray, List.set_cons_succ, List.set_cons_zero]
    go_big_quiet_on
    refine wpQuiet_nil ?_
    exact rfl
  refine wpK_call (f := 61) (i := 1) (by kernel_rfl) rfl rfl ga ?_
  intro wb gb K hK
  go_simp
  with_reducible refine (small_any wb).mono ?_
  rintro e wn ⟨h1, h2, h3, rfl, S1, Q1, hg3, B1⟩
  refine hK _ _ B1 ?_
  clear hK K ga
  have GN : Grows w11 wn := Grows.trans gb B1
  refine wpK_from GN _ _ _ _ ?_
  have SN : Hid (TxG wn (fun b => wb.heap.size ≤ b) (smallT [81]) (some ⟨h1, 0, none⟩) 1 1 (some ⟨h2, 0, none⟩) 1 1) := Lib.hid (S1.tx (ws := []) (Rows.nil _ _ _ _ _) (Nat.le_refl _) (by decide) (fun x hx => by cases hx) (Q1.inp hg3.1) (Nat.le_refl _) (by decide))
  have E4 := Lib.hid (cell_later GN D4.out)
  have E5 := Lib.hid (cell_later GN D5.out)
  have PN := Lib.hid (P11.out.later GN)
  have UN := Lib.hid (U11.out.later GN)
  have TN := Lib.hid (T11.out.keep (Kept.of_below GN))
  have TUN := Lib.hid (TU11.out.keep (Kept.of_below GN))
  have HRN := Lib.hid (HR11.out.later GN)
  have WN := Lib.hid (W11.out.trans ((GN).mono W11.out.size))
  clear P11 U11 T11 TU11 HR11 W11
  clear S1 Q1 hg3 B1 gb GN D4 D5
  have ga := Grows.refl wn
  refine wpK_seg 2 34 (f := 27) (by kernel_rfl) (fun _ _ _ _ _ h => h) (by kernel_rfl) (by kernel_rfl) (by kernel_rfl) ga ?_
  apply Exists.intro
  refine ⟨?_, ?_⟩
  · intro wg hg
    simp only [List.drop_succ_cons, List.drop_zero, List.take_succ_cons, List.take_zero]
    have Pg := Lib.hid (PN.out.later hg)
    have Ug := Lib.hid (UN.out.later hg)
    have Tg := Lib.hid (TN.out.keep (Kept.of_below hg))
    have TUg := Lib.hid (TUN.out.keep (Kept.of_below hg))
    have HRg := Lib.hid (HRN.out.later hg)
    have c4 : ∀ u : After wg, u.w.cell? ⟨gc, 4, none⟩ = some (.int .u8 0) := fun u => u.cell (cell_later hg E4.out)
    have c5 : ∀ u : After wg, u.w.cell? ⟨gc, 5, none⟩ = some (.int .u8 1) := fun u => u.cell (cell_later hg E5.out)
    have C1 : Hid (∀ u : After wg, Calls Tryd.prog 26 #[.agg (txV 1 Ai ni ci Ao no co 0).toArray, .agg (txV 1 (some ⟨h1, 0, none⟩) 1 1 (some ⟨h2, 0, none⟩) 1 1 0).toArray] u.w fun e w' => e = .returned (.bool true) ∧ Below u.w.heap.size u.w w') := Lib.hid (fun u => by
      have q := txSame_any (s := smallT [81]) (t := smallT [81]) u.w (TUg.out.keep (Kept.of_below u.below)).r ((SN.out.keep (Kept.of_below hg)).keep (Kept.of_below u.below)).r
      rw [decide_eq_true rfl] at q
      exact q)
    have C2 : Hid (∀ u : After wg, Calls Tryd.prog 26 #[.agg (txV 1 Ai ni ci Ao no co 0).toArray, .agg (txV 1 (some ⟨g1, 0, none⟩) 1 1 (some ⟨g2, 0, none⟩) 1 1 0).toArray] u.w fun e w' => e = .returned (.bool false) ∧ Below u.w.heap.size u.w w') := Lib.hid (fun u => by
      have q := txSame_any (s := smallT [81]) (t := small2) u.w (TUg.out.keep (Kept.of_below u.below)).r (Tg.out.keep (Kept.of_below u.below)).r
      rw [ex_differ] at q
      exact q)
    repeat (go_big_quiet_step (fail))
    go_big_quiet_step (exact after_call (C1.out _))
    repeat (go_big_quiet_step (fail))
    go_big_quiet_want
    refine quiet_load_part (.tmp 3) rfl rfl rowTx (fun w9 h9 => by obtain ⟨u, rfl⟩ := h9; exact (Ug.out.later u.below).whole) rfl ?_
    simp only [Act.put, List.setIfInBounds_toArray, List.set_cons_succ, List.set_cons_zero]
    go_big_quiet_on
    go_big_quiet_want
    refine quiet_load_part (.tmp 1) rfl rfl rowTx (fun w9 h9 => by obtain ⟨u, rfl⟩ := h9; exact (Pg.out.later u.below).whole) rfl ?_
    simp only [Act.put, List.setIfInBounds_toArray, List.set_cons_succ, List.set_cons_zero]
    go_big_quiet_on
    go_big_quiet_step (exact after_call (C2.out _))
    repeat (go_big_quiet_step (fail))
    go_big_quiet_want
    refine quiet_load_part (.tmp 1) rfl rfl rowTx (fun w9 h9 => by obtain ⟨u, rfl⟩ := h9; exact (Pg.out.later u.below).whole) rfl ?_
    simp only [Act.put, List.setIfInBounds_toArray, List.set_cons_succ, List.set_cons_zero]
    go_big_quiet_on
    refine wpQuiet_nil ?_
    exact rfl
  clear SN E4 E5
  obtain ⟨S, hS⟩ : ∃ S, strB B = S := ⟨_, rfl⟩
  have HS := Lib.hid hS
  have EQS : (S.toList == S.toList) = true := beq_self_eq_true _
  have hH : (idS small2).length = 32 := shaS_len _
  obtain ⟨H, hHe⟩ : ∃ H, idS small2 = H := ⟨_, rfl⟩
  rw [hHe] at hH
  have HH := Lib.hid hHe
  have EQH : ∀ w, (Op.equalIn 10000 32 (.agg (vals H).toArray) (.agg (vals H).toArray)).run Tryd.prog w = .ok true w := fun w => by
    rw [eq_hash hH hH]
    unfold eqB
    rw [decide_eq_true rfl]
  clear hS hHe hH
  refine wpK_seg 38 2 (f := 25) (by kernel_rfl) (fun _ _ _ _ _ h => h) (by kernel_rfl) (by kernel_rfl) (by kernel_rfl) ga ?_
  apply Exists.intro
  refine ⟨?_, ?_⟩
  · intro wg hg
    simp only [List.drop_succ_cons, List.drop_zero, List.take_succ_cons, List.take_zero]
    have Pg := Lib.hid (PN.out.later hg)
    have Ug := Lib.hid (UN.out.later hg)
    have Tg := Lib.hid (TN.out.keep (Kept.of_below hg))
    have TUg := Lib.hid (TUN.out.keep (Kept.of_below hg))
    have HRg := Lib.hid (HRN.out.later hg)
    have cv2 : ∀ u : After wg, (convert 29 9 (.slice (some ⟨g, 0, none⟩) 61 c3)).run Tryd.prog u.w = .ok (.string S) u.w := fun u => by rw [← HS.out]; exact run_str (HRg.out.later u.below)
    repeat (go_big_quiet_step (fail))
    refine wpQuiet_nil ?_
    exact rfl
  refine wpK_call_want (f := 24) (i := 36) (by kernel_rfl) rfl (by rfl) ga ?_
  intro wb2 gb K hK
  have TB : Hid (Calls Tryd.prog 15 #[.agg (txV 1 (some ⟨g1, 0, none⟩) 1 1 (some ⟨g2, 0, none⟩) 1 1 0).toArray] wb2 (GivesB wb2 (bareS small2))) := Lib.hid (txBare_any (t := small2) wb2 ex_w2 (TN.out.keep (Kept.of_below gb)).r)
  go_simp
  with_reducible refine TB.out.mono ?_
  rintro e wo ⟨A6, n6, c6, rfl, hc6, O6⟩
  refine hK _ _ O6.bel ?_
  clear hK K ga TB
  have GN : Grows wn wo := Grows.trans gb O6.bel
  refine wpK_from GN _ _ _ _ ?_
  have R6 := O6.reads
  rw [HEB.out] at R6
  have HR6 := Lib.hid R6
  have PO := Lib.hid (PN.out.later GN)
  have UO := Lib.hid (UN.out.later GN)
  have TO := Lib.hid (TN.out.keep (Kept.of_below GN))
  have TUO := Lib.hid (TUN.out.keep (Kept.of_below GN))
  have HRO := Lib.hid (HRN.out.later GN)
  have WO := Lib.hid (WN.out.trans ((GN).mono WN.out.size))
  clear PN UN TN TUN HRN WN
  clear O6 gb GN R6
  have ga := Grows.refl wo
  refine wpK_seg 37 1 (f := 23) (by kernel_rfl) (fun _ _ _ _ _ h => h) (by kernel_rfl) (by kernel_rfl) (by kernel_rfl) ga ?_
  apply Exists.intro
  refine ⟨?_, ?_⟩
  · intro wg hg
    simp only [List.drop_succ_cons, List.drop_zero, List.take_succ_cons, List.take_zero]
    have Pg := Lib.hid (PO.out.later hg)
    have Ug := Lib.hid (UO.out.later hg)
    have Tg := Lib.hid (TO.out.keep (Kept.of_below hg))
    have TUg := Lib.hid (TUO.out.keep (Kept.of_below hg))
    have HRg := Lib.hid (HRO.out.later hg)
    have cv1 : ∀ u : After wg, (convert 29 9 (.slice A6 n6 c6)).run Tryd.prog u.w = .ok (.string S) u.w := fun u => by rw [← HS.out]; exact run_str ((HR6.out.later hg).later u.below)
    repeat (go_big_quiet_step (fail))
    refine wpQuiet_nil ?_
    exact rfl
  refine wpK_seg 40 23 (f := 0) (by kernel_rfl) (fun _ _ _ _ _ h => h) (by kernel_rfl) (by kernel_rfl) (by kernel_rfl) ga ?_
  apply Exists.intro
  refine ⟨?_, ?_⟩
  · intro wg hg
    simp only [List.drop_succ_cons, List.drop_zero, List.take_succ_cons, List.take_zero]
    have Pg := Lib.hid (PO.out.later hg)
    have Ug := Lib.hid (UO.out.later hg)
    have Tg := Lib.hid (TO.out.keep (Kept.of_below hg))
    have TUg := Lib.hid (TUO.out.keep (Kept.of_below hg))
    have HRg := Lib.hid (HRO.out.later hg)
    have LD : Hid (∀ u : After wg, Laid u.w) := Lib.hid (fun u => HD.out.later HD.out.lt ((WO.out.trans (hg.mono WO.out.size)).trans (u.below.mono (Nat.le_trans WO.out.size hg.size))))
    have TA : Hid (∀ u : After wg, TxR u.w small2 (some ⟨g1, 0, none⟩) 1 1 (some ⟨g2, 0, none⟩) 1 1) := Lib.hid (fun u => (Tg.out.keep (Kept.of_below u.below)).r)
    have C1 : Hid (∀ u : After wg, Calls Tryd.prog 21 #[.agg (txV 1 (some ⟨g1, 0, none⟩) 1 1 (some ⟨g2, 0, none⟩) 1 1 0).toArray] u.w fun e w' => e = .returned (.bool true) ∧ Below u.w.heap.size u.w w') := Lib.hid (fun u => by
      have q := txMint_any (t := small2) u.w (TA.out u)
      rw [ex_mint] at q
      exact q)
    have C2 : Hid (∀ u : After wg, Calls Tryd.prog 19 #[.agg (txV 1 (some ⟨g1, 0, none⟩) 1 1 (some ⟨g2, 0, none⟩) 1 1 0).toArray] u.w fun e w' => e = .returned (.bool true) ∧ Below u.w.heap.size u.w w') := Lib.hid (fun u => by
      have q := txMay_any (t := small2) u.w ex_w2 (TA.out u)
      rw [ex_may2] at q
      exact q)
    have C3 : Hid (∀ u : After wg, Calls Tryd.prog 19 #[.agg zTx.toArray] u.w fun e w' => e = .returned (.bool false) ∧ Below u.w.heap.size u.w w') := Lib.hid (fun u => by
      have q := txMay_any (t := zeroT) u.w ex_w0 (zeroR u.w anyP).r
      rw [ex_zero] at q
      exact q)
    have C4 : Hid (∀ u : After wg, Calls Tryd.prog 17 #[.agg (txV 1 (some ⟨g1, 0, none⟩) 1 1 (some ⟨g2, 0, none⟩) 1 1 0).toArray] u.w fun e w' => e = .returned (.agg (vals H).toArray) ∧ Below u.w.heap.size u.w w') := Lib.hid (fun u => by
      have q := txId_any (t := small2) u.w (LD.out u) ex_w2 (TA.out u)
      rw [HH.out] at q
      exact q)
    have C5 : Hid (∀ u : After wg, Calls Tryd.prog 18 #[.agg (txV 1 (some ⟨g1, 0, none⟩) 1 1 (some ⟨g2, 0, none⟩) 1 1 0).toArray] u.w fun e w' => e = .returned (.agg (vals H).toArray) ∧ Below u.w.heap.size u.w w') := Lib.hid (fun u => by
      have q := refId_any (t := small2) u.w ex_w2 (TA.out u)
      rw [HH.out] at q
      exact q)
    repeat (go_big_quiet_step (fail))
    go_big_quiet_want
    refine quiet_load_part (.tmp 1) rfl rfl rowTx (fun w9 h9 => by obtain ⟨u, rfl⟩ := h9; exact (Pg.out.later u.below).whole) rfl ?_
    simp only [Act.put, List.setIfInBounds_toArray, List.set_cons_succ, List.set_cons_zero]
    go_big_quiet_on
    go_big_quiet_step (exact after_call (C1.out _))
    repeat (go_big_quiet_step (fail))
    go_big_quiet_want
    refine quiet_load_part (.tmp 1) rfl rfl rowTx (fun w9 h9 => by obtain ⟨u, rfl⟩ := h9; exact (Pg.out.later u.below).whole) rfl ?_
    simp only [Act.put, List.setIfInBounds_toArray, List.set_cons_succ, List.set_cons_zero]
    go_big_quiet_on
    go_big_quiet_step (exact after_call (C2.out _))
    repeat (go_big_quiet_step (fail))
    go_big_quiet_step (exact after_call (C3.out _))
    repeat (go_big_quiet_step (fail))
    go_big_quiet_want
    refine quiet_load_part (.tmp 1) rfl rfl rowTx (fun w9 h9 => by obtain ⟨u, rfl⟩ := h9; exact (Pg.out.later u.below).whole) rfl ?_
    simp only [Act.put, List.setIfInBounds_toArray, List.set_cons_succ, List.set_cons_zero]
    go_big_quiet_on
    go_big_quiet_step (exact after_call (C4.out _))
    repeat (go_big_quiet_step (fail))
    go_big_quiet_want
    refine quiet_load_part (.tmp 1) rfl rfl rowTx (fun w9 h9 => by obtain ⟨u, rfl⟩ := h9; exact (Pg.out.later u.below).whole) rfl ?_
    simp only [Act.put, List.setIfInBounds_toArray, List.set_cons_succ, List.set_cons_zero]
    go_big_quiet_on
    go_big_quiet_step (exact after_call (C5.out _))
    repeat (go_big_quiet_step (fail))
    refine wpQuiet_nil ?_
    exact rfl
  refine wpK_end (by kernel_rfl) fun wz gz => ?_
  have BZ := Lib.hid (WO.out.trans (gz.mono WO.out.size))
  go_wp2_with fail
  go_ret
  exact ⟨rfl, BZ.out⟩
end Go.Proofs.YtbdjcbdnhaddoaaDoor
