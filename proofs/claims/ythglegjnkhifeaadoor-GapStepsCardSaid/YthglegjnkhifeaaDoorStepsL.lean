/- GapSteps: scripts used one behind the other are watched as many as are used, and the gap more; one within turns nothing, one beyond turns nothing; the last that is watched turns as much as the gap. No condition but that the tables lie as laid. -/
import Derived.Test.YthglegjnkhifeaaDoorStepsM
namespace Go.Proofs.YthglegjnkhifeaaDoor
open Go.RowKit

set_option maxRecDepth 100000 in
set_option maxHeartbeats 16000000 in
theorem steps_law {many wide within : Nat} {beyond : Nat} {w : World} (hm : many < 256) (hw : wide < 256) (hi : within < 256) (hby : beyond < 65536) (hLd : Laid w) :
    Calls Tryd.prog 6 #[.int .u8 (many : Nat), .int .u8 (wide : Nat), .int .u8 (within : Nat), .int .u16 (beyond : Nat)] w fun e w' => e = .returned (.bool true) ∧ Below w.heap.size w w' := by
  have HD := Lib.hid hLd
  have B0 := Lib.hid (Below.refl w.heap.size w)
  clear hLd
  have fin : ∀ w1, Below w.heap.size w w1 → Calls Tryd.prog 7 #[] w1 fun e w' => e = .returned (.bool true) ∧ Below w.heap.size w w' := fun w1 b => (works_any w1 (HD.out.later HD.out.lt b)).mono fun e w' ⟨h1, h2⟩ => ⟨h1, b.trans (h2.mono b.size)⟩
  have FIN := Lib.hid fin
  clear fin
  obtain ⟨N, hN⟩ : ∃ N, many % 60 = N := ⟨_, rfl⟩
  have z0 : (many : Int) % 60 = (N : Int) := by omega
  have N60 : N < 60 := by omega
  obtain ⟨r, hr⟩ : ∃ r, wide % 30 = r := ⟨_, rfl⟩
  have z1 : (wide : Int) % 30 = (r : Int) := by omega
  have r30 : r < 30 := by omega
  obtain ⟨γ, hγ⟩ : ∃ γ, 1 + r = γ := ⟨_, rfl⟩
  have z2 : (1 : Int) + (r : Int) = (γ : Int) := by omega
  have g1 : 1 ≤ γ ∧ γ ≤ 30 := by omega
  obtain ⟨W, hW⟩ : ∃ W, N + γ = W := ⟨_, rfl⟩
  have z3 : (N : Int) + (γ : Int) = (W : Int) := by omega
  have W89 : W ≤ 89 ∧ 1 ≤ W := by omega
  have S0 := Lib.hid (fun k (hk : k ≤ N) => watch_upto (k := k) (g := γ) g1.1 (by omega))
  have SL := Lib.hid (watch_last (k := N) (g := γ) g1.1 (by omega))
  rw [hW] at SL
  have HWn := Lib.hid hW
  have CW : Hid (∀ w1 A1 c1 m M v, m ≤ 1000 → Is w1 A1 m M → ((watchS M (γ : Int) : Nat) : Int) = v → Calls Tryd.prog 12 #[.slice A1 m c1, .int .i64 (γ : Nat)] w1 fun e w' => e = .returned (.int .i64 v) ∧ Below w1.heap.size w1 w') := Lib.hid (fun w1 A1 c1 m M v h0 h1 h2 => by
    have q := watch_any (c := c1) (x := (γ : Int)) w1 (by omega) (by omega) h1
    rw [show max (γ : Int) 1 = (γ : Int) by omega, h2] at q
    exact q)
  clear hN hr hγ hW
  have O0 := Lib.hid (OwnI.none_ B0.out)
  go_enter Tryd.func6, Tryd.ntmps6
  go_wp2_with fail
  rw [z0, z1]
  go_loopw [11, 12] (fun v iv wr => ∃ k : Nat, iv = .int .i64 (k : Nat) ∧ k ≤ N ∧ OwnI w v k (upto k) wr) (fun _ iv _ => N - (intOf iv).toNat)
  case atStart => exact ⟨0, rfl, Nat.zero_le _, O0.out⟩
  case round =>
    clear O0 B0
    obtain ⟨k, rfl, hk, O⟩ := hrel
    obtain ⟨A1, c1, rfl, _⟩ := O.shape
    have HO := Lib.hid O
    clear O
    by_cases hlk : k < N
    · have t1 : decide ((k : Int) < (N : Int)) = true := decide_eq_true (by omega)
      have O1 := Lib.hid (HO.out.later ((Below.refl wr.heap.size wr).alloc (Nat.le_refl _) (.cells #[.int .i64 (k : Int)] 3)))
      have IU := Lib.hid (Is.lit1 wr (x := (k : Int)) (by omega))
      clear HO
      go_wp2_with (refine wpList_appIs rfl (.tmp 30) (.tmp 32) rfl rfl O1.out rfl IU.out (by omega) ?_)
      intro A2 c2 w2 hc2 O2 g2 n2
      rw [upto_more] at O2
      have HO2 := Lib.hid O2
      clear O2 g2 n2 O1 IU
      have C1 := Lib.hid (CW.out w2 A2 c2 (k + 1) (upto (k + 1)) ((k : Int) + 1 + (γ : Int)) (by omega) HO2.out.reads (by rw [S0.out _ (by omega)]; omega))
      go_wp2_with fail
      refine C1.out.mono ?_
      rintro e w3 ⟨rfl, hb⟩
      have HO3 := Lib.hid (HO2.out.later hb)
      clear hb C1 HO2
      go_wp2_with fail
      exact ⟨⟨k + 1, by go_num, by omega, HO3.out⟩, by simp [intOf]; omega⟩
    have t1 : decide ((k : Int) < (N : Int)) = false := decide_eq_false (by omega)
    obtain rfl : k = N := by omega
    have B1 := Lib.hid HO.out.bel
    have U1 := Lib.hid HO.out.reads
    have C1 := Lib.hid (CW.out wr A1 c1 k (upto k) (W : Int) (by omega) U1.out (by rw [S0.out _ (by omega), HWn.out]))
    clear HO hk hlk
    go_wp2_with fail
    refine C1.out.mono ?_
    rintro e w2 ⟨rfl, hb⟩
    have B2 := Lib.hid (B1.out.trans (hb.mono B1.out.size))
    have U2 := Lib.hid (U1.out.later hb)
    clear hb C1 B1 U1
    have EQH := eq_same (haS_ok [115] (k : Int))
    have lH := Lib.hid (show (vals (haS [115] (k : Int))).length = 32 by rw [vals_length]; exact haS_ok _ _)
    have hh : haS [115] (k : Int) = shaS (scriptS [115] k) := by unfold haS; rw [if_neg (by omega), Int.toNat_natCast]
    have hs : scS [115] (k : Int) = scriptS [115] k := by unfold scS; rw [if_neg (by omega), Int.toNat_natCast]
    have lS := Lib.hid (scriptS_len [115] k)
    obtain ⟨H, hH⟩ : ∃ H, haS [115] (k : Int) = H := ⟨_, rfl⟩
    rw [hH] at EQH lH hh
    obtain ⟨S, hS⟩ : ∃ S, scriptS [115] k = S := ⟨_, rfl⟩
    rw [hS] at hh hs lS
    have HHa := Lib.hid hH
    have HSc := Lib.hid hs
    have HH := Lib.hid hh.symm
    clear hH hS hs hh
    have uk := Lib.hid (S0.out k (Nat.le_refl _))
    rw [HWn.out] at uk
    have SF : Hid (((watchS (upto k ++ [(W : Int) + (beyond : Int)]) (γ : Int) : Nat) : Int) = (W : Int)) := Lib.hid (by rw [watch_out_end (by rw [uk.out]; omega), uk.out])
    have SB : Hid (((watchS (upto k ++ [-1 - (beyond : Int)]) (γ : Int) : Nat) : Int) = (W : Int)) := Lib.hid (by rw [watch_out_end (by omega), uk.out])
    have SLI : Hid (((watchS (upto k ++ [(W : Int) - 1]) (γ : Int) : Nat) : Int) = (W : Int) + (γ : Int)) := Lib.hid (by rw [SL.out, Int.natCast_add])
    have gA : Grows w2 w2 := Grows.refl w2
    by_cases h0 : 0 < k
    · have t2 : decide ((0 : Int) < (k : Int)) = true := decide_eq_true (by omega)
      obtain ⟨ρ, hρ⟩ : ∃ ρ, within % k = ρ := ⟨_, rfl⟩
      have zr : (within : Int) % (k : Int) = (ρ : Int) := by rw [← hρ, Int.natCast_emod]
      have ρk : ρ < k := by rw [← hρ]; exact Nat.mod_lt _ h0
      have SI : Hid (((watchS (upto k ++ [(ρ : Int)]) (γ : Int) : Nat) : Int) = (W : Int)) := Lib.hid (by rw [watch_in_end (upto_mem.2 (by omega)), uk.out])
      clear hρ
      go_wp2_with fail
      refine wp_region_seg (W := w2) (by kernel_rfl) fun wq gq => ?_
      refine wpK_seg 0 3 (f := 14) (by kernel_rfl) (fun _ _ _ _ _ h => h) (by kernel_rfl) (by kernel_rfl) (by kernel_rfl) gq ?_
      apply Exists.intro
      refine ⟨?_, ?_⟩
      · intro wg hg
        simp only [List.drop_zero, List.take_succ_cons, List.take_zero]
        repeat (go_big_quiet_step (fail))
        refine wpQuiet_nil ?_
        exact rfl
      refine wpK_seg 4 1 (f := 13) (by kernel_rfl) (fun _ _ _ _ _ h => h) (by kernel_rfl) (by kernel_rfl) (by kernel_rfl) gq ?_
      apply Exists.intro
      refine ⟨?_, ?_⟩
      · intro wg hg
        simp only [List.drop_succ_cons, List.drop_zero, List.take_succ_cons, List.take_zero]
        repeat (go_big_quiet_step (fail))
        refine wpQuiet_nil ?_
        exact rfl
      refine wpK_seg 6 4 (f := 9) (by kernel_rfl) (fun _ _ _ _ _ h => h) (by kernel_rfl) (by kernel_rfl) (by kernel_rfl) gq ?_
      apply Exists.intro
      refine ⟨?_, ?_⟩
      · intro wg hg
        simp only [List.drop_succ_cons, List.drop_zero, List.take_succ_cons, List.take_zero]
        repeat (go_big_quiet_step (fail))
        refine wpQuiet_nil ?_
        exact rfl
      refine wpK_seg 12 1 (f := 8) (by kernel_rfl) (fun _ _ _ _ _ h => h) (by kernel_rfl) (by kernel_rfl) (by kernel_rfl) gq ?_
      apply Exists.intro
      refine ⟨?_, ?_⟩
      · intro wg hg
        simp only [List.drop_succ_cons, List.drop_zero, List.take_succ_cons, List.take_zero]
        repeat (go_big_quiet_step (fail))
        refine wpQuiet_nil ?_
        exact rfl
      refine wpK_seg 14 1 (f := 7) (by kernel_rfl) (fun _ _ _ _ _ h => h) (by kernel_rfl) (by kernel_rfl) (by kernel_rfl) gq ?_
      apply Exists.intro
      refine ⟨?_, ?_⟩
      · intro wg hg
        simp only [List.drop_succ_cons, List.drop_zero, List.take_succ_cons, List.take_zero]
        repeat (go_big_quiet_step (fail))
        refine wpQuiet_nil ?_
        exact rfl
      rw [zr]
      have GQ := Lib.hid (show Below w2.heap.size w2 wq from gq)
      clear gq gA
      refine wpK_two_want (f := 6) (i := 3) (k := 10) (by kernel_rfl) rfl rfl (by rfl) (by rfl) ?_ ?_
      · intro wx1 gx2 K hK
        have GXwx1 := Lib.hid (GQ.out.trans (gx2.mono GQ.out.size))
        refine wp_litI0 (d := some 53) rfl rfl ?_
        simp only [Act.put, List.setIfInBounds_toArray, List.set_cons_succ, List.set_cons_zero]
        have OWNwy3 := Lib.hid (OwnI.made (w0 := w2) GXwx1.out)
        have GWwy3 := Lib.hid (GXwx1.out.alloc GXwx1.out.size (.cells #[] 3))
        refine hK _ _ GWwy3.out ?_
        clear hK K
        refine wpK_two_want (f := 5) (i := 5) (k := 10) (by kernel_rfl) rfl rfl (by rfl) (by rfl) ?_ ?_
        · intro wx4 gx5 K hK
          have GXwx4 := Lib.hid (GWwy3.out.trans (gx5.mono GWwy3.out.size))
          have OWNwx4 := Lib.hid (OWNwy3.out.later gx5)
          refine wp_appI (d := some 55) rfl (.tmp 53) (.tmp 54) rfl rfl OWNwx4.out rfl (U2.out.later GXwx4.out) (by omega) ?_
          intro A2 c2 wz6 O2 g2
          simp only [Act.put, List.setIfInBounds_toArray, List.set_cons_succ, List.set_cons_zero]
          have GWwz6 := Lib.hid (GXwx4.out.grown g2 GXwx4.out.size (fun q e => (OWNwx4.out.new q e).1))
          rw [Nat.zero_add, List.nil_append] at O2
          have OWNwz6 := Lib.hid O2
          clear O2 g2
          simp only [Nat.zero_add]
          refine hK _ _ GWwz6.out ?_
          clear hK K
          refine wpK_one_want (f := 4) (i := 10) (by kernel_rfl) rfl (by rfl) ?_
          intro wx7 gx8 K hK
          have GXwx7 := Lib.hid (GWwz6.out.trans (gx8.mono GWwz6.out.size))
          have OWNwx7 := Lib.hid (OWNwz6.out.later gx8)
          refine wp_litI (d := some 60) rfl (.tmp 59) rfl rfl ?_
          simp only [Act.put, List.setIfInBounds_toArray, List.set_cons_succ, List.set_cons_zero]
          have LITwl9 := Lib.hid (Is.lit1 wx7 (x := (ρ : Int)) (by omega))
          have GWwl9 := Lib.hid (GXwx7.out.alloc GXwx7.out.size (.cells #[.int .i64 (ρ : Int)] 3))
          have OWNwl9 := Lib.hid (OWNwx7.out.later ((Below.refl wx7.heap.size wx7).alloc (Nat.le_refl _) (.cells #[.int .i64 (ρ : Int)] 3)))
          refine hK _ _ GWwl9.out ?_
          clear hK K
          refine wpK_one_want (f := 3) (i := 11) (by kernel_rfl) rfl (by rfl) ?_
          intro wx10 gx11 K hK
          have GXwx10 := Lib.hid (GWwl9.out.trans (gx11.mono GWwl9.out.size))
          have OWNwx10 := Lib.hid (OWNwl9.out.later gx11)
          have LITwx10 := Lib.hid (LITwl9.out.later gx11)
          refine wp_appI (d := some 61) rfl (.tmp 55) (.tmp 60) rfl rfl OWNwx10.out rfl LITwx10.out (by omega) ?_
          intro A3 c3 w6 O3 g3
          simp only [Act.put, List.setIfInBounds_toArray, List.set_cons_succ, List.set_cons_zero]
          have GW := Lib.hid (GXwx10.out.grown g3 GXwx10.out.size (fun q e => (OWNwx10.out.new q e).1))
          have OW := Lib.hid O3
          clear O3 g3
          refine hK _ _ GW.out ?_
          clear hK K
          have R6 := Lib.hid OW.out.reads
          refine wpK_from GW.out _ _ _ _ ?_
          refine wpK_seg 13 1 (f := 2) (by kernel_rfl) (fun _ _ _ _ _ h => h) (by kernel_rfl) (by kernel_rfl) (by kernel_rfl) (Grows.refl w6) ?_
          apply Exists.intro
          refine ⟨?_, ?_⟩
          · intro wg hg
            simp only [List.drop_succ_cons, List.drop_zero, List.take_succ_cons, List.take_zero]
            have C6 : Hid (∀ u : After wg, Calls Tryd.prog 12 #[.slice A3 (k + 1) c3, .int .i64 (γ : Nat)] u.w fun e w' => e = .returned (.int .i64 (W : Int)) ∧ Below u.w.heap.size u.w w') := Lib.hid (fun u => CW.out u.w A3 c3 (k + 1) _ (W : Int) (by omega) ((R6.out.later hg).later u.below) SI.out)
            go_big_quiet_step (exact after_call (C6.out _))
            refine wpQuiet_nil ?_
            exact rfl
          refine wpK_seg 15 2 (f := 0) (by kernel_rfl) (fun _ _ _ _ _ h => h) (by kernel_rfl) (by kernel_rfl) (by kernel_rfl) (Grows.refl w6) ?_
          apply Exists.intro
          refine ⟨?_, ?_⟩
          · intro wg hg
            simp only [List.drop_succ_cons, List.drop_zero, List.take_succ_cons, List.take_zero]
            repeat (go_big_quiet_step (fail))
            refine wpQuiet_nil ?_
            exact rfl
          refine wpK_end (by kernel_rfl) fun w7 g7 => ?_
          have G7 := Lib.hid (GW.out.trans (g7.mono GW.out.size))
          have B7 := Lib.hid (B2.out.trans (G7.out.mono B2.out.size))
          have U7 := Lib.hid (U2.out.later G7.out)
          clear g7 OW GW R6
          have mk0 := Lib.hid (OwnI.made (w0 := w7) (Below.refl w7.heap.size w7))
          go_wp2_with (refine wpList_appIs rfl (.tmp 67) (.tmp 68) rfl rfl mk0.out rfl (U7.out.later ((Below.refl _ w7).alloc (Nat.le_refl _) _)) (by omega) ?_)
          intro A8 c8 w8 hc8 O8 g8 n8
          have P8 := Lib.hid O8
          clear O8 g8 n8
          have Q8 := Lib.hid (P8.out.later ((Below.refl w8.heap.size w8).alloc (Nat.le_refl _) (.cells #[.int .i64 ((W : Int) + (beyond : Int))] 3)))
          have I8 := Lib.hid (Is.lit1 w8 (x := (W : Int) + (beyond : Int)) (by omega))
          go_wp2_with (refine wpList_appIs rfl (.tmp 69) (.tmp 74) rfl rfl Q8.out rfl I8.out (by omega) ?_)
          intro A9 c9 w9 hc9 O9 g9 n9
          have B9 := Lib.hid (B7.out.trans (O9.bel.mono B7.out.size))
          have F9 := Lib.hid O9.reads
          have U9 := Lib.hid (U7.out.later O9.bel)
          clear O9 g9 n9 Q8 I8 P8 mk0
          have mk1 := Lib.hid (OwnI.made (w0 := w9) (Below.refl w9.heap.size w9))
          go_wp2_with (refine wpList_appIs rfl (.tmp 76) (.tmp 77) rfl rfl mk1.out rfl (U9.out.later ((Below.refl _ w9).alloc (Nat.le_refl _) _)) (by omega) ?_)
          intro Aa ca wa hca Oa ga na
          have Pa := Lib.hid Oa
          clear Oa ga na
          have Qa := Lib.hid (Pa.out.later ((Below.refl wa.heap.size wa).alloc (Nat.le_refl _) (.cells #[.int .i64 (-1 - (beyond : Int))] 3)))
          have Ia := Lib.hid (Is.lit1 wa (x := -1 - (beyond : Int)) (by omega))
          go_wp2_with (refine wpList_appIs rfl (.tmp 78) (.tmp 82) rfl rfl Qa.out rfl Ia.out (by omega) ?_)
          intro Ab cb wb hcb Ob gb nb
          have Gb := Lib.hid Ob.bel
          have Fb := Lib.hid Ob.reads
          have F9b := Lib.hid (F9.out.later Gb.out)
          have Bb := Lib.hid (B9.out.trans (Gb.out.mono B9.out.size))
          have Ub := Lib.hid (U9.out.later Gb.out)
          clear Ob gb nb Qa Ia Pa mk1 F9 U9 B9 Gb
          have C1 := Lib.hid (CW.out wb A9 c9 _ _ (W : Int) (by omega) F9b.out SF.out)
          go_wp2_with fail
          refine C1.out.mono ?_
          rintro e wc ⟨rfl, hb⟩
          have Bc := Lib.hid (Bb.out.trans (hb.mono Bb.out.size))
          have Fc := Lib.hid (Fb.out.later hb)
          have Uc := Lib.hid (Ub.out.later hb)
          clear hb C1 Bb Fb F9b Ub
          have C2 := Lib.hid (CW.out wc Ab cb _ _ (W : Int) (by omega) Fc.out SB.out)
          go_wp2_with fail
          refine C2.out.mono ?_
          rintro e wd ⟨rfl, hb⟩
          have Bd := Lib.hid (Bc.out.trans (hb.mono Bc.out.size))
          have Ud := Lib.hid (Uc.out.later hb)
          clear hb C2 Bc Fc Uc
          have mk2 := Lib.hid (OwnI.made (w0 := wd) (Below.refl wd.heap.size wd))
          go_wp2_with (refine wpList_appIs rfl (.tmp 96) (.tmp 97) rfl rfl mk2.out rfl (Ud.out.later ((Below.refl _ wd).alloc (Nat.le_refl _) _)) (by omega) ?_)
          intro Ae ce we hce Oe ge ne
          have Pe := Lib.hid Oe
          clear Oe ge ne
          have Qe := Lib.hid (Pe.out.later ((Below.refl we.heap.size we).alloc (Nat.le_refl _) (.cells #[.int .i64 ((W : Int) - 1)] 3)))
          have Ie := Lib.hid (Is.lit1 we (x := (W : Int) - 1) (by omega))
          go_wp2_with (refine wpList_appIs rfl (.tmp 98) (.tmp 101) rfl rfl Qe.out rfl Ie.out (by omega) ?_)
          intro Af cf wf hcf Of gf nf
          have Bf := Lib.hid (Bd.out.trans (Of.bel.mono Bd.out.size))
          have Ff := Lib.hid Of.reads
          clear Of gf nf Qe Ie Pe mk2 Bd Ud
          have bl := (Below.refl wf.heap.size wf).alloc (Nat.le_refl _) (.cells #[.int .u8 115] 5)
          have CH := hash_any (c := 1) (i := (k : Int)) (wf.alloc (.cells #[.int .u8 115] 5)) (HD.out.later HD.out.lt (Bf.out.alloc Bf.out.size _)) (by omega) (by decide) (Bs.lit1 wf (x := 115) (by decide))
          rw [HHa.out] at CH
          have HCH := Lib.hid CH
          have HBl := Lib.hid bl
          clear CH bl
          go_wp2_with fail
          refine HCH.out.mono ?_
          rintro e wh ⟨rfl, hb⟩
          have hb' := HBl.out.trans (hb.mono HBl.out.size)
          have Bh := Lib.hid (Bf.out.trans (hb'.mono Bf.out.size))
          have Fh := Lib.hid (Ff.out.later hb')
          clear hb hb' HCH HBl Bf Ff
          go_wp2_with (refine wpList_store_ro rfl (.tmp 17) (.tmp 105) rfl rfl rfl row26 (Ro.new wh 27 (vals z32)) rfl lH.out (vals_one _) ?_)
          intro wi Ri gi
          have Bi := Lib.hid (Bh.out.trans ((box_store gi).mono Bh.out.size))
          have Fi := Lib.hid (Fh.out.later (box_store gi))
          have HRi := Lib.hid Ri
          clear Ri gi Bh Fh
          go_wp2_with fail
          refine wp_region_seg (W := wi) (by kernel_rfl) fun wj gj => ?_
          refine wpK_seg 0 8 (f := 11) (by kernel_rfl) (fun _ _ _ _ _ h => h) (by kernel_rfl) (by kernel_rfl) (by kernel_rfl) gj ?_
          apply Exists.intro
          refine ⟨?_, ?_⟩
          · intro wg hg
            simp only [List.drop_zero, List.take_succ_cons, List.take_zero]
            have C6 : Hid (∀ u : After wg, Calls Tryd.prog 12 #[.slice Af (k + 1) cf, .int .i64 (γ : Nat)] u.w fun e w' => e = .returned (.int .i64 ((W : Int) + (γ : Int))) ∧ Below u.w.heap.size u.w w') := Lib.hid (fun u => CW.out u.w Af cf (k + 1) _ _ (by omega) ((Fi.out.later hg).later u.below) SLI.out)
            repeat (go_big_quiet_step (fail))
            go_big_quiet_step (exact after_call (C6.out _))
            repeat (go_big_quiet_step (fail))
            refine wpQuiet_nil ?_
            exact rfl
          refine wpK_seg 8 1 (f := 10) (by kernel_rfl) (fun _ _ _ _ _ h => h) (by kernel_rfl) (by kernel_rfl) (by kernel_rfl) gj ?_
          apply Exists.intro
          refine ⟨?_, ?_⟩
          · intro wg hg
            simp only [List.drop_succ_cons, List.drop_zero, List.take_succ_cons, List.take_zero]
            go_big_quiet_want
            refine quiet_load_part (.tmp 17) rfl rfl row26 (fun w9 h9 => by obtain ⟨u, rfl⟩ := h9; exact range_later (rangeOf HRi.out) HRi.out.lt (hg.trans u.below)) lH.out ?_
            simp only [Act.put, List.setIfInBounds_toArray, List.set_cons_succ, List.set_cons_zero]
            go_big_quiet_on
            refine wpQuiet_nil ?_
            exact rfl
          refine wpK_seg 10 1 (f := 9) (by kernel_rfl) (fun _ _ _ _ _ h => h) (by kernel_rfl) (by kernel_rfl) (by kernel_rfl) gj ?_
          apply Exists.intro
          refine ⟨?_, ?_⟩
          · intro wg hg
            simp only [List.drop_succ_cons, List.drop_zero, List.take_succ_cons, List.take_zero]
            go_big_quiet_step (fail)
            refine wpQuiet_nil ?_
            exact rfl
          refine wpK_call_want (f := 8) (i := 9) (by kernel_rfl) rfl (by rfl) gj ?_
          intro wk gk K hK
          refine wp_litB (d := some 115) rfl (.const (.int .u8 115)) rfl rfl ?_
          simp only [Act.put, List.setIfInBounds_toArray, List.set_cons_succ, List.set_cons_zero]
          have GN := Lib.hid (Grows.trans gk ((Below.refl wk.heap.size wk).alloc (Nat.le_refl _) (.cells #[.int .u8 115] 5)))
          refine hK _ _ ((Below.refl wk.heap.size wk).alloc (Nat.le_refl _) (.cells #[.int .u8 115] 5)) ?_
          clear hK K
          have LB := Lib.hid (Bs.lit1 wk (x := 115) (by decide))
          refine wpK_from GN.out _ _ _ _ ?_
          refine wpK_call_want (f := 7) (i := 11) (by kernel_rfl) rfl (by rfl) (Grows.refl _) ?_
          intro wl gl K hK
          have bb : Below w.heap.size w wl := Bi.out.trans (Below.mono (Grows.trans GN.out gl) Bi.out.size)
          go_simp
          have CS := script_any (c := 1) (i := (k : Int)) wl (HD.out.later HD.out.lt bb) (by omega) (by decide) (LB.out.later gl)
          rw [HSc.out] at CS
          refine CS.mono ?_
          rintro e wn ⟨A5, n5, c5, rfl, _, O5⟩
          refine hK _ _ O5.bel ?_
          have GM := Lib.hid (Grows.trans gl O5.bel)
          have PM := Lib.hid O5.reads
          have n22 : n5 ≤ 1000 := by have := O5.len; have := lS.out; omega
          clear hK K O5 bb CS
          refine wpK_from GM.out _ _ _ _ ?_
          have GG := Lib.hid (Grows.trans GN.out GM.out)
          refine wpK_seg 12 7 (f := 0) (by kernel_rfl) (fun _ _ _ _ _ h => h) (by kernel_rfl) (by kernel_rfl) (by kernel_rfl) (Grows.refl wn) ?_
          apply Exists.intro
          refine ⟨?_, ?_⟩
          · intro wg hg
            simp only [List.drop_succ_cons, List.drop_zero, List.take_succ_cons, List.take_zero]
            have gg := Grows.trans GG.out hg
            have C7 : Hid (∀ u : After wg, Calls Tryd.prog 14 #[.slice A5 n5 c5] u.w fun e w' => e = .returned (.agg (vals H).toArray) ∧ Below u.w.heap.size u.w w') := Lib.hid (fun u => by
              rw [← HH.out]; exact refSum_any (c := c5) u.w (by omega) ((PM.out.later hg).later u.below))
            have BU : Hid (∀ u : After wg, Below w.heap.size w u.w) := Lib.hid (fun u => (Bi.out.trans (gg.mono Bi.out.size)).trans (u.below.mono (Nat.le_trans Bi.out.size gg.size)))
            have C8 : Hid (∀ u : After wg, Calls Tryd.prog 7 #[] u.w fun e w' => e = .returned (.bool true) ∧ Below u.w.heap.size u.w w') := Lib.hid (fun u => works_any u.w (HD.out.later HD.out.lt (BU.out u)))
            clear gg
            go_big_quiet_step (exact after_call (C7.out _))
            repeat (go_big_quiet_step (fail))
            go_big_quiet_step (exact after_call (C8.out _))
            repeat (go_big_quiet_step (fail))
            refine wpQuiet_nil ?_
            exact rfl
          refine wpK_end (by kernel_rfl) fun wz gz => ?_
          have gg := Grows.trans GG.out gz
          have Bz := Lib.hid (Bi.out.trans (gg.mono Bi.out.size))
          clear gg gz
          go_wp2_with fail
          go_ret
          exact ⟨rfl, Bz.out⟩
        · intro wx12 gx13 K hK
          have GXwx12 := Lib.hid (GWwy3.out.trans (gx13.mono GWwy3.out.size))
          have OWNwx12 := Lib.hid (OWNwy3.out.later gx13)
          refine wp_litI (d := some 60) rfl (.tmp 59) rfl rfl ?_
          simp only [Act.put, List.setIfInBounds_toArray, List.set_cons_succ, List.set_cons_zero]
          have LITwl14 := Lib.hid (Is.lit1 wx12 (x := (ρ : Int)) (by omega))
          have GWwl14 := Lib.hid (GXwx12.out.alloc GXwx12.out.size (.cells #[.int .i64 (ρ : Int)] 3))
          have OWNwl14 := Lib.hid (OWNwx12.out.later ((Below.refl wx12.heap.size wx12).alloc (Nat.le_refl _) (.cells #[.int .i64 (ρ : Int)] 3)))
          have NEwl14 : Hid (wx12.heap.size ≠ wx1.heap.size) := Lib.hid (by have := (OWNwx12.out.new _ rfl).2; dsimp only at this; omega)
          refine hK _ _ GWwl14.out ?_
          clear hK K
          refine wpK_one_want (f := 4) (i := 5) (by kernel_rfl) rfl (by rfl) ?_
          intro wx15 gx16 K hK
          have GXwx15 := Lib.hid (GWwl14.out.trans (gx16.mono GWwl14.out.size))
          have OWNwx15 := Lib.hid (OWNwl14.out.later gx16)
          have LITwx15 := Lib.hid (LITwl14.out.later gx16)
          refine wp_appI (d := some 55) rfl (.tmp 53) (.tmp 54) rfl rfl OWNwx15.out rfl (U2.out.later GXwx15.out) (by omega) ?_
          intro A2 c2 wz17 O2 g2
          simp only [Act.put, List.setIfInBounds_toArray, List.set_cons_succ, List.set_cons_zero]
          have GWwz17 := Lib.hid (GXwx15.out.grown g2 GXwx15.out.size (fun q e => (OWNwx15.out.new q e).1))
          have LITwz17 := Lib.hid (LITwx15.out.far g2 (fun a e h => by injection e with e; subst e; injection h with h; exact NEwl14.out h))
          rw [Nat.zero_add, List.nil_append] at O2
          have OWNwz17 := Lib.hid O2
          clear O2 g2
          simp only [Nat.zero_add]
          refine hK _ _ GWwz17.out ?_
          clear hK K
          refine wpK_one_want (f := 3) (i := 11) (by kernel_rfl) rfl (by rfl) ?_
          intro wx18 gx19 K hK
          have GXwx18 := Lib.hid (GWwz17.out.trans (gx19.mono GWwz17.out.size))
          have OWNwx18 := Lib.hid (OWNwz17.out.later gx19)
          have LITwx18 := Lib.hid (LITwz17.out.later gx19)
          refine wp_appI (d := some 61) rfl (.tmp 55) (.tmp 60) rfl rfl OWNwx18.out rfl LITwx18.out (by omega) ?_
          intro A3 c3 w6 O3 g3
          simp only [Act.put, List.setIfInBounds_toArray, List.set_cons_succ, List.set_cons_zero]
          have GW := Lib.hid (GXwx18.out.grown g3 GXwx18.out.size (fun q e => (OWNwx18.out.new q e).1))
          have OW := Lib.hid O3
          clear O3 g3
          refine hK _ _ GW.out ?_
          clear hK K
          have R6 := Lib.hid OW.out.reads
          refine wpK_from GW.out _ _ _ _ ?_
          refine wpK_seg 13 1 (f := 2) (by kernel_rfl) (fun _ _ _ _ _ h => h) (by kernel_rfl) (by kernel_rfl) (by kernel_rfl) (Grows.refl w6) ?_
          apply Exists.intro
          refine ⟨?_, ?_⟩
          · intro wg hg
            simp only [List.drop_succ_cons, List.drop_zero, List.take_succ_cons, List.take_zero]
            have C6 : Hid (∀ u : After wg, Calls Tryd.prog 12 #[.slice A3 (k + 1) c3, .int .i64 (γ : Nat)] u.w fun e w' => e = .returned (.int .i64 (W : Int)) ∧ Below u.w.heap.size u.w w') := Lib.hid (fun u => CW.out u.w A3 c3 (k + 1) _ (W : Int) (by omega) ((R6.out.later hg).later u.below) SI.out)
            go_big_quiet_step (exact after_call (C6.out _))
            refine wpQuiet_nil ?_
            exact rfl
          refine wpK_seg 15 2 (f := 0) (by kernel_rfl) (fun _ _ _ _ _ h => h) (by kernel_rfl) (by kernel_rfl) (by kernel_rfl) (Grows.refl w6) ?_
          apply Exists.intro
          refine ⟨?_, ?_⟩
          · intro wg hg
            simp only [List.drop_succ_cons, List.drop_zero, List.take_succ_cons, List.take_zero]
            repeat (go_big_quiet_step (fail))
            refine wpQuiet_nil ?_
            exact rfl
          refine wpK_end (by kernel_rfl) fun w7 g7 => ?_
          have G7 := Lib.hid (GW.out.trans (g7.mono GW.out.size))
          have B7 := Lib.hid (B2.out.trans (G7.out.mono B2.out.size))
          have U7 := Lib.hid (U2.out.later G7.out)
          clear g7 OW GW R6
          have mk0 := Lib.hid (OwnI.made (w0 := w7) (Below.refl w7.heap.size w7))
          go_wp2_with (refine wpList_appIs rfl (.tmp 67) (.tmp 68) rfl rfl mk0.out rfl (U7.out.later ((Below.refl _ w7).alloc (Nat.le_refl _) _)) (by omega) ?_)
          intro A8 c8 w8 hc8 O8 g8 n8
          have P8 := Lib.hid O8
          clear O8 g8 n8
          have Q8 := Lib.hid (P8.out.later ((Below.refl w8.heap.size w8).alloc (Nat.le_refl _) (.cells #[.int .i64 ((W : Int) + (beyond : Int))] 3)))
          have I8 := Lib.hid (Is.lit1 w8 (x := (W : Int) + (beyond : Int)) (by omega))
          go_wp2_with (refine wpList_appIs rfl (.tmp 69) (.tmp 74) rfl rfl Q8.out rfl I8.out (by omega) ?_)
          intro A9 c9 w9 hc9 O9 g9 n9
          have B9 := Lib.hid (B7.out.trans (O9.bel.mono B7.out.size))
          have F9 := Lib.hid O9.reads
          have U9 := Lib.hid (U7.out.later O9.bel)
          clear O9 g9 n9 Q8 I8 P8 mk0
          have mk1 := Lib.hid (OwnI.made (w0 := w9) (Below.refl w9.heap.size w9))
          go_wp2_with (refine wpList_appIs rfl (.tmp 76) (.tmp 77) rfl rfl mk1.out rfl (U9.out.later ((Below.refl _ w9).alloc (Nat.le_refl _) _)) (by omega) ?_)
          intro Aa ca wa hca Oa ga na
          have Pa := Lib.hid Oa
          clear Oa ga na
          have Qa := Lib.hid (Pa.out.later ((Below.refl wa.heap.size wa).alloc (Nat.le_refl _) (.cells #[.int .i64 (-1 - (beyond : Int))] 3)))
          have Ia := Lib.hid (Is.lit1 wa (x := -1 - (beyond : Int)) (by omega))
          go_wp2_with (refine wpList_appIs rfl (.tmp 78) (.tmp 82) rfl rfl Qa.out rfl Ia.out (by omega) ?_)
          intro Ab cb wb hcb Ob gb nb
          have Gb := Lib.hid Ob.bel
          have Fb := Lib.hid Ob.reads
          have F9b := Lib.hid (F9.out.later Gb.out)
          have Bb := Lib.hid (B9.out.trans (Gb.out.mono B9.out.size))
          have Ub := Lib.hid (U9.out.later Gb.out)
          clear Ob gb nb Qa Ia Pa mk1 F9 U9 B9 Gb
          have C1 := Lib.hid (CW.out wb A9 c9 _ _ (W : Int) (by omega) F9b.out SF.out)
          go_wp2_with fail
          refine C1.out.mono ?_
          rintro e wc ⟨rfl, hb⟩
          have Bc := Lib.hid (Bb.out.trans (hb.mono Bb.out.size))
          have Fc := Lib.hid (Fb.out.later hb)
          have Uc := Lib.hid (Ub.out.later hb)
          clear hb C1 Bb Fb F9b Ub
          have C2 := Lib.hid (CW.out wc Ab cb _ _ (W : Int) (by omega) Fc.out SB.out)
          go_wp2_with fail
          refine C2.out.mono ?_
          rintro e wd ⟨rfl, hb⟩
          have Bd := Lib.hid (Bc.out.trans (hb.mono Bc.out.size))
          have Ud := Lib.hid (Uc.out.later hb)
          clear hb C2 Bc Fc Uc
          have mk2 := Lib.hid (OwnI.made (w0 := wd) (Below.refl wd.heap.size wd))
          go_wp2_with (refine wpList_appIs rfl (.tmp 96) (.tmp 97) rfl rfl mk2.out rfl (Ud.out.later ((Below.refl _ wd).alloc (Nat.le_refl _) _)) (by omega) ?_)
          intro Ae ce we hce Oe ge ne
          have Pe := Lib.hid Oe
          clear Oe ge ne
          have Qe := Lib.hid (Pe.out.later ((Below.refl we.heap.size we).alloc (Nat.le_refl _) (.cells #[.int .i64 ((W : Int) - 1)] 3)))
          have Ie := Lib.hid (Is.lit1 we (x := (W : Int) - 1) (by omega))
          go_wp2_with (refine wpList_appIs rfl (.tmp 98) (.tmp 101) rfl rfl Qe.out rfl Ie.out (by omega) ?_)
          intro Af cf wf hcf Of gf nf
          have Bf := Lib.hid (Bd.out.trans (Of.bel.mono Bd.out.size))
          have Ff := Lib.hid Of.reads
          clear Of gf nf Qe Ie Pe mk2 Bd Ud
          have bl := (Below.refl wf.heap.size wf).alloc (Nat.le_refl _) (.cells #[.int .u8 115] 5)
          have CH := hash_any (c := 1) (i := (k : Int)) (wf.alloc (.cells #[.int .u8 115] 5)) (HD.out.later HD.out.lt (Bf.out.alloc Bf.out.size _)) (by omega) (by decide) (Bs.lit1 wf (x := 115) (by decide))
          rw [HHa.out] at CH
          have HCH := Lib.hid CH
          have HBl := Lib.hid bl
          clear CH bl
          go_wp2_with fail
          refine HCH.out.mono ?_
          rintro e wh ⟨rfl, hb⟩
          have hb' := HBl.out.trans (hb.mono HBl.out.size)
          have Bh := Lib.hid (Bf.out.trans (hb'.mono Bf.out.size))
          have Fh := Lib.hid (Ff.out.later hb')
          clear hb hb' HCH HBl Bf Ff
          go_wp2_with (refine wpList_store_ro rfl (.tmp 17) (.tmp 105) rfl rfl rfl row26 (Ro.new wh 27 (vals z32)) rfl lH.out (vals_one _) ?_)
          intro wi Ri gi
          have Bi := Lib.hid (Bh.out.trans ((box_store gi).mono Bh.out.size))
          have Fi := Lib.hid (Fh.out.later (box_store gi))
          have HRi := Lib.hid Ri
          clear Ri gi Bh Fh
          go_wp2_with fail
          refine wp_region_seg (W := wi) (by kernel_rfl) fun wj gj => ?_
          refine wpK_seg 0 8 (f := 11) (by kernel_rfl) (fun _ _ _ _ _ h => h) (by kernel_rfl) (by kernel_rfl) (by kernel_rfl) gj ?_
          apply Exists.intro
          refine ⟨?_, ?_⟩
          · intro wg hg
            simp only [List.drop_zero, List.take_succ_cons, List.take_zero]
            have C6 : Hid (∀ u : After wg, Calls Tryd.prog 12 #[.slice Af (k + 1) cf, .int .i64 (γ : Nat)] u.w fun e w' => e = .returned (.int .i64 ((W : Int) + (γ : Int))) ∧ Below u.w.heap.size u.w w') := Lib.hid (fun u => CW.out u.w Af cf (k + 1) _ _ (by omega) ((Fi.out.later hg).later u.below) SLI.out)
            repeat (go_big_quiet_step (fail))
            go_big_quiet_step (exact after_call (C6.out _))
            repeat (go_big_quiet_step (fail))
            refine wpQuiet_nil ?_
            exact rfl
          refine wpK_seg 8 1 (f := 10) (by kernel_rfl) (fun _ _ _ _ _ h => h) (by kernel_rfl) (by kernel_rfl) (by kernel_rfl) gj ?_
          apply Exists.intro
          refine ⟨?_, ?_⟩
          · intro wg hg
            simp only [List.drop_succ_cons, List.drop_zero, List.take_succ_cons, List.take_zero]
            go_big_quiet_want
            refine quiet_load_part (.tmp 17) rfl rfl row26 (fun w9 h9 => by obtain ⟨u, rfl⟩ := h9; exact range_later (rangeOf HRi.out) HRi.out.lt (hg.trans u.below)) lH.out ?_
            simp only [Act.put, List.setIfInBounds_toArray, List.set_cons_succ, List.set_cons_zero]
            go_big_quiet_on
            refine wpQuiet_nil ?_
            exact rfl
          refine wpK_seg 10 1 (f := 9) (by kernel_rfl) (fun _ _ _ _ _ h => h) (by kernel_rfl) (by kernel_rfl) (by kernel_rfl) gj ?_
          apply Exists.intro
          refine ⟨?_, ?_⟩
          · intro wg hg
            simp only [List.drop_succ_cons, List.drop_zero, List.take_succ_cons, List.take_zero]
            go_big_quiet_step (fail)
            refine wpQuiet_nil ?_
            exact rfl
          refine wpK_call_want (f := 8) (i := 9) (by kernel_rfl) rfl (by rfl) gj ?_
          intro wk gk K hK
          refine wp_litB (d := some 115) rfl (.const (.int .u8 115)) rfl rfl ?_
          simp only [Act.put, List.setIfInBounds_toArray, List.set_cons_succ, List.set_cons_zero]
          have GN := Lib.hid (Grows.trans gk ((Below.refl wk.heap.size wk).alloc (Nat.le_refl _) (.cells #[.int .u8 115] 5)))
          refine hK _ _ ((Below.refl wk.heap.size wk).alloc (Nat.le_refl _) (.cells #[.int .u8 115] 5)) ?_
          clear hK K
          have LB := Lib.hid (Bs.lit1 wk (x := 115) (by decide))
          refine wpK_from GN.out _ _ _ _ ?_
          refine wpK_call_want (f := 7) (i := 11) (by kernel_rfl) rfl (by rfl) (Grows.refl _) ?_
          intro wl gl K hK
          have bb : Below w.heap.size w wl := Bi.out.trans (Below.mono (Grows.trans GN.out gl) Bi.out.size)
          go_simp
          have CS := script_any (c := 1) (i := (k : Int)) wl (HD.out.later HD.out.lt bb) (by omega) (by decide) (LB.out.later gl)
          rw [HSc.out] at CS
          refine CS.mono ?_
          rintro e wn ⟨A5, n5, c5, rfl, _, O5⟩
          refine hK _ _ O5.bel ?_
          have GM := Lib.hid (Grows.trans gl O5.bel)
          have PM := Lib.hid O5.reads
          have n22 : n5 ≤ 1000 := by have := O5.len; have := lS.out; omega
          clear hK K O5 bb CS
          refine wpK_from GM.out _ _ _ _ ?_
          have GG := Lib.hid (Grows.trans GN.out GM.out)
          refine wpK_seg 12 7 (f := 0) (by kernel_rfl) (fun _ _ _ _ _ h => h) (by kernel_rfl) (by kernel_rfl) (by kernel_rfl) (Grows.refl wn) ?_
          apply Exists.intro
          refine ⟨?_, ?_⟩
          · intro wg hg
            simp only [List.drop_succ_cons, List.drop_zero, List.take_succ_cons, List.take_zero]
            have gg := Grows.trans GG.out hg
            have C7 : Hid (∀ u : After wg, Calls Tryd.prog 14 #[.slice A5 n5 c5] u.w fun e w' => e = .returned (.agg (vals H).toArray) ∧ Below u.w.heap.size u.w w') := Lib.hid (fun u => by
              rw [← HH.out]; exact refSum_any (c := c5) u.w (by omega) ((PM.out.later hg).later u.below))
            have BU : Hid (∀ u : After wg, Below w.heap.size w u.w) := Lib.hid (fun u => (Bi.out.trans (gg.mono Bi.out.size)).trans (u.below.mono (Nat.le_trans Bi.out.size gg.size)))
            have C8 : Hid (∀ u : After wg, Calls Tryd.prog 7 #[] u.w fun e w' => e = .returned (.bool true) ∧ Below u.w.heap.size u.w w') := Lib.hid (fun u => works_any u.w (HD.out.later HD.out.lt (BU.out u)))
            clear gg
            go_big_quiet_step (exact after_call (C7.out _))
            repeat (go_big_quiet_step (fail))
            go_big_quiet_step (exact after_call (C8.out _))
            repeat (go_big_quiet_step (fail))
            refine wpQuiet_nil ?_
            exact rfl
          refine wpK_end (by kernel_rfl) fun wz gz => ?_
          have gg := Grows.trans GG.out gz
          have Bz := Lib.hid (Bi.out.trans (gg.mono Bi.out.size))
          clear gg gz
          go_wp2_with fail
          go_ret
          exact ⟨rfl, Bz.out⟩
      · intro wx20 gx21 K hK
        have GXwx20 := Lib.hid (GQ.out.trans (gx21.mono GQ.out.size))
        refine wp_litI (d := some 60) rfl (.tmp 59) rfl rfl ?_
        simp only [Act.put, List.setIfInBounds_toArray, List.set_cons_succ, List.set_cons_zero]
        have LITwl22 := Lib.hid (Is.lit1 wx20 (x := (ρ : Int)) (by omega))
        have GWwl22 := Lib.hid (GXwx20.out.alloc GXwx20.out.size (.cells #[.int .i64 (ρ : Int)] 3))
        refine hK _ _ GWwl22.out ?_
        clear hK K
        refine wpK_one_want (f := 5) (i := 3) (by kernel_rfl) rfl (by rfl) ?_
        intro wx23 gx24 K hK
        have GXwx23 := Lib.hid (GWwl22.out.trans (gx24.mono GWwl22.out.size))
        have LITwx23 := Lib.hid (LITwl22.out.later gx24)
        refine wp_litI0 (d := some 53) rfl rfl ?_
        simp only [Act.put, List.setIfInBounds_toArray, List.set_cons_succ, List.set_cons_zero]
        have OWNwy25 := Lib.hid (OwnI.made (w0 := w2) GXwx23.out)
        have GWwy25 := Lib.hid (GXwx23.out.alloc GXwx23.out.size (.cells #[] 3))
        have LITwy25 := Lib.hid (LITwx23.out.later ((Below.refl wx23.heap.size wx23).alloc (Nat.le_refl _) (.cells #[] 3)))
        have NEwy25 : Hid (wx20.heap.size ≠ wx23.heap.size) := Lib.hid (by obtain ⟨bb, oo, ee, hh, _⟩ := LITwx23.out.cel (by decide); injection ee with ee; injection ee with ee; omega)
        refine hK _ _ GWwy25.out ?_
        clear hK K
        refine wpK_one_want (f := 4) (i := 5) (by kernel_rfl) rfl (by rfl) ?_
        intro wx26 gx27 K hK
        have GXwx26 := Lib.hid (GWwy25.out.trans (gx27.mono GWwy25.out.size))
        have OWNwx26 := Lib.hid (OWNwy25.out.later gx27)
        have LITwx26 := Lib.hid (LITwy25.out.later gx27)
        refine wp_appI (d := some 55) rfl (.tmp 53) (.tmp 54) rfl rfl OWNwx26.out rfl (U2.out.later GXwx26.out) (by omega) ?_
        intro A2 c2 wz28 O2 g2
        simp only [Act.put, List.setIfInBounds_toArray, List.set_cons_succ, List.set_cons_zero]
        have GWwz28 := Lib.hid (GXwx26.out.grown g2 GXwx26.out.size (fun q e => (OWNwx26.out.new q e).1))
        have LITwz28 := Lib.hid (LITwx26.out.far g2 (fun a e h => by injection e with e; subst e; injection h with h; exact NEwy25.out h))
        rw [Nat.zero_add, List.nil_append] at O2
        have OWNwz28 := Lib.hid O2
        clear O2 g2
        simp only [Nat.zero_add]
        refine hK _ _ GWwz28.out ?_
        clear hK K
        refine wpK_one_want (f := 3) (i := 11) (by kernel_rfl) rfl (by rfl) ?_
        intro wx29 gx30 K hK
        have GXwx29 := Lib.hid (GWwz28.out.trans (gx30.mono GWwz28.out.size))
        have OWNwx29 := Lib.hid (OWNwz28.out.later gx30)
        have LITwx29 := Lib.hid (LITwz28.out.later gx30)
        refine wp_appI (d := some 61) rfl (.tmp 55) (.tmp 60) rfl rfl OWNwx29.out rfl LITwx29.out (by omega) ?_
        intro A3 c3 w6 O3 g3
        simp only [Act.put, List.setIfInBounds_toArray, List.set_cons_succ, List.set_cons_zero]
        have GW := Lib.hid (GXwx29.out.grown g3 GXwx29.out.size (fun q e => (OWNwx29.out.new q e).1))
        have OW := Lib.hid O3
        clear O3 g3
        refine hK _ _ GW.out ?_
        clear hK K
        have R6 := Lib.hid OW.out.reads
        refine wpK_from GW.out _ _ _ _ ?_
        refine wpK_seg 13 1 (f := 2) (by kernel_rfl) (fun _ _ _ _ _ h => h) (by kernel_rfl) (by kernel_rfl) (by kernel_rfl) (Grows.refl w6) ?_
        apply Exists.intro
        refine ⟨?_, ?_⟩
        · intro wg hg
          simp only [List.drop_succ_cons, List.drop_zero, List.take_succ_cons, List.take_zero]
          have C6 : Hid (∀ u : After wg, Calls Tryd.prog 12 #[.slice A3 (k + 1) c3, .int .i64 (γ : Nat)] u.w fun e w' => e = .returned (.int .i64 (W : Int)) ∧ Below u.w.heap.size u.w w') := Lib.hid (fun u => CW.out u.w A3 c3 (k + 1) _ (W : Int) (by omega) ((R6.out.later hg).later u.below) SI.out)
          go_big_quiet_step (exact after_call (C6.out _))
          refine wpQuiet_nil ?_
          exact rfl
        refine wpK_seg 15 2 (f := 0) (by kernel_rfl) (fun _ _ _ _ _ h => h) (by kernel_rfl) (by kernel_rfl) (by kernel_rfl) (Grows.refl w6) ?_
        apply Exists.intro
        refine ⟨?_, ?_⟩
        · intro wg hg
          simp only [List.drop_succ_cons, List.drop_zero, List.take_succ_cons, List.take_zero]
          repeat (go_big_quiet_step (fail))
          refine wpQuiet_nil ?_
          exact rfl
        refine wpK_end (by kernel_rfl) fun w7 g7 => ?_
        have G7 := Lib.hid (GW.out.trans (g7.mono GW.out.size))
        have B7 := Lib.hid (B2.out.trans (G7.out.mono B2.out.size))
        have U7 := Lib.hid (U2.out.later G7.out)
        clear g7 OW GW R6
        have mk0 := Lib.hid (OwnI.made (w0 := w7) (Below.refl w7.heap.size w7))
        go_wp2_with (refine wpList_appIs rfl (.tmp 67) (.tmp 68) rfl rfl mk0.out rfl (U7.out.later ((Below.refl _ w7).alloc (Nat.le_refl _) _)) (by omega) ?_)
        intro A8 c8 w8 hc8 O8 g8 n8
        have P8 := Lib.hid O8
        clear O8 g8 n8
        have Q8 := Lib.hid (P8.out.later ((Below.refl w8.heap.size w8).alloc (Nat.le_refl _) (.cells #[.int .i64 ((W : Int) + (beyond : Int))] 3)))
        have I8 := Lib.hid (Is.lit1 w8 (x := (W : Int) + (beyond : Int)) (by omega))
        go_wp2_with (refine wpList_appIs rfl (.tmp 69) (.tmp 74) rfl rfl Q8.out rfl I8.out (by omega) ?_)
        intro A9 c9 w9 hc9 O9 g9 n9
        have B9 := Lib.hid (B7.out.trans (O9.bel.mono B7.out.size))
        have F9 := Lib.hid O9.reads
        have U9 := Lib.hid (U7.out.later O9.bel)
        clear O9 g9 n9 Q8 I8 P8 mk0
        have mk1 := Lib.hid (OwnI.made (w0 := w9) (Below.refl w9.heap.size w9))
        go_wp2_with (refine wpList_appIs rfl (.tmp 76) (.tmp 77) rfl rfl mk1.out rfl (U9.out.later ((Below.refl _ w9).alloc (Nat.le_refl _) _)) (by omega) ?_)
        intro Aa ca wa hca Oa ga na
        have Pa := Lib.hid Oa
        clear Oa ga na
        have Qa := Lib.hid (Pa.out.later ((Below.refl wa.heap.size wa).alloc (Nat.le_refl _) (.cells #[.int .i64 (-1 - (beyond : Int))] 3)))
        have Ia := Lib.hid (Is.lit1 wa (x := -1 - (beyond : Int)) (by omega))
        go_wp2_with (refine wpList_appIs rfl (.tmp 78) (.tmp 82) rfl rfl Qa.out rfl Ia.out (by omega) ?_)
        intro Ab cb wb hcb Ob gb nb
        have Gb := Lib.hid Ob.bel
        have Fb := Lib.hid Ob.reads
        have F9b := Lib.hid (F9.out.later Gb.out)
        have Bb := Lib.hid (B9.out.trans (Gb.out.mono B9.out.size))
        have Ub := Lib.hid (U9.out.later Gb.out)
        clear Ob gb nb Qa Ia Pa mk1 F9 U9 B9 Gb
        have C1 := Lib.hid (CW.out wb A9 c9 _ _ (W : Int) (by omega) F9b.out SF.out)
        go_wp2_with fail
        refine C1.out.mono ?_
        rintro e wc ⟨rfl, hb⟩
        have Bc := Lib.hid (Bb.out.trans (hb.mono Bb.out.size))
        have Fc := Lib.hid (Fb.out.later hb)
        have Uc := Lib.hid (Ub.out.later hb)
        clear hb C1 Bb Fb F9b Ub
        have C2 := Lib.hid (CW.out wc Ab cb _ _ (W : Int) (by omega) Fc.out SB.out)
        go_wp2_with fail
        refine C2.out.mono ?_
        rintro e wd ⟨rfl, hb⟩
        have Bd := Lib.hid (Bc.out.trans (hb.mono Bc.out.size))
        have Ud := Lib.hid (Uc.out.later hb)
        clear hb C2 Bc Fc Uc
        have mk2 := Lib.hid (OwnI.made (w0 := wd) (Below.refl wd.heap.size wd))
        go_wp2_with (refine wpList_appIs rfl (.tmp 96) (.tmp 97) rfl rfl mk2.out rfl (Ud.out.later ((Below.refl _ wd).alloc (Nat.le_refl _) _)) (by omega) ?_)
        intro Ae ce we hce Oe ge ne
        have Pe := Lib.hid Oe
        clear Oe ge ne
        have Qe := Lib.hid (Pe.out.later ((Below.refl we.heap.size we).alloc (Nat.le_refl _) (.cells #[.int .i64 ((W : Int) - 1)] 3)))
        have Ie := Lib.hid (Is.lit1 we (x := (W : Int) - 1) (by omega))
        go_wp2_with (refine wpList_appIs rfl (.tmp 98) (.tmp 101) rfl rfl Qe.out rfl Ie.out (by omega) ?_)
        intro Af cf wf hcf Of gf nf
        have Bf := Lib.hid (Bd.out.trans (Of.bel.mono Bd.out.size))
        have Ff := Lib.hid Of.reads
        clear Of gf nf Qe Ie Pe mk2 Bd Ud
        have bl := (Below.refl wf.heap.size wf).alloc (Nat.le_refl _) (.cells #[.int .u8 115] 5)
        have CH := hash_any (c := 1) (i := (k : Int)) (wf.alloc (.cells #[.int .u8 115] 5)) (HD.out.later HD.out.lt (Bf.out.alloc Bf.out.size _)) (by omega) (by decide) (Bs.lit1 wf (x := 115) (by decide))
        rw [HHa.out] at CH
        have HCH := Lib.hid CH
        have HBl := Lib.hid bl
        clear CH bl
        go_wp2_with fail
        refine HCH.out.mono ?_
        rintro e wh ⟨rfl, hb⟩
        have hb' := HBl.out.trans (hb.mono HBl.out.size)
        have Bh := Lib.hid (Bf.out.trans (hb'.mono Bf.out.size))
        have Fh := Lib.hid (Ff.out.later hb')
        clear hb hb' HCH HBl Bf Ff
        go_wp2_with (refine wpList_store_ro rfl (.tmp 17) (.tmp 105) rfl rfl rfl row26 (Ro.new wh 27 (vals z32)) rfl lH.out (vals_one _) ?_)
        intro wi Ri gi
        have Bi := Lib.hid (Bh.out.trans ((box_store gi).mono Bh.out.size))
        have Fi := Lib.hid (Fh.out.later (box_store gi))
        have HRi := Lib.hid Ri
        clear Ri gi Bh Fh
        go_wp2_with fail
        refine wp_region_seg (W := wi) (by kernel_rfl) fun wj gj => ?_
        refine wpK_seg 0 8 (f := 11) (by kernel_rfl) (fun _ _ _ _ _ h => h) (by kernel_rfl) (by kernel_rfl) (by kernel_rfl) gj ?_
        apply Exists.intro
        refine ⟨?_, ?_⟩
        · intro wg hg
          simp only [List.drop_zero, List.take_succ_cons, List.take_zero]
          have C6 : Hid (∀ u : After wg, Calls Tryd.prog 12 #[.slice Af (k + 1) cf, .int .i64 (γ : Nat)] u.w fun e w' => e = .returned (.int .i64 ((W : Int) + (γ : Int))) ∧ Below u.w.heap.size u.w w') := Lib.hid (fun u => CW.out u.w Af cf (k + 1) _ _ (by omega) ((Fi.out.later hg).later u.below) SLI.out)
          repeat (go_big_quiet_step (fail))
          go_big_quiet_step (exact after_call (C6.out _))
          repeat (go_big_quiet_step (fail))
          refine wpQuiet_nil ?_
          exact rfl
        refine wpK_seg 8 1 (f := 10) (by kernel_rfl) (fun _ _ _ _ _ h => h) (by kernel_rfl) (by kernel_rfl) (by kernel_rfl) gj ?_
        apply Exists.intro
        refine ⟨?_, ?_⟩
        · intro wg hg
          simp only [List.drop_succ_cons, List.drop_zero, List.take_succ_cons, List.take_zero]
          go_big_quiet_want
          refine quiet_load_part (.tmp 17) rfl rfl row26 (fun w9 h9 => by obtain ⟨u, rfl⟩ := h9; exact range_later (rangeOf HRi.out) HRi.out.lt (hg.trans u.below)) lH.out ?_
          simp only [Act.put, List.setIfInBounds_toArray, List.set_cons_succ, List.set_cons_zero]
          go_big_quiet_on
          refine wpQuiet_nil ?_
          exact rfl
        refine wpK_seg 10 1 (f := 9) (by kernel_rfl) (fun _ _ _ _ _ h => h) (by kernel_rfl) (by kernel_rfl) (by kernel_rfl) gj ?_
        apply Exists.intro
        refine ⟨?_, ?_⟩
        · intro wg hg
          simp only [List.drop_succ_cons, List.drop_zero, List.take_succ_cons, List.take_zero]
          go_big_quiet_step (fail)
          refine wpQuiet_nil ?_
          exact rfl
        refine wpK_call_want (f := 8) (i := 9) (by kernel_rfl) rfl (by rfl) gj ?_
        intro wk gk K hK
        refine wp_litB (d := some 115) rfl (.const (.int .u8 115)) rfl rfl ?_
        simp only [Act.put, List.setIfInBounds_toArray, List.set_cons_succ, List.set_cons_zero]
        have GN := Lib.hid (Grows.trans gk ((Below.refl wk.heap.size wk).alloc (Nat.le_refl _) (.cells #[.int .u8 115] 5)))
        refine hK _ _ ((Below.refl wk.heap.size wk).alloc (Nat.le_refl _) (.cells #[.int .u8 115] 5)) ?_
        clear hK K
        have LB := Lib.hid (Bs.lit1 wk (x := 115) (by decide))
        refine wpK_from GN.out _ _ _ _ ?_
        refine wpK_call_want (f := 7) (i := 11) (by kernel_rfl) rfl (by rfl) (Grows.refl _) ?_
        intro wl gl K hK
        have bb : Below w.heap.size w wl := Bi.out.trans (Below.mono (Grows.trans GN.out gl) Bi.out.size)
        go_simp
        have CS := script_any (c := 1) (i := (k : Int)) wl (HD.out.later HD.out.lt bb) (by omega) (by decide) (LB.out.later gl)
        rw [HSc.out] at CS
        refine CS.mono ?_
        rintro e wn ⟨A5, n5, c5, rfl, _, O5⟩
        refine hK _ _ O5.bel ?_
        have GM := Lib.hid (Grows.trans gl O5.bel)
        have PM := Lib.hid O5.reads
        have n22 : n5 ≤ 1000 := by have := O5.len; have := lS.out; omega
        clear hK K O5 bb CS
        refine wpK_from GM.out _ _ _ _ ?_
        have GG := Lib.hid (Grows.trans GN.out GM.out)
        refine wpK_seg 12 7 (f := 0) (by kernel_rfl) (fun _ _ _ _ _ h => h) (by kernel_rfl) (by kernel_rfl) (by kernel_rfl) (Grows.refl wn) ?_
        apply Exists.intro
        refine ⟨?_, ?_⟩
        · intro wg hg
          simp only [List.drop_succ_cons, List.drop_zero, List.take_succ_cons, List.take_zero]
          have gg := Grows.trans GG.out hg
          have C7 : Hid (∀ u : After wg, Calls Tryd.prog 14 #[.slice A5 n5 c5] u.w fun e w' => e = .returned (.agg (vals H).toArray) ∧ Below u.w.heap.size u.w w') := Lib.hid (fun u => by
            rw [← HH.out]; exact refSum_any (c := c5) u.w (by omega) ((PM.out.later hg).later u.below))
          have BU : Hid (∀ u : After wg, Below w.heap.size w u.w) := Lib.hid (fun u => (Bi.out.trans (gg.mono Bi.out.size)).trans (u.below.mono (Nat.le_trans Bi.out.size gg.size)))
          have C8 : Hid (∀ u : After wg, Calls Tryd.prog 7 #[] u.w fun e w' => e = .returned (.bool true) ∧ Below u.w.heap.size u.w w') := Lib.hid (fun u => works_any u.w (HD.out.later HD.out.lt (BU.out u)))
          clear gg
          go_big_quiet_step (exact after_call (C7.out _))
          repeat (go_big_quiet_step (fail))
          go_big_quiet_step (exact after_call (C8.out _))
          repeat (go_big_quiet_step (fail))
          refine wpQuiet_nil ?_
          exact rfl
        refine wpK_end (by kernel_rfl) fun wz gz => ?_
        have gg := Grows.trans GG.out gz
        have Bz := Lib.hid (Bi.out.trans (gg.mono Bi.out.size))
        clear gg gz
        go_wp2_with fail
        go_ret
        exact ⟨rfl, Bz.out⟩
    · have t2 : decide ((0 : Int) < (k : Int)) = false := decide_eq_false (by omega)
      go_wp2_with fail
      refine wp_region_seg (W := w2) (by kernel_rfl) fun wq gq => ?_
      refine wpK_seg 0 3 (f := 14) (by kernel_rfl) (fun _ _ _ _ _ h => h) (by kernel_rfl) (by kernel_rfl) (by kernel_rfl) gq ?_
      apply Exists.intro
      refine ⟨?_, ?_⟩
      · intro wg hg
        simp only [List.drop_zero, List.take_succ_cons, List.take_zero]
        repeat (go_big_quiet_step (fail))
        refine wpQuiet_nil ?_
        exact rfl
      refine wpK_seg 4 1 (f := 13) (by kernel_rfl) (fun _ _ _ _ _ h => h) (by kernel_rfl) (by kernel_rfl) (by kernel_rfl) gq ?_
      apply Exists.intro
      refine ⟨?_, ?_⟩
      · intro wg hg
        simp only [List.drop_succ_cons, List.drop_zero, List.take_succ_cons, List.take_zero]
        repeat (go_big_quiet_step (fail))
        refine wpQuiet_nil ?_
        exact rfl
      refine wpK_seg 6 4 (f := 9) (by kernel_rfl) (fun _ _ _ _ _ h => h) (by kernel_rfl) (by kernel_rfl) (by kernel_rfl) gq ?_
      apply Exists.intro
      refine ⟨?_, ?_⟩
      · intro wg hg
        simp only [List.drop_succ_cons, List.drop_zero, List.take_succ_cons, List.take_zero]
        repeat (go_big_quiet_step (fail))
        refine wpQuiet_nil ?_
        exact rfl
      refine wpK_seg 12 1 (f := 8) (by kernel_rfl) (fun _ _ _ _ _ h => h) (by kernel_rfl) (by kernel_rfl) (by kernel_rfl) gq ?_
      apply Exists.intro
      refine ⟨?_, ?_⟩
      · intro wg hg
        simp only [List.drop_succ_cons, List.drop_zero, List.take_succ_cons, List.take_zero]
        repeat (go_big_quiet_step (fail))
        refine wpQuiet_nil ?_
        exact rfl
      refine wpK_seg 14 1 (f := 7) (by kernel_rfl) (fun _ _ _ _ _ h => h) (by kernel_rfl) (by kernel_rfl) (by kernel_rfl) gq ?_
      apply Exists.intro
      refine ⟨?_, ?_⟩
      · intro wg hg
        simp only [List.drop_succ_cons, List.drop_zero, List.take_succ_cons, List.take_zero]
        repeat (go_big_quiet_step (fail))
        refine wpQuiet_nil ?_
        exact rfl
      have GQ := Lib.hid (show Below w2.heap.size w2 wq from gq)
      refine wpK_skip2 (f := 6) (i := 3) (k := 10) 53 60 (by kernel_rfl) rfl rfl rfl rfl (by rfl) (by rfl) gq ?_ ?_
      · simp only [Act.put, List.setIfInBounds_toArray, List.set_cons_succ, List.set_cons_zero]
        refine wpK_skip2 (f := 5) (i := 5) (k := 10) 55 60 (by kernel_rfl) rfl rfl rfl rfl (by rfl) (by rfl) gq ?_ ?_
        · simp only [Act.put, List.setIfInBounds_toArray, List.set_cons_succ, List.set_cons_zero]
          refine wpK_skip (f := 4) (i := 10) 60 (by kernel_rfl) rfl rfl (by rfl) gq ?_
          simp only [Act.put, List.setIfInBounds_toArray, List.set_cons_succ, List.set_cons_zero]
          refine wpK_skip (f := 3) (i := 11) 61 (by kernel_rfl) rfl rfl (by rfl) gq ?_
          simp only [Act.put, List.setIfInBounds_toArray, List.set_cons_succ, List.set_cons_zero]
          refine wpK_seg 13 1 (f := 2) (by kernel_rfl) (fun _ _ _ _ _ h => h) (by kernel_rfl) (by kernel_rfl) (by kernel_rfl) gq ?_
          apply Exists.intro
          refine ⟨?_, ?_⟩
          · intro wg hg
            simp only [List.drop_succ_cons, List.drop_zero, List.take_succ_cons, List.take_zero]
            repeat (go_big_quiet_step (fail))
            refine wpQuiet_nil ?_
            exact rfl
          refine wpK_seg 15 2 (f := 0) (by kernel_rfl) (fun _ _ _ _ _ h => h) (by kernel_rfl) (by kernel_rfl) (by kernel_rfl) gq ?_
          apply Exists.intro
          refine ⟨?_, ?_⟩
          · intro wg hg
            simp only [List.drop_succ_cons, List.drop_zero, List.take_succ_cons, List.take_zero]
            repeat (go_big_quiet_step (fail))
            refine wpQuiet_nil ?_
            exact rfl
          refine wpK_end (by kernel_rfl) fun w7 g7 => ?_
          have G7 := Lib.hid (GQ.out.trans (g7.mono GQ.out.size))
          have B7 := Lib.hid (B2.out.trans (G7.out.mono B2.out.size))
          have U7 := Lib.hid (U2.out.later G7.out)
          clear g7
          have mk0 := Lib.hid (OwnI.made (w0 := w7) (Below.refl w7.heap.size w7))
          go_wp2_with (refine wpList_appIs rfl (.tmp 67) (.tmp 68) rfl rfl mk0.out rfl (U7.out.later ((Below.refl _ w7).alloc (Nat.le_refl _) _)) (by omega) ?_)
          intro A8 c8 w8 hc8 O8 g8 n8
          have P8 := Lib.hid O8
          clear O8 g8 n8
          have Q8 := Lib.hid (P8.out.later ((Below.refl w8.heap.size w8).alloc (Nat.le_refl _) (.cells #[.int .i64 ((W : Int) + (beyond : Int))] 3)))
          have I8 := Lib.hid (Is.lit1 w8 (x := (W : Int) + (beyond : Int)) (by omega))
          go_wp2_with (refine wpList_appIs rfl (.tmp 69) (.tmp 74) rfl rfl Q8.out rfl I8.out (by omega) ?_)
          intro A9 c9 w9 hc9 O9 g9 n9
          have B9 := Lib.hid (B7.out.trans (O9.bel.mono B7.out.size))
          have F9 := Lib.hid O9.reads
          have U9 := Lib.hid (U7.out.later O9.bel)
          clear O9 g9 n9 Q8 I8 P8 mk0
          have mk1 := Lib.hid (OwnI.made (w0 := w9) (Below.refl w9.heap.size w9))
          go_wp2_with (refine wpList_appIs rfl (.tmp 76) (.tmp 77) rfl rfl mk1.out rfl (U9.out.later ((Below.refl _ w9).alloc (Nat.le_refl _) _)) (by omega) ?_)
          intro Aa ca wa hca Oa ga na
          have Pa := Lib.hid Oa
          clear Oa ga na
          have Qa := Lib.hid (Pa.out.later ((Below.refl wa.heap.size wa).alloc (Nat.le_refl _) (.cells #[.int .i64 (-1 - (beyond : Int))] 3)))
          have Ia := Lib.hid (Is.lit1 wa (x := -1 - (beyond : Int)) (by omega))
          go_wp2_with (refine wpList_appIs rfl (.tmp 78) (.tmp 82) rfl rfl Qa.out rfl Ia.out (by omega) ?_)
          intro Ab cb wb hcb Ob gb nb
          have Gb := Lib.hid Ob.bel
          have Fb := Lib.hid Ob.reads
          have F9b := Lib.hid (F9.out.later Gb.out)
          have Bb := Lib.hid (B9.out.trans (Gb.out.mono B9.out.size))
          have Ub := Lib.hid (U9.out.later Gb.out)
          clear Ob gb nb Qa Ia Pa mk1 F9 U9 B9 Gb
          have C1 := Lib.hid (CW.out wb A9 c9 _ _ (W : Int) (by omega) F9b.out SF.out)
          go_wp2_with fail
          refine C1.out.mono ?_
          rintro e wc ⟨rfl, hb⟩
          have Bc := Lib.hid (Bb.out.trans (hb.mono Bb.out.size))
          have Fc := Lib.hid (Fb.out.later hb)
          have Uc := Lib.hid (Ub.out.later hb)
          clear hb C1 Bb Fb F9b Ub
          have C2 := Lib.hid (CW.out wc Ab cb _ _ (W : Int) (by omega) Fc.out SB.out)
          go_wp2_with fail
          refine C2.out.mono ?_
          rintro e wd ⟨rfl, hb⟩
          have Bd := Lib.hid (Bc.out.trans (hb.mono Bc.out.size))
          have Ud := Lib.hid (Uc.out.later hb)
          clear hb C2 Bc Fc Uc
          have mk2 := Lib.hid (OwnI.made (w0 := wd) (Below.refl wd.heap.size wd))
          go_wp2_with (refine wpList_appIs rfl (.tmp 96) (.tmp 97) rfl rfl mk2.out rfl (Ud.out.later ((Below.refl _ wd).alloc (Nat.le_refl _) _)) (by omega) ?_)
          intro Ae ce we hce Oe ge ne
          have Pe := Lib.hid Oe
          clear Oe ge ne
          have Qe := Lib.hid (Pe.out.later ((Below.refl we.heap.size we).alloc (Nat.le_refl _) (.cells #[.int .i64 ((W : Int) - 1)] 3)))
          have Ie := Lib.hid (Is.lit1 we (x := (W : Int) - 1) (by omega))
          go_wp2_with (refine wpList_appIs rfl (.tmp 98) (.tmp 101) rfl rfl Qe.out rfl Ie.out (by omega) ?_)
          intro Af cf wf hcf Of gf nf
          have Bf := Lib.hid (Bd.out.trans (Of.bel.mono Bd.out.size))
          have Ff := Lib.hid Of.reads
          clear Of gf nf Qe Ie Pe mk2 Bd Ud
          have bl := (Below.refl wf.heap.size wf).alloc (Nat.le_refl _) (.cells #[.int .u8 115] 5)
          have CH := hash_any (c := 1) (i := (k : Int)) (wf.alloc (.cells #[.int .u8 115] 5)) (HD.out.later HD.out.lt (Bf.out.alloc Bf.out.size _)) (by omega) (by decide) (Bs.lit1 wf (x := 115) (by decide))
          rw [HHa.out] at CH
          have HCH := Lib.hid CH
          have HBl := Lib.hid bl
          clear CH bl
          go_wp2_with fail
          refine HCH.out.mono ?_
          rintro e wh ⟨rfl, hb⟩
          have hb' := HBl.out.trans (hb.mono HBl.out.size)
          have Bh := Lib.hid (Bf.out.trans (hb'.mono Bf.out.size))
          have Fh := Lib.hid (Ff.out.later hb')
          clear hb hb' HCH HBl Bf Ff
          go_wp2_with (refine wpList_store_ro rfl (.tmp 17) (.tmp 105) rfl rfl rfl row26 (Ro.new wh 27 (vals z32)) rfl lH.out (vals_one _) ?_)
          intro wi Ri gi
          have Bi := Lib.hid (Bh.out.trans ((box_store gi).mono Bh.out.size))
          have Fi := Lib.hid (Fh.out.later (box_store gi))
          have HRi := Lib.hid Ri
          clear Ri gi Bh Fh
          go_wp2_with fail
          refine wp_region_seg (W := wi) (by kernel_rfl) fun wj gj => ?_
          refine wpK_seg 0 8 (f := 11) (by kernel_rfl) (fun _ _ _ _ _ h => h) (by kernel_rfl) (by kernel_rfl) (by kernel_rfl) gj ?_
          apply Exists.intro
          refine ⟨?_, ?_⟩
          · intro wg hg
            simp only [List.drop_zero, List.take_succ_cons, List.take_zero]
            have C6 : Hid (∀ u : After wg, Calls Tryd.prog 12 #[.slice Af (k + 1) cf, .int .i64 (γ : Nat)] u.w fun e w' => e = .returned (.int .i64 ((W : Int) + (γ : Int))) ∧ Below u.w.heap.size u.w w') := Lib.hid (fun u => CW.out u.w Af cf (k + 1) _ _ (by omega) ((Fi.out.later hg).later u.below) SLI.out)
            repeat (go_big_quiet_step (fail))
            go_big_quiet_step (exact after_call (C6.out _))
            repeat (go_big_quiet_step (fail))
            refine wpQuiet_nil ?_
            exact rfl
          refine wpK_seg 8 1 (f := 10) (by kernel_rfl) (fun _ _ _ _ _ h => h) (by kernel_rfl) (by kernel_rfl) (by kernel_rfl) gj ?_
          apply Exists.intro
          refine ⟨?_, ?_⟩
          · intro wg hg
            simp only [List.drop_succ_cons, List.drop_zero, List.take_succ_cons, List.take_zero]
            go_big_quiet_want
            refine quiet_load_part (.tmp 17) rfl rfl row26 (fun w9 h9 => by obtain ⟨u, rfl⟩ := h9; exact range_later (rangeOf HRi.out) HRi.out.lt (hg.trans u.below)) lH.out ?_
            simp only [Act.put, List.setIfInBounds_toArray, List.set_cons_succ, List.set_cons_zero]
            go_big_quiet_on
            refine wpQuiet_nil ?_
            exact rfl
          refine wpK_seg 10 1 (f := 9) (by kernel_rfl) (fun _ _ _ _ _ h => h) (by kernel_rfl) (by kernel_rfl) (by kernel_rfl) gj ?_
          apply Exists.intro
          refine ⟨?_, ?_⟩
          · intro wg hg
            simp only [List.drop_succ_cons, List.drop_zero, List.take_succ_cons, List.take_zero]
            go_big_quiet_step (fail)
            refine wpQuiet_nil ?_
            exact rfl
          refine wpK_call_want (f := 8) (i := 9) (by kernel_rfl) rfl (by rfl) gj ?_
          intro wk gk K hK
          refine wp_litB (d := some 115) rfl (.const (.int .u8 115)) rfl rfl ?_
          simp only [Act.put, List.setIfInBounds_toArray, List.set_cons_succ, List.set_cons_zero]
          have GN := Lib.hid (Grows.trans gk ((Below.refl wk.heap.size wk).alloc (Nat.le_refl _) (.cells #[.int .u8 115] 5)))
          refine hK _ _ ((Below.refl wk.heap.size wk).alloc (Nat.le_refl _) (.cells #[.int .u8 115] 5)) ?_
          clear hK K
          have LB := Lib.hid (Bs.lit1 wk (x := 115) (by decide))
          refine wpK_from GN.out _ _ _ _ ?_
          refine wpK_call_want (f := 7) (i := 11) (by kernel_rfl) rfl (by rfl) (Grows.refl _) ?_
          intro wl gl K hK
          have bb : Below w.heap.size w wl := Bi.out.trans (Below.mono (Grows.trans GN.out gl) Bi.out.size)
          go_simp
          have CS := script_any (c := 1) (i := (k : Int)) wl (HD.out.later HD.out.lt bb) (by omega) (by decide) (LB.out.later gl)
          rw [HSc.out] at CS
          refine CS.mono ?_
          rintro e wn ⟨A5, n5, c5, rfl, _, O5⟩
          refine hK _ _ O5.bel ?_
          have GM := Lib.hid (Grows.trans gl O5.bel)
          have PM := Lib.hid O5.reads
          have n22 : n5 ≤ 1000 := by have := O5.len; have := lS.out; omega
          clear hK K O5 bb CS
          refine wpK_from GM.out _ _ _ _ ?_
          have GG := Lib.hid (Grows.trans GN.out GM.out)
          refine wpK_seg 12 7 (f := 0) (by kernel_rfl) (fun _ _ _ _ _ h => h) (by kernel_rfl) (by kernel_rfl) (by kernel_rfl) (Grows.refl wn) ?_
          apply Exists.intro
          refine ⟨?_, ?_⟩
          · intro wg hg
            simp only [List.drop_succ_cons, List.drop_zero, List.take_succ_cons, List.take_zero]
            have gg := Grows.trans GG.out hg
            have C7 : Hid (∀ u : After wg, Calls Tryd.prog 14 #[.slice A5 n5 c5] u.w fun e w' => e = .returned (.agg (vals H).toArray) ∧ Below u.w.heap.size u.w w') := Lib.hid (fun u => by
              rw [← HH.out]; exact refSum_any (c := c5) u.w (by omega) ((PM.out.later hg).later u.below))
            have BU : Hid (∀ u : After wg, Below w.heap.size w u.w) := Lib.hid (fun u => (Bi.out.trans (gg.mono Bi.out.size)).trans (u.below.mono (Nat.le_trans Bi.out.size gg.size)))
            have C8 : Hid (∀ u : After wg, Calls Tryd.prog 7 #[] u.w fun e w' => e = .returned (.bool true) ∧ Below u.w.heap.size u.w w') := Lib.hid (fun u => works_any u.w (HD.out.later HD.out.lt (BU.out u)))
            clear gg
            go_big_quiet_step (exact after_call (C7.out _))
            repeat (go_big_quiet_step (fail))
            go_big_quiet_step (exact after_call (C8.out _))
            repeat (go_big_quiet_step (fail))
            refine wpQuiet_nil ?_
            exact rfl
          refine wpK_end (by kernel_rfl) fun wz gz => ?_
          have gg := Grows.trans GG.out gz
          have Bz := Lib.hid (Bi.out.trans (gg.mono Bi.out.size))
          clear gg gz
          go_wp2_with fail
          go_ret
          exact ⟨rfl, Bz.out⟩
        · simp only [Act.put, List.setIfInBounds_toArray, List.set_cons_succ, List.set_cons_zero]
          refine wpK_skip (f := 4) (i := 5) 55 (by kernel_rfl) rfl rfl (by rfl) gq ?_
          simp only [Act.put, List.setIfInBounds_toArray, List.set_cons_succ, List.set_cons_zero]
          refine wpK_skip (f := 3) (i := 11) 61 (by kernel_rfl) rfl rfl (by rfl) gq ?_
          simp only [Act.put, List.setIfInBounds_toArray, List.set_cons_succ, List.set_cons_zero]
          refine wpK_seg 13 1 (f := 2) (by kernel_rfl) (fun _ _ _ _ _ h => h) (by kernel_rfl) (by kernel_rfl) (by kernel_rfl) gq ?_
          apply Exists.intro
          refine ⟨?_, ?_⟩
          · intro wg hg
            simp only [List.drop_succ_cons, List.drop_zero, List.take_succ_cons, List.take_zero]
            repeat (go_big_quiet_step (fail))
            refine wpQuiet_nil ?_
            exact rfl
          refine wpK_seg 15 2 (f := 0) (by kernel_rfl) (fun _ _ _ _ _ h => h) (by kernel_rfl) (by kernel_rfl) (by kernel_rfl) gq ?_
          apply Exists.intro
          refine ⟨?_, ?_⟩
          · intro wg hg
            simp only [List.drop_succ_cons, List.drop_zero, List.take_succ_cons, List.take_zero]
            repeat (go_big_quiet_step (fail))
            refine wpQuiet_nil ?_
            exact rfl
          refine wpK_end (by kernel_rfl) fun w7 g7 => ?_
          have G7 := Lib.hid (GQ.out.trans (g7.mono GQ.out.size))
          have B7 := Lib.hid (B2.out.trans (G7.out.mono B2.out.size))
          have U7 := Lib.hid (U2.out.later G7.out)
          clear g7
          have mk0 := Lib.hid (OwnI.made (w0 := w7) (Below.refl w7.heap.size w7))
          go_wp2_with (refine wpList_appIs rfl (.tmp 67) (.tmp 68) rfl rfl mk0.out rfl (U7.out.later ((Below.refl _ w7).alloc (Nat.le_refl _) _)) (by omega) ?_)
          intro A8 c8 w8 hc8 O8 g8 n8
          have P8 := Lib.hid O8
          clear O8 g8 n8
          have Q8 := Lib.hid (P8.out.later ((Below.refl w8.heap.size w8).alloc (Nat.le_refl _) (.cells #[.int .i64 ((W : Int) + (beyond : Int))] 3)))
          have I8 := Lib.hid (Is.lit1 w8 (x := (W : Int) + (beyond : Int)) (by omega))
          go_wp2_with (refine wpList_appIs rfl (.tmp 69) (.tmp 74) rfl rfl Q8.out rfl I8.out (by omega) ?_)
          intro A9 c9 w9 hc9 O9 g9 n9
          have B9 := Lib.hid (B7.out.trans (O9.bel.mono B7.out.size))
          have F9 := Lib.hid O9.reads
          have U9 := Lib.hid (U7.out.later O9.bel)
          clear O9 g9 n9 Q8 I8 P8 mk0
          have mk1 := Lib.hid (OwnI.made (w0 := w9) (Below.refl w9.heap.size w9))
          go_wp2_with (refine wpList_appIs rfl (.tmp 76) (.tmp 77) rfl rfl mk1.out rfl (U9.out.later ((Below.refl _ w9).alloc (Nat.le_refl _) _)) (by omega) ?_)
          intro Aa ca wa hca Oa ga na
          have Pa := Lib.hid Oa
          clear Oa ga na
          have Qa := Lib.hid (Pa.out.later ((Below.refl wa.heap.size wa).alloc (Nat.le_refl _) (.cells #[.int .i64 (-1 - (beyond : Int))] 3)))
          have Ia := Lib.hid (Is.lit1 wa (x := -1 - (beyond : Int)) (by omega))
          go_wp2_with (refine wpList_appIs rfl (.tmp 78) (.tmp 82) rfl rfl Qa.out rfl Ia.out (by omega) ?_)
          intro Ab cb wb hcb Ob gb nb
          have Gb := Lib.hid Ob.bel
          have Fb := Lib.hid Ob.reads
          have F9b := Lib.hid (F9.out.later Gb.out)
          have Bb := Lib.hid (B9.out.trans (Gb.out.mono B9.out.size))
          have Ub := Lib.hid (U9.out.later Gb.out)
          clear Ob gb nb Qa Ia Pa mk1 F9 U9 B9 Gb
          have C1 := Lib.hid (CW.out wb A9 c9 _ _ (W : Int) (by omega) F9b.out SF.out)
          go_wp2_with fail
          refine C1.out.mono ?_
          rintro e wc ⟨rfl, hb⟩
          have Bc := Lib.hid (Bb.out.trans (hb.mono Bb.out.size))
          have Fc := Lib.hid (Fb.out.later hb)
          have Uc := Lib.hid (Ub.out.later hb)
          clear hb C1 Bb Fb F9b Ub
          have C2 := Lib.hid (CW.out wc Ab cb _ _ (W : Int) (by omega) Fc.out SB.out)
          go_wp2_with fail
          refine C2.out.mono ?_
          rintro e wd ⟨rfl, hb⟩
          have Bd := Lib.hid (Bc.out.trans (hb.mono Bc.out.size))
          have Ud := Lib.hid (Uc.out.later hb)
          clear hb C2 Bc Fc Uc
          have mk2 := Lib.hid (OwnI.made (w0 := wd) (Below.refl wd.heap.size wd))
          go_wp2_with (refine wpList_appIs rfl (.tmp 96) (.tmp 97) rfl rfl mk2.out rfl (Ud.out.later ((Below.refl _ wd).alloc (Nat.le_refl _) _)) (by omega) ?_)
          intro Ae ce we hce Oe ge ne
          have Pe := Lib.hid Oe
          clear Oe ge ne
          have Qe := Lib.hid (Pe.out.later ((Below.refl we.heap.size we).alloc (Nat.le_refl _) (.cells #[.int .i64 ((W : Int) - 1)] 3)))
          have Ie := Lib.hid (Is.lit1 we (x := (W : Int) - 1) (by omega))
          go_wp2_with (refine wpList_appIs rfl (.tmp 98) (.tmp 101) rfl rfl Qe.out rfl Ie.out (by omega) ?_)
          intro Af cf wf hcf Of gf nf
          have Bf := Lib.hid (Bd.out.trans (Of.bel.mono Bd.out.size))
          have Ff := Lib.hid Of.reads
          clear Of gf nf Qe Ie Pe mk2 Bd Ud
          have bl := (Below.refl wf.heap.size wf).alloc (Nat.le_refl _) (.cells #[.int .u8 115] 5)
          have CH := hash_any (c := 1) (i := (k : Int)) (wf.alloc (.cells #[.int .u8 115] 5)) (HD.out.later HD.out.lt (Bf.out.alloc Bf.out.size _)) (by omega) (by decide) (Bs.lit1 wf (x := 115) (by decide))
          rw [HHa.out] at CH
          have HCH := Lib.hid CH
          have HBl := Lib.hid bl
          clear CH bl
          go_wp2_with fail
          refine HCH.out.mono ?_
          rintro e wh ⟨rfl, hb⟩
          have hb' := HBl.out.trans (hb.mono HBl.out.size)
          have Bh := Lib.hid (Bf.out.trans (hb'.mono Bf.out.size))
          have Fh := Lib.hid (Ff.out.later hb')
          clear hb hb' HCH HBl Bf Ff
          go_wp2_with (refine wpList_store_ro rfl (.tmp 17) (.tmp 105) rfl rfl rfl row26 (Ro.new wh 27 (vals z32)) rfl lH.out (vals_one _) ?_)
          intro wi Ri gi
          have Bi := Lib.hid (Bh.out.trans ((box_store gi).mono Bh.out.size))
          have Fi := Lib.hid (Fh.out.later (box_store gi))
          have HRi := Lib.hid Ri
          clear Ri gi Bh Fh
          go_wp2_with fail
          refine wp_region_seg (W := wi) (by kernel_rfl) fun wj gj => ?_
          refine wpK_seg 0 8 (f := 11) (by kernel_rfl) (fun _ _ _ _ _ h => h) (by kernel_rfl) (by kernel_rfl) (by kernel_rfl) gj ?_
          apply Exists.intro
          refine ⟨?_, ?_⟩
          · intro wg hg
            simp only [List.drop_zero, List.take_succ_cons, List.take_zero]
            have C6 : Hid (∀ u : After wg, Calls Tryd.prog 12 #[.slice Af (k + 1) cf, .int .i64 (γ : Nat)] u.w fun e w' => e = .returned (.int .i64 ((W : Int) + (γ : Int))) ∧ Below u.w.heap.size u.w w') := Lib.hid (fun u => CW.out u.w Af cf (k + 1) _ _ (by omega) ((Fi.out.later hg).later u.below) SLI.out)
            repeat (go_big_quiet_step (fail))
            go_big_quiet_step (exact after_call (C6.out _))
            repeat (go_big_quiet_step (fail))
            refine wpQuiet_nil ?_
            exact rfl
          refine wpK_seg 8 1 (f := 10) (by kernel_rfl) (fun _ _ _ _ _ h => h) (by kernel_rfl) (by kernel_rfl) (by kernel_rfl) gj ?_
          apply Exists.intro
          refine ⟨?_, ?_⟩
          · intro wg hg
            simp only [List.drop_succ_cons, List.drop_zero, List.take_succ_cons, List.take_zero]
            go_big_quiet_want
            refine quiet_load_part (.tmp 17) rfl rfl row26 (fun w9 h9 => by obtain ⟨u, rfl⟩ := h9; exact range_later (rangeOf HRi.out) HRi.out.lt (hg.trans u.below)) lH.out ?_
            simp only [Act.put, List.setIfInBounds_toArray, List.set_cons_succ, List.set_cons_zero]
            go_big_quiet_on
            refine wpQuiet_nil ?_
            exact rfl
          refine wpK_seg 10 1 (f := 9) (by kernel_rfl) (fun _ _ _ _ _ h => h) (by kernel_rfl) (by kernel_rfl) (by kernel_rfl) gj ?_
          apply Exists.intro
          refine ⟨?_, ?_⟩
          · intro wg hg
            simp only [List.drop_succ_cons, List.drop_zero, List.take_succ_cons, List.take_zero]
            go_big_quiet_step (fail)
            refine wpQuiet_nil ?_
            exact rfl
          refine wpK_call_want (f := 8) (i := 9) (by kernel_rfl) rfl (by rfl) gj ?_
          intro wk gk K hK
          refine wp_litB (d := some 115) rfl (.const (.int .u8 115)) rfl rfl ?_
          simp only [Act.put, List.setIfInBounds_toArray, List.set_cons_succ, List.set_cons_zero]
          have GN := Lib.hid (Grows.trans gk ((Below.refl wk.heap.size wk).alloc (Nat.le_refl _) (.cells #[.int .u8 115] 5)))
          refine hK _ _ ((Below.refl wk.heap.size wk).alloc (Nat.le_refl _) (.cells #[.int .u8 115] 5)) ?_
          clear hK K
          have LB := Lib.hid (Bs.lit1 wk (x := 115) (by decide))
          refine wpK_from GN.out _ _ _ _ ?_
          refine wpK_call_want (f := 7) (i := 11) (by kernel_rfl) rfl (by rfl) (Grows.refl _) ?_
          intro wl gl K hK
          have bb : Below w.heap.size w wl := Bi.out.trans (Below.mono (Grows.trans GN.out gl) Bi.out.size)
          go_simp
          have CS := script_any (c := 1) (i := (k : Int)) wl (HD.out.later HD.out.lt bb) (by omega) (by decide) (LB.out.later gl)
          rw [HSc.out] at CS
          refine CS.mono ?_
          rintro e wn ⟨A5, n5, c5, rfl, _, O5⟩
          refine hK _ _ O5.bel ?_
          have GM := Lib.hid (Grows.trans gl O5.bel)
          have PM := Lib.hid O5.reads
          have n22 : n5 ≤ 1000 := by have := O5.len; have := lS.out; omega
          clear hK K O5 bb CS
          refine wpK_from GM.out _ _ _ _ ?_
          have GG := Lib.hid (Grows.trans GN.out GM.out)
          refine wpK_seg 12 7 (f := 0) (by kernel_rfl) (fun _ _ _ _ _ h => h) (by kernel_rfl) (by kernel_rfl) (by kernel_rfl) (Grows.refl wn) ?_
          apply Exists.intro
          refine ⟨?_, ?_⟩
          · intro wg hg
            simp only [List.drop_succ_cons, List.drop_zero, List.take_succ_cons, List.take_zero]
            have gg := Grows.trans GG.out hg
            have C7 : Hid (∀ u : After wg, Calls Tryd.prog 14 #[.slice A5 n5 c5] u.w fun e w' => e = .returned (.agg (vals H).toArray) ∧ Below u.w.heap.size u.w w') := Lib.hid (fun u => by
              rw [← HH.out]; exact refSum_any (c := c5) u.w (by omega) ((PM.out.later hg).later u.below))
            have BU : Hid (∀ u : After wg, Below w.heap.size w u.w) := Lib.hid (fun u => (Bi.out.trans (gg.mono Bi.out.size)).trans (u.below.mono (Nat.le_trans Bi.out.size gg.size)))
            have C8 : Hid (∀ u : After wg, Calls Tryd.prog 7 #[] u.w fun e w' => e = .returned (.bool true) ∧ Below u.w.heap.size u.w w') := Lib.hid (fun u => works_any u.w (HD.out.later HD.out.lt (BU.out u)))
            clear gg
            go_big_quiet_step (exact after_call (C7.out _))
            repeat (go_big_quiet_step (fail))
            go_big_quiet_step (exact after_call (C8.out _))
            repeat (go_big_quiet_step (fail))
            refine wpQuiet_nil ?_
            exact rfl
          refine wpK_end (by kernel_rfl) fun wz gz => ?_
          have gg := Grows.trans GG.out gz
          have Bz := Lib.hid (Bi.out.trans (gg.mono Bi.out.size))
          clear gg gz
          go_wp2_with fail
          go_ret
          exact ⟨rfl, Bz.out⟩
      · simp only [Act.put, List.setIfInBounds_toArray, List.set_cons_succ, List.set_cons_zero]
        refine wpK_skip (f := 5) (i := 3) 53 (by kernel_rfl) rfl rfl (by rfl) gq ?_
        simp only [Act.put, List.setIfInBounds_toArray, List.set_cons_succ, List.set_cons_zero]
        refine wpK_skip (f := 4) (i := 5) 55 (by kernel_rfl) rfl rfl (by rfl) gq ?_
        simp only [Act.put, List.setIfInBounds_toArray, List.set_cons_succ, List.set_cons_zero]
        refine wpK_skip (f := 3) (i := 11) 61 (by kernel_rfl) rfl rfl (by rfl) gq ?_
        simp only [Act.put, List.setIfInBounds_toArray, List.set_cons_succ, List.set_cons_zero]
        refine wpK_seg 13 1 (f := 2) (by kernel_rfl) (fun _ _ _ _ _ h => h) (by kernel_rfl) (by kernel_rfl) (by kernel_rfl) gq ?_
        apply Exists.intro
        refine ⟨?_, ?_⟩
        · intro wg hg
          simp only [List.drop_succ_cons, List.drop_zero, List.take_succ_cons, List.take_zero]
          repeat (go_big_quiet_step (fail))
          refine wpQuiet_nil ?_
          exact rfl
        refine wpK_seg 15 2 (f := 0) (by kernel_rfl) (fun _ _ _ _ _ h => h) (by kernel_rfl) (by kernel_rfl) (by kernel_rfl) gq ?_
        apply Exists.intro
        refine ⟨?_, ?_⟩
        · intro wg hg
          simp only [List.drop_succ_cons, List.drop_zero, List.take_succ_cons, List.take_zero]
          repeat (go_big_quiet_step (fail))
          refine wpQuiet_nil ?_
          exact rfl
        refine wpK_end (by kernel_rfl) fun w7 g7 => ?_
        have G7 := Lib.hid (GQ.out.trans (g7.mono GQ.out.size))
        have B7 := Lib.hid (B2.out.trans (G7.out.mono B2.out.size))
        have U7 := Lib.hid (U2.out.later G7.out)
        clear g7
        have mk0 := Lib.hid (OwnI.made (w0 := w7) (Below.refl w7.heap.size w7))
        go_wp2_with (refine wpList_appIs rfl (.tmp 67) (.tmp 68) rfl rfl mk0.out rfl (U7.out.later ((Below.refl _ w7).alloc (Nat.le_refl _) _)) (by omega) ?_)
        intro A8 c8 w8 hc8 O8 g8 n8
        have P8 := Lib.hid O8
        clear O8 g8 n8
        have Q8 := Lib.hid (P8.out.later ((Below.refl w8.heap.size w8).alloc (Nat.le_refl _) (.cells #[.int .i64 ((W : Int) + (beyond : Int))] 3)))
        have I8 := Lib.hid (Is.lit1 w8 (x := (W : Int) + (beyond : Int)) (by omega))
        go_wp2_with (refine wpList_appIs rfl (.tmp 69) (.tmp 74) rfl rfl Q8.out rfl I8.out (by omega) ?_)
        intro A9 c9 w9 hc9 O9 g9 n9
        have B9 := Lib.hid (B7.out.trans (O9.bel.mono B7.out.size))
        have F9 := Lib.hid O9.reads
        have U9 := Lib.hid (U7.out.later O9.bel)
        clear O9 g9 n9 Q8 I8 P8 mk0
        have mk1 := Lib.hid (OwnI.made (w0 := w9) (Below.refl w9.heap.size w9))
        go_wp2_with (refine wpList_appIs rfl (.tmp 76) (.tmp 77) rfl rfl mk1.out rfl (U9.out.later ((Below.refl _ w9).alloc (Nat.le_refl _) _)) (by omega) ?_)
        intro Aa ca wa hca Oa ga na
        have Pa := Lib.hid Oa
        clear Oa ga na
        have Qa := Lib.hid (Pa.out.later ((Below.refl wa.heap.size wa).alloc (Nat.le_refl _) (.cells #[.int .i64 (-1 - (beyond : Int))] 3)))
        have Ia := Lib.hid (Is.lit1 wa (x := -1 - (beyond : Int)) (by omega))
        go_wp2_with (refine wpList_appIs rfl (.tmp 78) (.tmp 82) rfl rfl Qa.out rfl Ia.out (by omega) ?_)
        intro Ab cb wb hcb Ob gb nb
        have Gb := Lib.hid Ob.bel
        have Fb := Lib.hid Ob.reads
        have F9b := Lib.hid (F9.out.later Gb.out)
        have Bb := Lib.hid (B9.out.trans (Gb.out.mono B9.out.size))
        have Ub := Lib.hid (U9.out.later Gb.out)
        clear Ob gb nb Qa Ia Pa mk1 F9 U9 B9 Gb
        have C1 := Lib.hid (CW.out wb A9 c9 _ _ (W : Int) (by omega) F9b.out SF.out)
        go_wp2_with fail
        refine C1.out.mono ?_
        rintro e wc ⟨rfl, hb⟩
        have Bc := Lib.hid (Bb.out.trans (hb.mono Bb.out.size))
        have Fc := Lib.hid (Fb.out.later hb)
        have Uc := Lib.hid (Ub.out.later hb)
        clear hb C1 Bb Fb F9b Ub
        have C2 := Lib.hid (CW.out wc Ab cb _ _ (W : Int) (by omega) Fc.out SB.out)
        go_wp2_with fail
        refine C2.out.mono ?_
        rintro e wd ⟨rfl, hb⟩
        have Bd := Lib.hid (Bc.out.trans (hb.mono Bc.out.size))
        have Ud := Lib.hid (Uc.out.later hb)
        clear hb C2 Bc Fc Uc
        have mk2 := Lib.hid (OwnI.made (w0 := wd) (Below.refl wd.heap.size wd))
        go_wp2_with (refine wpList_appIs rfl (.tmp 96) (.tmp 97) rfl rfl mk2.out rfl (Ud.out.later ((Below.refl _ wd).alloc (Nat.le_refl _) _)) (by omega) ?_)
        intro Ae ce we hce Oe ge ne
        have Pe := Lib.hid Oe
        clear Oe ge ne
        have Qe := Lib.hid (Pe.out.later ((Below.refl we.heap.size we).alloc (Nat.le_refl _) (.cells #[.int .i64 ((W : Int) - 1)] 3)))
        have Ie := Lib.hid (Is.lit1 we (x := (W : Int) - 1) (by omega))
        go_wp2_with (refine wpList_appIs rfl (.tmp 98) (.tmp 101) rfl rfl Qe.out rfl Ie.out (by omega) ?_)
        intro Af cf wf hcf Of gf nf
        have Bf := Lib.hid (Bd.out.trans (Of.bel.mono Bd.out.size))
        have Ff := Lib.hid Of.reads
        clear Of gf nf Qe Ie Pe mk2 Bd Ud
        have bl := (Below.refl wf.heap.size wf).alloc (Nat.le_refl _) (.cells #[.int .u8 115] 5)
        have CH := hash_any (c := 1) (i := (k : Int)) (wf.alloc (.cells #[.int .u8 115] 5)) (HD.out.later HD.out.lt (Bf.out.alloc Bf.out.size _)) (by omega) (by decide) (Bs.lit1 wf (x := 115) (by decide))
        rw [HHa.out] at CH
        have HCH := Lib.hid CH
        have HBl := Lib.hid bl
        clear CH bl
        go_wp2_with fail
        refine HCH.out.mono ?_
        rintro e wh ⟨rfl, hb⟩
        have hb' := HBl.out.trans (hb.mono HBl.out.size)
        have Bh := Lib.hid (Bf.out.trans (hb'.mono Bf.out.size))
        have Fh := Lib.hid (Ff.out.later hb')
        clear hb hb' HCH HBl Bf Ff
        go_wp2_with (refine wpList_store_ro rfl (.tmp 17) (.tmp 105) rfl rfl rfl row26 (Ro.new wh 27 (vals z32)) rfl lH.out (vals_one _) ?_)
        intro wi Ri gi
        have Bi := Lib.hid (Bh.out.trans ((box_store gi).mono Bh.out.size))
        have Fi := Lib.hid (Fh.out.later (box_store gi))
        have HRi := Lib.hid Ri
        clear Ri gi Bh Fh
        go_wp2_with fail
        refine wp_region_seg (W := wi) (by kernel_rfl) fun wj gj => ?_
        refine wpK_seg 0 8 (f := 11) (by kernel_rfl) (fun _ _ _ _ _ h => h) (by kernel_rfl) (by kernel_rfl) (by kernel_rfl) gj ?_
        apply Exists.intro
        refine ⟨?_, ?_⟩
        · intro wg hg
          simp only [List.drop_zero, List.take_succ_cons, List.take_zero]
          have C6 : Hid (∀ u : After wg, Calls Tryd.prog 12 #[.slice Af (k + 1) cf, .int .i64 (γ : Nat)] u.w fun e w' => e = .returned (.int .i64 ((W : Int) + (γ : Int))) ∧ Below u.w.heap.size u.w w') := Lib.hid (fun u => CW.out u.w Af cf (k + 1) _ _ (by omega) ((Fi.out.later hg).later u.below) SLI.out)
          repeat (go_big_quiet_step (fail))
          go_big_quiet_step (exact after_call (C6.out _))
          repeat (go_big_quiet_step (fail))
          refine wpQuiet_nil ?_
          exact rfl
        refine wpK_seg 8 1 (f := 10) (by kernel_rfl) (fun _ _ _ _ _ h => h) (by kernel_rfl) (by kernel_rfl) (by kernel_rfl) gj ?_
        apply Exists.intro
        refine ⟨?_, ?_⟩
        · intro wg hg
          simp only [List.drop_succ_cons, List.drop_zero, List.take_succ_cons, List.take_zero]
          go_big_quiet_want
          refine quiet_load_part (.tmp 17) rfl rfl row26 (fun w9 h9 => by obtain ⟨u, rfl⟩ := h9; exact range_later (rangeOf HRi.out) HRi.out.lt (hg.trans u.below)) lH.out ?_
          simp only [Act.put, List.setIfInBounds_toArray, List.set_cons_succ, List.set_cons_zero]
          go_big_quiet_on
          refine wpQuiet_nil ?_
          exact rfl
        refine wpK_seg 10 1 (f := 9) (by kernel_rfl) (fun _ _ _ _ _ h => h) (by kernel_rfl) (by kernel_rfl) (by kernel_rfl) gj ?_
        apply Exists.intro
        refine ⟨?_, ?_⟩
        · intro wg hg
          simp only [List.drop_succ_cons, List.drop_zero, List.take_succ_cons, List.take_zero]
          go_big_quiet_step (fail)
          refine wpQuiet_nil ?_
          exact rfl
        refine wpK_call_want (f := 8) (i := 9) (by kernel_rfl) rfl (by rfl) gj ?_
        intro wk gk K hK
        refine wp_litB (d := some 115) rfl (.const (.int .u8 115)) rfl rfl ?_
        simp only [Act.put, List.setIfInBounds_toArray, List.set_cons_succ, List.set_cons_zero]
        have GN := Lib.hid (Grows.trans gk ((Below.refl wk.heap.size wk).alloc (Nat.le_refl _) (.cells #[.int .u8 115] 5)))
        refine hK _ _ ((Below.refl wk.heap.size wk).alloc (Nat.le_refl _) (.cells #[.int .u8 115] 5)) ?_
        clear hK K
        have LB := Lib.hid (Bs.lit1 wk (x := 115) (by decide))
        refine wpK_from GN.out _ _ _ _ ?_
        refine wpK_call_want (f := 7) (i := 11) (by kernel_rfl) rfl (by rfl) (Grows.refl _) ?_
        intro wl gl K hK
        have bb : Below w.heap.size w wl := Bi.out.trans (Below.mono (Grows.trans GN.out gl) Bi.out.size)
        go_simp
        have CS := script_any (c := 1) (i := (k : Int)) wl (HD.out.later HD.out.lt bb) (by omega) (by decide) (LB.out.later gl)
        rw [HSc.out] at CS
        refine CS.mono ?_
        rintro e wn ⟨A5, n5, c5, rfl, _, O5⟩
        refine hK _ _ O5.bel ?_
        have GM := Lib.hid (Grows.trans gl O5.bel)
        have PM := Lib.hid O5.reads
        have n22 : n5 ≤ 1000 := by have := O5.len; have := lS.out; omega
        clear hK K O5 bb CS
        refine wpK_from GM.out _ _ _ _ ?_
        have GG := Lib.hid (Grows.trans GN.out GM.out)
        refine wpK_seg 12 7 (f := 0) (by kernel_rfl) (fun _ _ _ _ _ h => h) (by kernel_rfl) (by kernel_rfl) (by kernel_rfl) (Grows.refl wn) ?_
        apply Exists.intro
        refine ⟨?_, ?_⟩
        · intro wg hg
          simp only [List.drop_succ_cons, List.drop_zero, List.take_succ_cons, List.take_zero]
          have gg := Grows.trans GG.out hg
          have C7 : Hid (∀ u : After wg, Calls Tryd.prog 14 #[.slice A5 n5 c5] u.w fun e w' => e = .returned (.agg (vals H).toArray) ∧ Below u.w.heap.size u.w w') := Lib.hid (fun u => by
            rw [← HH.out]; exact refSum_any (c := c5) u.w (by omega) ((PM.out.later hg).later u.below))
          have BU : Hid (∀ u : After wg, Below w.heap.size w u.w) := Lib.hid (fun u => (Bi.out.trans (gg.mono Bi.out.size)).trans (u.below.mono (Nat.le_trans Bi.out.size gg.size)))
          have C8 : Hid (∀ u : After wg, Calls Tryd.prog 7 #[] u.w fun e w' => e = .returned (.bool true) ∧ Below u.w.heap.size u.w w') := Lib.hid (fun u => works_any u.w (HD.out.later HD.out.lt (BU.out u)))
          clear gg
          go_big_quiet_step (exact after_call (C7.out _))
          repeat (go_big_quiet_step (fail))
          go_big_quiet_step (exact after_call (C8.out _))
          repeat (go_big_quiet_step (fail))
          refine wpQuiet_nil ?_
          exact rfl
        refine wpK_end (by kernel_rfl) fun wz gz => ?_
        have gg := Grows.trans GG.out gz
        have Bz := Lib.hid (Bi.out.trans (gg.mono Bi.out.size))
        clear gg gz
        go_wp2_with fail
        go_ret
        exact ⟨rfl, Bz.out⟩
end Go.Proofs.YthglegjnkhifeaaDoor
