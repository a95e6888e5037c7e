/- TxHollow: bytes that say that there is a Witness where there is none, and counts that could be shorter, are no transaction's. Condition: the tables lie as laid. -/
import Derived.Test.YtbdjcbdnhaddoaaDoorHolS
import Derived.Test.YtbdjcbdnhaddoaaDoorZeros
namespace Go.Proofs.YtbdjcbdnhaddoaaDoor
open Go.RowKit

set_option maxRecDepth 100000 in
set_option maxHeartbeats 16000000 in
theorem hollow_law {t : TxD} {Ai : Option Addr} {ni ci : Nat} {Ao : Option Addr} {no co : Nat} {w : World} (hT : TxR w t Ai ni ci Ao no co) (hLd : Laid w) :
    Calls Tryd.prog 10 #[.agg (txV t.ver Ai ni ci Ao no co t.lock).toArray] w fun e w' => e = .returned (.bool true) ∧ Below w.heap.size w w' := by
  have z0 := zeroTx
  have b1 := (Below.refl w.heap.size w).alloc (Nat.le_refl _) (.cells (txV t.ver Ai ni ci Ao no co t.lock).toArray 26)
  have r1 := Ro.new w 26 (txV t.ver Ai ni ci Ao no co t.lock)
  have TS := Lib.hid (hT.later b1)
  have HD := Lib.hid (hLd.later hLd.lt b1)
  have BW := Lib.hid b1
  have R1 := Lib.hid r1
  clear b1 r1 hT hLd
  obtain ⟨wa, hwa⟩ : ∃ wa, w.alloc (.cells (txV t.ver Ai ni ci Ao no co t.lock).toArray 26) = wa := ⟨_, rfl⟩
  rw [hwa] at TS HD BW R1
  have HWA := Lib.hid hwa
  obtain ⟨q1, hq1⟩ : ∃ q, w.heap.size = q := ⟨_, rfl⟩
  have q1s := Lib.hid hq1
  have CW : Hid (∀ u, Below wa.heap.size wa u → Calls Tryd.prog 12 #[] u fun e w' => e = .returned (.bool true) ∧ Below u.heap.size u w') := Lib.hid (fun u hu => works_any u (HD.out.later HD.out.lt hu))
  have H1 := Lib.hid (heavy_any wa TS.out)
  clear hwa hq1
  go_enter Tryd.func10, Tryd.ntmps10
  go_upto_region 1 with fail
  rw [HWA.out]
  go_cut [23] from 11 to 23 (fun v wx => ∃ b, v = .bool b ∧ (b = false → weigh t ≤ 32768 ∧ May t ∧ (putS t).length ≤ 8192) ∧ Below wa.heap.size wa wx)
  case first =>
    obtain ⟨m, hm⟩ : ∃ m, decide (May t) = m := ⟨_, rfl⟩
    have HM := Lib.hid hm
    clear hm
    go_wp2_with (first
      | (refine wpList_load_part rfl (.tmp 1) rfl rfl rowTx R1.out.whole rfl ?_)
      | (go_at_call 11; refine H1.out.mono ?_; rintro e w1 ⟨b, rfl, hw1, bel1⟩; have B1 := Lib.hid bel1; have HW1 := Lib.hid hw1; clear bel1 hw1 H1; cases b)
      | (go_at_call 20; have CM := refMay_any w1 (Nat.le_trans (HW1.out trivial) (by decide : 32768 ≤ 100000000)) (TS.out.later B1.out); rw [HM.out] at CM; refine CM.mono ?_; clear CM; rintro e w2 ⟨rfl, bel2⟩; have B2 := Lib.hid (B1.out.trans (bel2.mono B1.out.size)); clear bel2; cases m)
      | (go_at_call 14; refine (refPut_any w2 (Nat.le_trans (HW1.out trivial) (by decide : 32768 ≤ 100000000)) (TS.out.later B2.out)).mono ?_; rintro e w3 ⟨A3, n3, c3, rfl, hc3, O3⟩; have B3 := Lib.hid (B2.out.trans (O3.bel.mono B2.out.size)); have LN3 := Lib.hid O3.len; clear O3)
      | (refine BigFrame.wpList_want (by rfl) fun K hK => wp_load_part rfl (.tmp 1) rfl rfl rowTx (R1.out.later B2.out).whole rfl (hK _ _ ?_))
      | (refine BigFrame.wpList_want (by rfl) fun K hK => wp_load_part rfl (.tmp 1) rfl rfl rowTx (R1.out.later B1.out).whole rfl (hK _ _ ?_)))
    · go_meet
      exact ⟨true, rfl, (fun h => by cases h), B2.out⟩
    · go_meet
      exact ⟨_, rfl, fun h => ⟨HW1.out trivial, of_decide_eq_true HM.out, by have := of_decide_eq_false h; rw [LN3.out]; omega⟩, B3.out⟩
    · go_meet
      exact ⟨true, rfl, (fun h => by cases h), B1.out⟩
  case rest =>
    obtain ⟨b, rfl, hb, hB⟩ := hcut
    cases b with
    | true =>
      have BW1 := Lib.hid (BW.out.trans (hB.mono BW.out.size))
      have C1 := Lib.hid (CW.out wc hB)
      go_wp2_with (go_at_call 12; refine C1.out.mono ?_; rintro e w3 ⟨rfl, bel3⟩)
      go_ret
      exact ⟨rfl, BW1.out.trans (bel3.mono BW1.out.size)⟩
    | false =>
      obtain ⟨hwt, hmay, hput⟩ := hb rfl
      have WT : Hid (weigh t ≤ 100000000) := Lib.hid (by omega)
      have WP : Hid (weigh (plain t) ≤ 100000000) := Lib.hid (Nat.le_trans (weigh_plain t) WT.out)
      have okT := Lib.hid TS.out.ok
      have fiT := Lib.hid TS.out.fit
      have hi0 : 0 < t.ins.length := List.length_pos_iff.2 hmay.ins
      have hbl := bare_le t
      have hb8 := bare_len t
      have hbi : t.ins.length ≤ 800 := by have := (weigh_len t).1; omega
      obtain ⟨N, hN⟩ : ∃ N, (bareS t).length = N := ⟨_, rfl⟩
      rw [hN] at hbl hb8
      have HN := Lib.hid hN
      have hN8 : 8 ≤ N := by omega
      have hNu : N ≤ 8192 := by omega
      obtain ⟨m, hm⟩ : ∃ m, t.ins.length = m := ⟨_, rfl⟩
      have HM := Lib.hid hm
      rw [hm] at hi0 hbi
      have B1 := Lib.hid hB
      have BX := Lib.hid (BW.out.trans (hB.mono BW.out.size))
      have R1c := Lib.hid (R1.out.later hB)
      have CP := Lib.hid (refPlain_any wc WT.out (TS.out.later hB))
      clear hb hwt hmay hput hbl hb8 hN hm hB R1
      go_upto_region 4 with (first
        | (refine wpList_load_part rfl (.tmp 1) rfl rfl rowTx R1c.out.whole rfl ?_)
        | (go_at_call 27; refine CP.out.mono ?_; rintro e w2 ⟨Pi, pi, pc, Po, po, pd, rfl, TP2, b2⟩; have HT2 := Lib.hid TP2; have HB2 := Lib.hid b2; clear TP2 b2 CP)
        | (refine wpList_store_ro rfl (.tmp 3) (.tmp 26) rfl (vs := txV t.ver Pi pi pc Po po pd t.lock) rfl rfl rowTx (Ro.new w2 26 zTx) rfl rfl (txV_one _ _ _ _ _ _ _ _) ?_))
      intro w3 R3 g3
      have bs3 := box_store g3
      have b3 := HB2.out.trans (bs3.mono HB2.out.size)
      have B3 := Lib.hid (BX.out.trans (b3.mono BX.out.size))
      have G3 := Lib.hid (B1.out.trans (b3.mono B1.out.size))
      have HT3 := Lib.hid (HT2.out.later bs3)
      have HR3 := Lib.hid R3
      obtain rfl : m = pi := by
        have h1 := HT3.out.ins.len
        have h2 := HM.out
        simp only [plain, List.length_map] at h1
        omega
      have CP : Hid (Calls Tryd.prog 14 #[.agg (txV t.ver Pi m pc Po po pd t.lock).toArray] w3 (GivesB w3 (bareS t))) := Lib.hid (by
        have h := refPut_any (t := plain t) w3 WP.out HT3.out
        rw [put_plain] at h
        exact h)
      clear R3 g3 bs3 b3 HB2 HT2 R1c B1 BX
      obtain ⟨p3, hp3⟩ : ∃ p3, w2.heap.size = p3 := ⟨_, rfl⟩
      rw [hp3] at HR3 ⊢
      clear hp3
      go_upto_region 5 with (first
        | (refine wpList_load_part rfl (.tmp 3) rfl rfl rowTx HR3.out.whole rfl ?_)
        | (go_at_call 14; refine CP.out.mono ?_; rintro e w4 ⟨A4, n4, c4, rfl, hc4, O4⟩; obtain rfl : N = n4 := HN.out.symm.trans O4.len))
      clear CP
      obtain ⟨g4, hg4⟩ : ∃ g, A4 = some ⟨g, 0, none⟩ := by
        obtain ⟨g, cap, hv, _, _⟩ := O4.row.form (by omega)
        injection hv with hv
        exact ⟨g, hv⟩
      subst hg4
      have X4 := Lib.hid O4.reads
      have B4 := Lib.hid (B3.out.trans (O4.bel.mono B3.out.size))
      have G4 := Lib.hid (G3.out.trans (O4.bel.mono G3.out.size))
      have R4 := Lib.hid (HR3.out.later O4.bel)
      have D4 := Lib.hid (HD.out.later HD.out.lt G4.out)
      clear O4 B3 G3 HR3 HT3 G4
      have w2' : IntKind.i64.wrap ((N : Int) - 4) = ((N - 4 : Nat) : Int) := by rw [IntWalk.i64_in _ ⟨by omega, by omega⟩]; omega
      have O5 := Lib.hid (Own.made (w0 := w4) (w := w4) (Below.refl _ _) #[] 0 (Nat.zero_le _) rfl)
      have X5 : Hid (Bs (w4.alloc (.cells #[] 5)) (some ⟨g4, 0, none⟩) 4 (low 4 t.ver)) := Lib.hid (by
        have h := (X4.out.later ((Below.refl w4.heap.size w4).alloc (Nat.le_refl _) (.cells #[] 5))).front (n := 4) (by omega)
        rwa [bare_take] at h)
      go_upto_region 6 with (at_builtin; refine wpList_appB rfl (.tmp 29) (.tmp 31) rfl rfl O5.out rfl X5.out (by omega) ?_)
      intro A5 n5 c5 w5 hc5 O G
      obtain rfl : 4 = n5 := (low_len 4 _).symm.trans O.len
      have bl5 := (Below.refl w5.heap.size w5).alloc (Nat.le_refl _) (.cells #[.int .u8 0, .int .u8 1] 5)
      have O6 := Lib.hid (O.later bl5)
      have X6 := Lib.hid (Bs.lit w5 [0, 1] (fun x hx => by simp at hx; omega))
      change Hid (Bs (w5.alloc (.cells #[.int .u8 0, .int .u8 1] 5)) (some ⟨w5.heap.size, 0, none⟩) 2 [0, 1]) at X6
      clear O G bl5 O5 X5
      go_upto_region 7 with (at_builtin; refine wpList_appB rfl (.tmp 33) (.tmp 34) rfl rfl O6.out rfl X6.out (by omega) ?_)
      intro A7 n7 c7 w7 hc7 O G
      obtain rfl : 6 = n7 := (by have h := O.len; simp only [List.length_append, List.length_cons, List.length_nil, low_len] at h; omega)
      have O7 := Lib.hid O
      have X7 : Hid (Bs w7 (some ⟨g4, 4, none⟩) (N - 4 - 4) (bodyS t)) := Lib.hid (by
        have h := (X4.out.later O.bel).cut (k := 4) (m := N - 4 - 4) (by omega) hc4
        have e := bare_mid t
        rw [HN.out] at e
        rw [e, if_neg (by omega)] at h
        exact h)
      clear O G O6 X6
      go_upto_region 8 with (at_builtin; refine wpList_appB rfl (.tmp 36) (.tmp 41) rfl rfl O7.out rfl X7.out (by omega) ?_)
      intro A8 n8 c8 w8 hc8 O G
      obtain ⟨g8, hg8⟩ : ∃ g, A8 = some ⟨g, 0, none⟩ := by
        obtain ⟨g, cap, hv, _, _⟩ := O.row.form (by have := O.len; simp only [List.length_append, List.length_cons, List.length_nil, low_len] at this; omega)
        injection hv with hv
        exact ⟨g, hv⟩
      subst hg8
      have O8 := Lib.hid O
      have L8 : Hid (n8 = N - 2) := Lib.hid (by have := O.len; have e := bare_len t; rw [HN.out] at e; simp only [List.length_append, List.length_cons, List.length_nil, low_len] at this; omega)
      have c1 := (R4.out.later O.bel).cell (k := 1) (v := .slice Pi m pc) rfl
      clear O G O7 X7
      go_upto_region 9 with (at_builtin; refine wpList_appZ rfl (.tmp 43) (.tmp 46) rfl rfl O8.out rfl hi0 (by have := L8.out; omega) ?_)
      intro A9 c9 w9 hc9 O G
      have O9 := Lib.hid O
      have X9 : Hid (Bs w9 (some ⟨g4, N - 4, none⟩) 4 (low 4 t.lock)) := Lib.hid (by
        have h := (X4.out.later O.bel).cut (k := N - 4) (m := 4) (by omega) hc4
        have e := bare_back t
        rw [HN.out] at e
        rw [e, List.take_of_length_le (by rw [low_len]; exact Nat.le_refl _), if_neg (by omega)] at h
        have ea := add_at g4 0 (N - 4)
        rw [Nat.zero_add] at ea
        rw [← ea]
        exact h)
      have e4 : N - (N - 4) = 4 := by omega
      clear O G O8 c1
      go_upto_region 10 with (at_builtin; refine wpList_appB rfl (.tmp 48) (.tmp 53) rfl rfl O9.out rfl X9.out (by have := L8.out; omega) ?_)
      intro A10 n10 c10 w10 hc10 O G
      have O10 : Hid (Own w4 (.slice A10 n10 c10) n10 (hollowS t) w10) := Lib.hid (by
        unfold hollowS
        rw [HM.out]
        exact O)
      have HL10 : Hid (n10 ≤ 16384) := Lib.hid (by have h1 := O10.out.len; rw [hollow_len, HN.out, HM.out] at h1; omega)
      have CG := txGet_any (c := c10) w10 O10.out.reads (by have := HL10.out; omega) hc10
      rw [hollow_bad okT.out fiT.out (by have h1 := O10.out.len; have := HL10.out; omega)] at CG
      obtain ⟨U, hU⟩ : ∃ U, getT (hollowS t) = U := ⟨_, rfl⟩
      rw [hU] at CG
      have HCG := Lib.hid CG
      have B10 := Lib.hid O.bel
      clear O G O9 X9 CG hU O10
      go_wp2_with (first
        | (go_at_call 23; refine HCG.out.mono ?_; rintro e w11 ⟨Xi, xi, yi, Xo, xo, yo, rfl, T6, B6⟩; have HB6 := Lib.hid B6; clear T6 B6 HCG)
        | (refine wpList_store_ro rfl (.tmp 6) (.tmp 58) rfl (vs := txV U.ver Xi xi yi Xo xo yo U.lock) rfl rfl rowTx (Ro.new w11 26 zTx) rfl rfl (txV_one _ _ _ _ _ _ _ _) ?_))
      intro w12 R12 g12
      have b12 := B10.out.trans ((HB6.out.trans ((box_store g12).mono HB6.out.size)).mono B10.out.size)
      have X12 := Lib.hid (X4.out.later b12)
      have B12 := Lib.hid (B4.out.trans (b12.mono B4.out.size))
      have D12 := Lib.hid (D4.out.later D4.out.lt b12)
      have c1 := (R4.out.later b12).cell (k := 1) (v := .slice Pi m pc) rfl
      clear R12 g12 b12 HB6 B10 X4 B4 D4 R4
      go_upto_region 13 with fail
      by_cases h252 : 252 < m
      · have d1 : decide ((252 : Int) < (m : Int)) = true := decide_eq_true (by omega)
        go_wp2_with (go_at_call 12; refine (works_any _ D12.out).mono ?_; rintro e w13 ⟨rfl, bel3⟩)
        go_ret
        exact ⟨rfl, B12.out.trans (bel3.mono B12.out.size)⟩
      · have d1 : decide ((252 : Int) < (m : Int)) = false := decide_eq_false (by omega)
        have m8 : m < 256 := by omega
        have O15 := Lib.hid (Own.made (w0 := w12) (w := w12) (Below.refl _ _) #[] 0 (Nat.zero_le _) rfl)
        have X15 : Hid (Bs (w12.alloc (.cells #[] 5)) (some ⟨g4, 0, none⟩) 4 (low 4 t.ver)) := Lib.hid (by
          have h := (X12.out.later ((Below.refl w12.heap.size w12).alloc (Nat.le_refl _) (.cells #[] 5))).front (n := 4) (by omega)
          rwa [bare_take] at h)
        go_upto_region 16 with (at_builtin; refine wpList_appB rfl (.tmp 67) (.tmp 69) rfl rfl O15.out rfl X15.out (by omega) ?_)
        intro A16 n16 c16 w16 hc16 O G
        obtain rfl : 4 = n16 := (low_len 4 _).symm.trans O.len
        have FV := bare_five (t := t) (by rw [HM.out]; omega)
        have X16 := Lib.hid (X12.out.later O.bel)
        have c4c : w16.cell? ⟨g4, 4, none⟩ = some (.int .u8 (m : Int)) := by
          obtain ⟨a, e, _, h⟩ := X16.out.cel (by omega)
          injection e with e
          subst e
          have h4 := h 4 (by omega)
          rw [add_at, FV.2, HM.out] at h4
          exact h4
        have bl := (Below.refl w16.heap.size w16).alloc (Nat.le_refl _) (.cells #[.int .u8 253, .int .u8 (m : Int), .int .u8 0] 5)
        have O16 := Lib.hid (O.later bl)
        have Y16 := Lib.hid (Bs.lit w16 [253, m, 0] (fun x hx => by simp at hx; omega))
        change Hid (Bs (w16.alloc (.cells #[.int .u8 253, .int .u8 (m : Int), .int .u8 0] 5)) (some ⟨w16.heap.size, 0, none⟩) 3 [253, m, 0]) at Y16
        have HFV := Lib.hid FV.1
        clear O G bl O15 X15 c1 FV
        go_upto_region 17 with (at_builtin; refine wpList_appB rfl (.tmp 71) (.tmp 75) rfl rfl O16.out rfl Y16.out (by omega) ?_)
        intro A17 n17 c17 w17 hc17 O G
        obtain rfl : 7 = n17 := (by have h := O.len; simp only [List.length_append, List.length_cons, List.length_nil, low_len] at h; omega)
        have O17 := Lib.hid O
        have X17 : Hid (Bs w17 (some ⟨g4, 5, none⟩) (N - 5) (insS t.ins ++ (countS t.outs.length ++ (outsS t.outs ++ low 4 t.lock)))) := Lib.hid (by
          have h := (X12.out.later O.bel).cut (k := 5) (m := N - 5) (by omega) hc4
          rw [HFV.out, List.take_of_length_le (by rw [← HFV.out, List.length_drop, HN.out]; exact Nat.le_refl _), if_neg (by omega)] at h
          exact h)
        clear O G O16 Y16 c4c X16
        go_upto_region 18 with (at_builtin; refine wpList_appB rfl (.tmp 77) (.tmp 79) rfl rfl O17.out rfl X17.out (by omega) ?_)
        intro A18 n18 c18 w18 hc18 O G
        have O18 : Hid (Own w12 (.slice A18 n18 c18) n18 (wideS t) w18) := Lib.hid (by
          unfold wideS
          rw [HM.out]
          exact O)
        have hm3 : t.ins.length < 253 := by rw [HM.out]; omega
        have HL18 : Hid (n18 ≤ 16384) := Lib.hid (by have h1 := O18.out.len; rw [wide_len hm3, HN.out] at h1; omega)
        have CG := txGet_any (c := c18) w18 O18.out.reads (by have := HL18.out; omega) hc18
        rw [wide_bad okT.out fiT.out hm3 (by have h1 := O18.out.len; have := HL18.out; omega)] at CG
        obtain ⟨V, hV⟩ : ∃ V, getT (wideS t) = V := ⟨_, rfl⟩
        rw [hV] at CG
        have HCG := Lib.hid CG
        have B18 := Lib.hid O.bel
        clear O G O17 X17 CG hV O18 hm3
        go_wp2_with (first
          | (go_at_call 23; refine HCG.out.mono ?_; rintro e w19 ⟨Yi, yi1, zi1, Yo, yo1, zo1, rfl, T6, B6⟩; have HB6 := Lib.hid B6; clear T6 B6 HCG)
          | (refine wpList_store_ro rfl (.tmp 9) (.tmp 84) rfl (vs := txV V.ver Yi yi1 zi1 Yo yo1 zo1 V.lock) rfl rfl rowTx (Ro.new w19 26 zTx) rfl rfl (txV_one _ _ _ _ _ _ _ _) ?_))
        intro w20 R20 g20
        have b20 := B18.out.trans ((HB6.out.trans ((box_store g20).mono HB6.out.size)).mono B18.out.size)
        have B20 := Lib.hid (B12.out.trans (b20.mono B12.out.size))
        have D20 := Lib.hid (D12.out.later D12.out.lt b20)
        clear R20 g20 b20 HB6 B18
        have EE : ((5 : Int) == 5) = true := rfl
        go_wp2_with (go_at_call 12; refine (works_any _ D20.out).mono ?_; rintro e w21 ⟨rfl, bel3⟩)
        go_ret
        exact ⟨rfl, B20.out.trans (bel3.mono B20.out.size)⟩
end Go.Proofs.YtbdjcbdnhaddoaaDoor
