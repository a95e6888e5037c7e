/- TxMoney: how much outputs may have. Condition: the tables lie as laid. -/
import Derived.Test.YtbdjcbdnhaddoaaDoorLawL
import Derived.Deep.Cut
import Derived.Deep.CutRange
import Derived.Lib.EndianBits
namespace Go.Proofs.YtbdjcbdnhaddoaaDoor
open Go.RowKit

set_option maxRecDepth 100000 in
set_option maxHeartbeats 8000000 in
theorem money_law {a b : Nat} {whole : Bool} {w : World} (ha : a < 18446744073709551616) (hb : b < 18446744073709551616) (_ : True) (hLd : Laid w) :
    Calls Tryd.prog 9 #[.int .u64 (a : Nat), .int .u64 (b : Nat), .bool whole] w fun e w' => e = .returned (.bool true) ∧ Below w.heap.size w w' := by
  have HD := Lib.hid hLd
  have HA := Lib.hid ha
  have z0 := zeroTx
  have BO := Lib.hid buildO0
  have CS := Lib.hid (small_any w)
  clear hLd
  go_enter Tryd.func9, Tryd.ntmps9
  go_upto_if 11 with fail
  go_cut [1] from 12 to 17 (fun v wx => ∃ B : Nat, B < 18446744073709551616 ∧ v = .int .u64 (B : Nat) ∧ wx = w)
  case first =>
    cases whole
    · go_wp2_with fail
      go_meet
      exact ⟨b, hb, rfl, rfl⟩
    · go_wp2_with fail
      go_meet
      exact ⟨_, wrapN_lt _, congrArg (Value.int .u64) (wrapN _), rfl⟩
  case rest =>
    obtain ⟨B, hB, rfl, hwc⟩ := hcut
    rw [hwc]
    clear hwc
    have HB := Lib.hid hB
    clear hb hB ha

    go_wp2_with (first | (go_at_call 28; refine CS.out.mono ?_; rintro e w1 ⟨g1, g2, g3, rfl, S1, Q1, hg3, B1⟩; have HG3 := Lib.hid hg3; clear hg3; have HS1 := Lib.hid S1; have HQ1 := Lib.hid Q1; have HB1 := Lib.hid B1; clear S1 Q1 B1 CS) | (refine wpList_store_ro rfl (.tmp 7) (.tmp 18) rfl (vs := txV 1 (some ⟨g1, 0, none⟩) 1 1 (some ⟨g2, 0, none⟩) 1 1 0) rfl rfl rowTx (Ro.new w1 26 zTx) rfl rfl (txV_one _ _ _ _ _ _ _ _) ?_))
    intro w2 R2 g2'
    have b2 := box_store g2'
    have P2 := Lib.hid R2
    have S2 := Lib.hid (HS1.out.later b2)
    have W2 := Lib.hid (HB1.out.trans (b2.mono HB1.out.size))
    obtain ⟨p, hp⟩ : ∃ p, w1.heap.size = p := ⟨_, rfl⟩
    have gp : Hid (g1 < p ∧ g2 < p ∧ w.heap.size ≤ p) := Lib.hid ⟨by rw [← hp]; exact HS1.out.i.lt, by rw [← hp]; exact HS1.out.o.lt, by rw [← hp]; exact HB1.out.size⟩
    rw [hp] at P2 ⊢
    clear R2 g2' b2 hp HS1 HQ1 HB1
    have R3 := Ro.new w2 46 (outV a none 0 0 ++ outV B none 0 0)
    have b3 := (Below.refl w2.heap.size w2).alloc (Nat.le_refl _) (.cells (outV a none 0 0 ++ outV B none 0 0).toArray 46)
    have P3 := P2.out.later b3
    have c2 := P3.cell (k := 2) (v := .slice (some ⟨g2, 0, none⟩) 1 1) rfl
    have f2 := P3.free 2
    have HR3 := Lib.hid R3
    have HB3 := Lib.hid b3
    have HP3 := Lib.hid P3
    clear R3 b3 P3
    go_upto_region 5 with (first
      | (refine wpList_plain rfl fun _ hK => wp_buildR rfl 46 #[(0, .tmp 19)] rfl (us := #[(0, .int .u64 (a : Int))]) (by simp [go_sem]) (BO.out _ _) (hK _ _ ?_))
      | (refine wpList_plain rfl fun _ hK => wp_buildR rfl 46 #[(0, .tmp 21)] rfl (us := #[(0, .int .u64 (B : Int))]) (by simp [go_sem]) (BO.out _ _) (hK _ _ ?_))
      | (refine wpList_plain rfl fun _ hK => wp_lit2 elemO (by decide) rfl (.tmp 20) (.tmp 22) rfl (V := outV a none 0 0) (U := outV B none 0 0) rfl rfl rfl rfl (hK _ _ ?_)))
    obtain ⟨x, hx⟩ : ∃ x, w2.heap.size = x := ⟨_, rfl⟩
    have gx : Hid (p < x ∧ g1 < x) := Lib.hid ⟨by rw [← hx]; exact P2.out.lt, by rw [← hx]; exact S2.out.i.lt⟩
    have W3 := Lib.hid (W2.out.trans (HB3.out.mono W2.out.size))
    obtain ⟨w3, hw3⟩ : ∃ w3, w2.alloc (.cells (outV a none 0 0 ++ outV B none 0 0).toArray 46) = w3 := ⟨_, rfl⟩
    rw [hw3] at HR3 HP3 W3 HB3 ⊢
    rw [hx] at HR3 ⊢
    have G4 := gr_set w3 p 2 (.slice (some ⟨x, 0, none⟩) 2 2)
    have P4 := Lib.hid (HP3.out.set 2 (.slice (some ⟨x, 0, none⟩) 2 2))
    have R4 := Lib.hid (HR3.out.far G4 (fun e => by have := gx.out; injection e; omega))
    have I4 := Lib.hid ((S2.out.i.later HB3.out).far G4 (fun e => by have := gp.out; injection e; omega))
    have W4 : Hid (Below w.heap.size w (w3.setCell ⟨p, 2, none⟩ (.slice (some ⟨x, 0, none⟩) 2 2))) := Lib.hid (W3.out.setCell (p := ⟨p, 2, none⟩) gp.out.2.2 _)
    obtain ⟨w4, hw4⟩ : ∃ w4, w3.setCell ⟨p, 2, none⟩ (.slice (some ⟨x, 0, none⟩) 2 2) = w4 := ⟨_, rfl⟩
    rw [hw4] at P4 R4 I4 W4 ⊢
    change Hid (Ro w4 p 26 (txV 1 (some ⟨g1, 0, none⟩) 1 1 (some ⟨x, 0, none⟩) 2 2 0)) at P4
    have T4 := Lib.hid (money_tx I4.out S2.out.l1 R4.out (Nat.le_of_lt (Nat.lt_of_le_of_lt gp.out.2.2 gx.out.1)) HA.out HB.out)
    clear G4 hw4 hw3 HR3 HB3 HP3 W3 W2 P2 S2 I4 R4 hx c2 f2
    obtain ⟨q, hq⟩ : ∃ q, decide (May (moneyT a B)) = q := ⟨_, rfl⟩
    have MI := money_iff a B
    have MG := money_get HA.out HB.out
    rw [hq] at MG
    have HQ := Lib.hid hq
    go_cut [8] from 25 to 36 (fun v wx => v = .bool q ∧ wx = w4)
    case first =>
      have lh := HA.out
      have lB := HB.out
      by_cases h1 : a ≤ 2100000000000000
      · by_cases h2 : B ≤ 2100000000000000
        · by_cases h3 : a + B ≤ 2100000000000000
          · obtain rfl : q = true := by rw [← hq]; exact decide_eq_true (MI.2 ⟨h1, h2, h3⟩)
            have d1 : decide ((a : Int) ≤ 2100000000000000) = true := decide_eq_true (by omega)
            have d2 : decide ((B : Int) ≤ 2100000000000000) = true := decide_eq_true (by omega)
            have d3 : IntKind.u64.wrap ((a : Int) + (B : Int)) = ((a + B : Nat) : Int) := by rw [IntKind.wrap_u64]; omega
            have d4 : decide (((a + B : Nat) : Int) ≤ 2100000000000000) = true := decide_eq_true (by omega)
            clear MI MG hq
            go_wp2_with fail
            go_meet
            exact ⟨congrArg Value.bool (decide_eq_true (by omega)), rfl⟩
          · obtain rfl : q = false := by rw [← hq]; exact decide_eq_false (fun h => h3 (MI.1 h).2.2)
            have d1 : decide ((a : Int) ≤ 2100000000000000) = true := decide_eq_true (by omega)
            have d2 : decide ((B : Int) ≤ 2100000000000000) = true := decide_eq_true (by omega)
            have d3 : IntKind.u64.wrap ((a : Int) + (B : Int)) = ((a + B : Nat) : Int) := by rw [IntKind.wrap_u64]; omega
            have d4 : decide (((a + B : Nat) : Int) ≤ 2100000000000000) = false := decide_eq_false (by omega)
            clear MI MG hq
            go_wp2_with fail
            go_meet
            exact ⟨congrArg Value.bool (decide_eq_false (by omega)), rfl⟩
        · obtain rfl : q = false := by rw [← hq]; exact decide_eq_false (fun h => h2 (MI.1 h).2.1)
          have d1 : decide ((a : Int) ≤ 2100000000000000) = true := decide_eq_true (by omega)
          have d2 : decide ((B : Int) ≤ 2100000000000000) = false := decide_eq_false (by omega)
          clear MI MG hq
          go_wp2_with fail
          go_meet
          exact ⟨rfl, rfl⟩
      · obtain rfl : q = false := by rw [← hq]; exact decide_eq_false (fun h => h1 (MI.1 h).1)
        have d1 : decide ((a : Int) ≤ 2100000000000000) = false := decide_eq_false (by omega)
        clear MI MG hq
        go_wp2_with fail
        go_meet
        exact ⟨rfl, rfl⟩
    case rest =>
      obtain ⟨rfl, hwc⟩ := hcut
      rw [hwc]
      clear hwc MI hq
      obtain ⟨B9, hB9⟩ : ∃ B9, putS (moneyT a B) = B9 := ⟨_, rfl⟩
      have ML := moneyT_len a B
      have CP := txPut_any (t := moneyT a B) w4 (moneyT_w a B) T4.out.r
      rw [hB9] at CP ML MG
      obtain ⟨E9, hE9⟩ : ∃ E, getE B9 = E := ⟨_, rfl⟩
      obtain ⟨U, hU⟩ : ∃ U, getT B9 = U := ⟨_, rfl⟩
      rw [hE9] at MG
      have HE9 := Lib.hid hE9
      have HU := Lib.hid hU
      have HML := Lib.hid ML
      have HCP := Lib.hid CP
      have HMG := Lib.hid MG
      clear hB9 ML CP hE9 hU MG
      go_wp2_with (first
        | (refine wpList_load_part rfl (.tmp 7) rfl rfl rowTx P4.out.whole rfl ?_)
        | (go_at_call 13; refine HCP.out.mono ?_; rintro e w5 ⟨A5, n5, c5, rfl, hc5, O5⟩; obtain rfl : 69 = n5 := HML.out.symm.trans O5.len; have HO5 := Lib.hid O5; clear O5 HCP; have CG := Lib.hid (txGet_any w5 HO5.out.reads (by decide) hc5); rw [HE9.out, HU.out] at CG)
        | (go_at_call 23; refine CG.out.mono ?_; rintro e w6 ⟨Xi, xi, yi, Xo, xo, yo, rfl, T6, B6⟩; have HB6 := Lib.hid B6; clear T6 B6 CG)
        | (refine wpList_store_ro rfl (.tmp 9) (.tmp 41) rfl (vs := txV U.ver Xi xi yi Xo xo yo U.lock) rfl rfl rowTx (Ro.new w6 26 zTx) rfl rfl (txV_one _ _ _ _ _ _ _ _) ?_))
      intro w7 R7 g7
      have b7 := HO5.out.bel.trans ((HB6.out.trans ((box_store g7).mono HB6.out.size)).mono HO5.out.bel.size)
      have W7 := Lib.hid (W4.out.trans (b7.mono W4.out.size))
      have P7 := Lib.hid (P4.out.later b7)
      have T7 := Lib.hid (T4.out.keep (Kept.of_below b7))
      have CM := Lib.hid (txMay_any (t := moneyT a B) w7 (moneyT_w a B) T7.out.r)
      rw [HQ.out] at CM
      have LD := Lib.hid (HD.out.later HD.out.lt W7.out)
      clear R7 g7 b7 HO5 HB6 T4 P4 W4
      have EQ : (q == q) = true := beq_self_eq_true q
      have EE : ((E9 : Int) == 0) = q := by
        rw [HMG.out]
        cases q <;> rfl
      go_wp2_with (first
        | (refine wpList_load_part rfl (.tmp 7) rfl rfl rowTx P7.out.whole rfl ?_)
        | (go_at_call 19; refine CM.out.mono ?_; rintro e w8 ⟨rfl, b8⟩; have B8 := Lib.hid b8; clear b8 CM)
        | (go_at_call 12; refine (works_any _ (LD.out.later LD.out.lt B8.out)).mono ?_; rintro e w9 ⟨rfl, b9⟩; have B9' := Lib.hid (B8.out.trans (b9.mono B8.out.size)); clear b9))
      go_ret
      exact ⟨rfl, W7.out.trans (B9'.out.mono W7.out.size)⟩
end Go.Proofs.YtbdjcbdnhaddoaaDoor
