/- TxLong: how many bytes a transaction may have. Condition: the tables lie as laid. -/
import Derived.Test.YtbdjcbdnhaddoaaDoorLawL
import Derived.Deep.Cut
import Derived.Deep.CutRange
namespace Go.Proofs.YtbdjcbdnhaddoaaDoor
open Go.RowKit

set_option maxRecDepth 100000 in
set_option maxHeartbeats 8000000 in
theorem long_law {z : Int} {w : World} (hz : -128 ≤ z ∧ z < 128) (hLd : Laid w) :
    Calls Tryd.prog 8 #[.int .i8 z] w fun e w' => e = .returned (.bool true) ∧ Below w.heap.size w w' := by
  have HD := Lib.hid hLd
  have z0 := zeroTx
  obtain ⟨N, hN⟩ : ∃ N : Nat, (16322 : Int) + z = (N : Int) := ⟨(16322 + z).toNat, by omega⟩
  have HZ : Hid (-128 ≤ z ∧ z < 128 ∧ (16322 : Int) + z = (N : Int)) := Lib.hid ⟨hz.1, hz.2, hN⟩
  have k1 : IntKind.i64.wrap z = z := IntWalk.i64_in _ ⟨by omega, by omega⟩
  have k2 : IntKind.i64.wrap (16322 + z) = (N : Int) := by rw [hN]; exact IntWalk.i64_in _ ⟨by omega, by omega⟩
  have MK : Hid (∀ W : World, (Instr.makeSlice 29 (.int .i64 (N : Int)) (.int .i64 (N : Int))).run Tryd.prog W = .ok (.slice (some ⟨W.heap.size, 0, none⟩) N N) (W.alloc (.cells (vals (List.replicate N 0)).toArray 5))) := Lib.hid (fun W => run_make_bytes N N _ _ rfl rfl (Nat.le_refl _) (by omega) W)
  have CS := Lib.hid (small_any w)
  clear hLd hz hN
  go_enter Tryd.func8, Tryd.ntmps8
  go_wp2_with (first | (go_at_call 28; refine CS.out.mono ?_; rintro e w1 ⟨g1, g2, g3, rfl, S1, Q1, hg3, B1⟩; have HG3 := Lib.hid hg3; clear hg3; have HS1 := Lib.hid S1; have HQ1 := Lib.hid Q1; have HB1 := Lib.hid B1; clear S1 Q1 B1 CS) | (refine wpList_store_ro rfl (.tmp 3) (.tmp 7) rfl (vs := txV 1 (some ⟨g1, 0, none⟩) 1 1 (some ⟨g2, 0, none⟩) 1 1 0) rfl rfl rowTx (Ro.new w1 26 zTx) rfl rfl (txV_one _ _ _ _ _ _ _ _) ?_))
  intro w2 R2 g2'
  have b2 := box_store g2'
  have P2 := Lib.hid R2
  have S2 := Lib.hid (HS1.out.later b2)
  have W2 := Lib.hid (HB1.out.trans (b2.mono HB1.out.size))
  obtain ⟨p, hp⟩ : ∃ p, w1.heap.size = p := ⟨_, rfl⟩
  have gp : Hid (g1 < p ∧ g2 < p ∧ w.heap.size ≤ p) := Lib.hid ⟨by rw [← hp]; exact HS1.out.i.lt, by rw [← hp]; exact HS1.out.o.lt, by rw [← hp]; exact HB1.out.size⟩
  rw [hp] at P2 ⊢
  clear R2 g2' b2 hp HS1 HQ1 HB1
  go_upto_region 2 with fail
  go_cut [] from 8 to 15 (fun wx => LongB w wx p g1 g2 N)
  case first =>
    have mk := MK.out
    have c2 := P2.out.cell (k := 2) (v := .slice (some ⟨g2, 0, none⟩) 1 1) rfl
    have b3 := (Below.refl w2.heap.size w2).alloc (Nat.le_refl _) (.cells (vals (List.replicate N 0)).toArray 5)
    have c3 := (P2.out.later b3).cell (k := 2) (v := .slice (some ⟨g2, 0, none⟩) 1 1) rfl
    have c4 := (S2.out.o.later b3).cell (k := 1) (v := .slice (some ⟨g3, 0, none⟩) 1 1) rfl
    have f3 := (S2.out.o.later b3).free 1
    have gq := gp
    clear b3
    go_region
    go_wp2_with fail
    go_meet
    exact long_box S2.out P2.out gq.out W2.out (by have := HZ.out; omega) (Below.drew (Below.refl _ _))
  case rest =>
    have HB := Lib.hid hcut
    clear hcut S2 W2 P2 gp HG3
    obtain ⟨B9, hB9⟩ : ∃ B9, putS (smallT (List.replicate N 0)) = B9 := ⟨_, rfl⟩
    have ML : B9.length ≤ 1073741824 := by rw [← hB9, smallT_put, smallT_len, List.length_replicate, count_len (by have := HZ.out; omega) (by have := HZ.out; omega)]; have := HZ.out; omega
    have hwt : weigh (smallT (List.replicate N 0)) ≤ 100000000 := smallT_w (by rw [List.length_replicate]; have := HZ.out; omega)
    have HWT := Lib.hid hwt
    have CP := txPut_any (t := smallT (List.replicate N 0)) wc hwt HB.out.t.r
    rw [hB9] at CP
    have HML := Lib.hid ML
    have HCP := Lib.hid CP
    clear CP ML hwt
    by_cases hz : 0 < z
    · have d0 : decide (0 < z) = true := decide_eq_true hz
      obtain ⟨hm, he, ht⟩ := long_no (n := N) (by have := HZ.out; omega) (by have := HZ.out; omega)
      rw [hB9] at he ht
      have HE9 := Lib.hid he
      have HU := Lib.hid ht
      have HM := Lib.hid (decide_eq_false hm)
      clear he ht hm hB9
      go_wp2_with (first
        | (refine wpList_load_part rfl (.tmp 3) rfl rfl rowTx HB.out.p.whole rfl ?_)
        | (go_at_call 13; refine HCP.out.mono ?_; rintro e w5 ⟨A5, n5, c5, rfl, hc5, O5⟩; have hn5 : n5 ≤ 1073741824 := (by have h1 := O5.len; have h2 := HML.out; omega); have HO5 := Lib.hid O5; clear O5 HCP; have CG := Lib.hid (txGet_any w5 HO5.out.reads hn5 hc5); rw [HE9.out, HU.out] at CG)
        | (go_at_call 23; refine CG.out.mono ?_; rintro e w6 ⟨Xi, xi, yi, Xo, xo, yo, rfl, T6, B6⟩; have HB6 := Lib.hid B6; have HT6 := Lib.hid T6; clear T6 B6 CG)
        | (refine wpList_store_ro rfl (.tmp 5) (.tmp 21) rfl (vs := txV 0 Xi xi yi Xo xo yo 0) rfl rfl rowTx (Ro.new w6 26 zTx) rfl rfl (txV_one _ _ _ _ _ _ _ _) ?_))
      intro w7 R7 g7
      have b7 := HO5.out.bel.trans ((HB6.out.trans ((box_store g7).mono HB6.out.size)).mono HO5.out.bel.size)
      have W7 := Lib.hid (HB.out.bel.trans (b7.mono HB.out.bel.size))
      have P7 := Lib.hid (HB.out.p.later b7)
      have T7 := Lib.hid (HB.out.t.keep (Kept.of_below b7))
      have CM := Lib.hid (txMay_any (t := smallT (List.replicate N 0)) w7 HWT.out T7.out.r)
      rw [HM.out] at CM
      have LD := Lib.hid (HD.out.later HD.out.lt W7.out)
      obtain rfl : 0 = xi := HT6.out.ins.len
      have p5 := R7.cell (k := 1) (v := .slice Xi 0 yi) rfl
      clear R7 g7 b7 HO5 HB6 HT6 HB
      have EE : ((6 : Int) == 6) = true := rfl
      have EZ : ((0 : Int) == 0) = true := rfl
      obtain ⟨p3, hp3⟩ : ∃ p3, w6.heap.size = p3 := ⟨_, rfl⟩
      rw [hp3] at p5 ⊢
      have P5 := Lib.hid p5
      clear p5 hp3
      go_upto_region 6 with fail
      go_wp2_with (first
        | (refine wpList_load_part rfl (.tmp 3) rfl rfl rowTx P7.out.whole rfl ?_)
        | (go_at_call 19; refine CM.out.mono ?_; rintro e w8 ⟨rfl, b8⟩; have B8 := Lib.hid b8; have c5 := cell_later b8 P5.out; clear b8 CM P5)
        | (go_at_call 12; refine (works_any _ (LD.out.later LD.out.lt B8.out)).mono ?_; rintro e w9 ⟨rfl, b9⟩; have B9' := Lib.hid (B8.out.trans (b9.mono B8.out.size)); clear b9))
      go_ret
      exact ⟨rfl, W7.out.trans (B9'.out.mono W7.out.size)⟩
    · have d0 : decide (0 < z) = false := decide_eq_false hz
      obtain ⟨hm, he, ht⟩ := long_yes (n := N) (by have := HZ.out; omega) (by have := HZ.out; omega)
      rw [hB9] at he ht
      have HE9 := Lib.hid he
      have HU := Lib.hid ht
      have HM := Lib.hid (decide_eq_true hm)
      clear he ht hm hB9
      go_wp2_with (first
        | (refine wpList_load_part rfl (.tmp 3) rfl rfl rowTx HB.out.p.whole rfl ?_)
        | (go_at_call 13; refine HCP.out.mono ?_; rintro e w5 ⟨A5, n5, c5, rfl, hc5, O5⟩; have hn5 : n5 ≤ 1073741824 := (by have h1 := O5.len; have h2 := HML.out; omega); have HO5 := Lib.hid O5; clear O5 HCP; have CG := Lib.hid (txGet_any w5 HO5.out.reads hn5 hc5); rw [HE9.out, HU.out] at CG)
        | (go_at_call 23; refine CG.out.mono ?_; rintro e w6 ⟨Xi, xi, yi, Xo, xo, yo, rfl, T6, B6⟩; have HB6 := Lib.hid B6; have HT6 := Lib.hid T6; clear T6 B6 CG)
        | (refine wpList_store_ro rfl (.tmp 5) (.tmp 21) rfl (vs := txV 1 Xi xi yi Xo xo yo 0) rfl rfl rowTx (Ro.new w6 26 zTx) rfl rfl (txV_one _ _ _ _ _ _ _ _) ?_))
      intro w7 R7 g7
      have b7 := HO5.out.bel.trans ((HB6.out.trans ((box_store g7).mono HB6.out.size)).mono HO5.out.bel.size)
      have W7 := Lib.hid (HB.out.bel.trans (b7.mono HB.out.bel.size))
      have P7 := Lib.hid (HB.out.p.later b7)
      have T7 := Lib.hid (HB.out.t.keep (Kept.of_below b7))
      have CM := Lib.hid (txMay_any (t := smallT (List.replicate N 0)) w7 HWT.out T7.out.r)
      rw [HM.out] at CM
      have LD := Lib.hid (HD.out.later HD.out.lt W7.out)
      have T5 : Hid (TxG w7 (fun b => w5.heap.size ≤ b) (smallT (List.replicate N 0)) Xi xi yi Xo xo yo) := Lib.hid (HT6.out.keep (Kept.of_below (box_store g7)))
      have R5 := Lib.hid R7
      clear R7 g7 b7 HO5 HB6 HT6 HB
      obtain ⟨p3, hp3⟩ : ∃ p3, w6.heap.size = p3 := ⟨_, rfl⟩
      rw [hp3] at R5 ⊢
      clear hp3
      have EE : ((0 : Int) == 0) = true := rfl
      go_upto_region 7 with fail
      go_wp2_with (first
        | (go_at_call 19; refine CM.out.mono ?_; rintro e w8 ⟨rfl, b8⟩; have B8 := Lib.hid b8; clear b8 CM)
        | (refine wpList_load_part rfl (.tmp 3) rfl rfl rowTx P7.out.whole rfl ?_)
        | (go_at_call 25; refine CS9.out.mono ?_; rintro e w9 ⟨rfl, b9⟩; have B9' := Lib.hid (B8.out.trans (b9.mono B8.out.size)); clear b9 CS9)
        | (go_at_call 12; refine (works_any _ (LD.out.later LD.out.lt B9'.out)).mono ?_; rintro e w10 ⟨rfl, b10⟩; have BA := Lib.hid (B9'.out.trans (b10.mono B9'.out.size)); clear b10)
        | (refine BigFrame.wpList_want (by rfl) fun K hK => wp_load_part rfl (.tmp 5) rfl rfl rowTx (R5.out.later B8.out).whole rfl (hK _ _ ?_))
        | (refine BigFrame.wpList_want (by rfl) fun K hK => wp_load_part rfl (.tmp 3) rfl rfl rowTx (P7.out.later B8.out).whole rfl (hK _ _ ?_); have CS9 := Lib.hid (refSame_any (s := smallT (List.replicate N 0)) (t := smallT (List.replicate N 0)) w8 (T5.out.keep (Kept.of_below B8.out)).r (T7.out.keep (Kept.of_below B8.out)).r); rw [decide_eq_true rfl] at CS9))
      go_ret
      exact ⟨rfl, W7.out.trans (BA.out.mono W7.out.size)⟩
end Go.Proofs.YtbdjcbdnhaddoaaDoor
