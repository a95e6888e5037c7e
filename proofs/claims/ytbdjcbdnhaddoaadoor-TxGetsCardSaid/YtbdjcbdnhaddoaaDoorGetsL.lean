/- TxGets: which transaction bytes are, or that they are none: the program's answer is the document's. Condition: the tables lie as laid. -/
import Derived.Test.YtbdjcbdnhaddoaaDoorRGet
import Derived.Test.YtbdjcbdnhaddoaaDoorWorks
namespace Go.Proofs.YtbdjcbdnhaddoaaDoor
open Go.RowKit

set_option maxRecDepth 100000 in
set_option maxHeartbeats 8000000 in
theorem gets_law {A : Option Addr} {n c : Nat} {L : List Nat} {w : World} (hnc : n ≤ c) (_ : n ≤ 140737488351232) (hL : Bs w A n L) (hLd : Laid w) :
    Calls Tryd.prog 4 #[.slice A n c] w fun e w' => e = .returned (.bool true) ∧ Below w.heap.size w w' := by
  have z0 := zeroTx
  have HD := Lib.hid hLd
  have HL := Lib.hid hL
  by_cases hn : 32768 < n
  · have t1 : decide ((32768 : Int) < (n : Int)) = true := decide_eq_true (by omega)
    have CW := Lib.hid (works_any w HD.out)
    clear hL hLd
    go_enter Tryd.func4, Tryd.ntmps4
    go_wp2_with (go_at_call 12; refine CW.out.mono ?_; rintro e w3 ⟨rfl, bel3⟩)
    go_ret
    exact ⟨rfl, bel3⟩
  · have t1 : decide ((32768 : Int) < (n : Int)) = false := decide_eq_false (by omega)
    have CG := txGet_any w hL (by omega) hnc
    obtain ⟨T, hT⟩ : ∃ T, getT L = T := ⟨_, rfl⟩
    obtain ⟨E, hE⟩ : ∃ E, getE L = E := ⟨_, rfl⟩
    rw [hT, hE] at CG
    have HT := Lib.hid hT
    have HE := Lib.hid hE
    have HCG := Lib.hid CG
    clear hL hLd CG hT hE
    go_enter Tryd.func4, Tryd.ntmps4
    go_wp2_with (first
      | (go_at_call 23; refine HCG.out.mono ?_; rintro e w1 ⟨Ai, ni, ci, Ao, no, co, rfl, T1, B1⟩; have HT1 := Lib.hid T1; have HB1 := Lib.hid B1; clear T1 B1 HCG)
      | (refine wpList_store_ro rfl (.tmp 3) (.tmp 14) rfl (vs := txV T.ver Ai ni ci Ao no co T.lock) rfl rfl rowTx (Ro.new w1 26 zTx) rfl rfl (txV_one _ _ _ _ _ _ _ _) ?_))
    intro w2 R2 g2
    have b2 := box_store g2
    have HR2 := Lib.hid R2
    have T2 := Lib.hid (HT1.out.keep (Kept.of_below b2))
    have B2 := Lib.hid (HB1.out.trans (b2.mono HB1.out.size))
    obtain ⟨p1, hp1⟩ : ∃ p, w1.heap.size = p := ⟨_, rfl⟩
    rw [hp1] at HR2 ⊢
    have CR := refGet_any w2 (HL.out.later B2.out) (by omega) hnc
    rw [HT.out, HE.out] at CR
    have HCR := Lib.hid CR
    clear R2 g2 b2 HT1 HB1 hp1 CR
    go_wp2_with (first
      | (go_at_call 24; refine HCR.out.mono ?_; rintro e w3 ⟨Bi, mi, di, Bo, mo, do_, rfl, T3, B3⟩; have HT3 := Lib.hid T3; have HB3 := Lib.hid B3; clear T3 B3 HCR)
      | (refine wpList_store_ro rfl (.tmp 5) (.tmp 19) rfl (vs := txV T.ver Bi mi di Bo mo do_ T.lock) rfl rfl rowTx (Ro.new w3 26 zTx) rfl rfl (txV_one _ _ _ _ _ _ _ _) ?_))
    intro w4 R4 g4
    have b4 := HB3.out.trans ((box_store g4).mono HB3.out.size)
    have HR4 := Lib.hid R4
    have T4 := Lib.hid (HT3.out.keep (Kept.of_below (box_store g4)))
    have T5 := Lib.hid (T2.out.keep (Kept.of_below b4))
    have HR5 := Lib.hid (HR2.out.later b4)
    have B4 := Lib.hid (B2.out.trans (b4.mono B2.out.size))
    have LD := Lib.hid (HD.out.later HD.out.lt B4.out)
    obtain ⟨p2, hp2⟩ : ∃ p, w3.heap.size = p := ⟨_, rfl⟩
    rw [hp2] at HR4 ⊢
    have CS := refSame_any (s := T) (t := T) w4 T5.out.r T4.out.r
    rw [decide_eq_true rfl] at CS
    have HCS := Lib.hid CS
    clear R4 g4 b4 HT3 HB3 hp2 CS T2 HR2
    have EE : ((E : Int) == (E : Int)) = true := beq_self_eq_true _
    go_wp2_with (first
      | (go_at_call 25; refine HCS.out.mono ?_; rintro e w5 ⟨rfl, b5⟩; have B5 := Lib.hid b5; clear b5 HCS)
      | (go_at_call 12; refine (works_any _ (LD.out.later LD.out.lt B5.out)).mono ?_; rintro e w6 ⟨rfl, b6⟩; have B6 := Lib.hid (B5.out.trans (b6.mono B5.out.size)); clear b6)
      | (refine wpList_load_part rfl (.tmp 3) rfl rfl rowTx HR5.out.whole rfl ?_)
      | (refine wpList_load_part rfl (.tmp 5) rfl rfl rowTx HR4.out.whole rfl ?_))
    go_ret
    exact ⟨rfl, B4.out.trans (B6.out.mono B4.out.size)⟩
end Go.Proofs.YtbdjcbdnhaddoaaDoor
