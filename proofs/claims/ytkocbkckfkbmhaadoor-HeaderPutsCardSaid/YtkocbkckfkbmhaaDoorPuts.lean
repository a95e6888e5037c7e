/- HeaderPuts: the bytes of a header, its hash, and which header bytes are. No condition but that the tables lie as laid. -/
import Derived.Test.YtkocbkckfkbmhaaDoorStr
namespace Go.Proofs.YtkocbkckfkbmhaaDoor
open Go.RowKit

set_option maxRecDepth 100000 in
set_option maxHeartbeats 8000000 in
theorem puts_law {h : Hd} {A : Option Addr} {n c : Nat} {L : List Nat} {w : World} (o : h.Ok) (hnc : n ≤ c) (_ : c ≤ 9223372036854775807) (hL : Bs w A n L) (hLd : Laid w) :
    Calls Tryd.prog 3 #[.agg (hdV h).toArray, .slice A n c] w fun e w' => e = .returned (.bool true) ∧ Below w.heap.size w w' := by
  have HD := Lib.hid hLd
  have HL := Lib.hid hL
  have ok := Lib.hid o
  have ll := Lib.hid (hdV_len o)
  have gok := Lib.hid (gotA_ok hL.byt)
  have gl := Lib.hid (hdV_len (gotA_ok hL.byt))
  obtain ⟨G, hG⟩ : ∃ G, gotA L = G := ⟨_, rfl⟩
  obtain ⟨E, hE⟩ : ∃ E, gotE L = E := ⟨_, rfl⟩
  have CG : Hid (∀ w1, Below w.heap.size w w1 → Calls Tryd.prog 12 #[.slice A n c] w1 fun e w' => e = .returned (.tuple #[.agg (hdV G).toArray, .int .i64 (E : Nat)]) ∧ Below w1.heap.size w1 w') := Lib.hid (fun w1 b => by rw [← hG, ← hE]; exact get_gen w1 hnc (HL.out.later b))
  have CR : Hid (∀ w1, Below w.heap.size w w1 → Calls Tryd.prog 13 #[.slice A n c] w1 fun e w' => e = .returned (.tuple #[.agg (hdV G).toArray, .int .i64 (E : Nat)]) ∧ Below w1.heap.size w1 w') := Lib.hid (fun w1 b => by rw [← hG, ← hE]; exact refGet_gen w1 (HL.out.later b))
  rw [hG] at gok gl
  clear hL hLd o hG hE
  have fin : ∀ w1, Below w.heap.size w w1 → Calls Tryd.prog 11 #[] w1 fun e w' => e = .returned (.bool true) ∧ Below w.heap.size w w' := fun w1 b => (works_any w1 (HD.out.later HD.out.lt b)).mono fun e w' ⟨h1, h2⟩ => ⟨h1, b.trans (h2.mono b.size)⟩
  have FIN := Lib.hid fin
  clear fin
  have B0 := Lib.hid ((Below.refl w.heap.size w).alloc (Nat.le_refl _) (.cells (hdV h).toArray 26))
  have R0 := Lib.hid (Ro.new w 26 (hdV h))
  go_enter Tryd.func3, Tryd.ntmps3
  go_wp2_with fail
  refine (heavy_any none A 0 n 0 c _).mono ?_
  rintro e w' ⟨rfl, rfl⟩
  by_cases hb : 16384 < n
  · have t1 : (decide (200 < 0) || decide (16384 < n)) = true := by simp [hb]
    rw [t1]
    clear t1
    go_wp2_with fail
    refine (FIN.out _ B0.out).mono ?_
    rintro e w1 ⟨rfl, hb⟩
    have HB := Lib.hid hb
    clear hb
    go_wp2_with fail
    go_ret
    exact ⟨rfl, HB.out⟩
  · have t1 : (decide (200 < 0) || decide (16384 < n)) = false := by simp [hb]
    rw [t1]
    clear t1
    go_wp2_with fail
    refine (CG.out _ B0.out).mono ?_
    rintro e w1 ⟨rfl, hb1⟩
    have B1 := Lib.hid (B0.out.trans (hb1.mono B0.out.size))
    have R1 := Lib.hid (R0.out.later hb1)
    clear hb1 B0 R0 CG
    have z0 := zeroHd
    go_wp2_with (refine wpList_store_ro rfl (.tmp 5) (.tmp 15) rfl rfl rfl rowHd (Ro.new w1 26 (hdV zeroH)) rfl gl.out (hdV_one _) ?_)
    intro w2 X2 g2
    have B2 := Lib.hid (B1.out.trans ((box_store g2).mono B1.out.size))
    have R2 := Lib.hid (R1.out.later (box_store g2))
    have HX2 := Lib.hid X2
    clear X2 g2 B1 R1
    go_wp2_with fail
    refine (CR.out _ B2.out).mono ?_
    rintro e w3 ⟨rfl, hb3⟩
    have B3 := Lib.hid (B2.out.trans (hb3.mono B2.out.size))
    have R3 := Lib.hid (R2.out.later hb3)
    have X3 := Lib.hid (HX2.out.later hb3)
    clear hb3 B2 R2 HX2 CR
    go_wp2_with (refine wpList_store_ro rfl (.tmp 7) (.tmp 20) rfl rfl rfl rowHd (Ro.new w3 26 (hdV zeroH)) rfl gl.out (hdV_one _) ?_)
    intro w4 Y4 g4
    have B4 := Lib.hid (B3.out.trans ((box_store g4).mono B3.out.size))
    have R4 := Lib.hid (R3.out.later (box_store g4))
    have X4 := Lib.hid (X3.out.later (box_store g4))
    have HY4 := Lib.hid Y4
    clear Y4 g4 B3 R3 X3 z0
    have EQ := fun w => (eq_hd gok.out gok.out w).trans (by rw [decide_eq_true rfl])
    have EI := eqV (idS_len h) (idS_len h)
    rw [eqB_yes rfl] at EI
    obtain ⟨I, hI⟩ : ∃ I, idS h = I := ⟨_, rfl⟩
    rw [hI] at EI
    have HI := Lib.hid hI
    obtain ⟨S, hS⟩ : ∃ S, strB (hdB h) = S := ⟨_, rfl⟩
    have HS := Lib.hid hS
    have HBh := Lib.hid (hdB_len ok.out)
    have HBb := Lib.hid (hdB_byt ok.out)
    clear hI hS
    go_wp2_with fail
    refine wp_region_seg (W := w4) (by kernel_rfl) fun wa ga => ?_
    refine wpK_seg 0 1 (f := 27) (by kernel_rfl) (fun _ _ _ _ _ h => h) (by kernel_rfl) (by kernel_rfl) (by kernel_rfl) ga ?_
    apply Exists.intro
    refine ⟨?_, ?_⟩
    · intro wg hg
      simp only [List.drop_zero, List.take_succ_cons, List.take_zero]
      have RG := Lib.hid (R4.out.later hg)
      go_big_quiet_want
      refine quiet_load_part (.tmp 2) rfl rfl rowHd (fun w9 h9 => by obtain ⟨u, rfl⟩ := h9; exact range_later (rangeOf RG.out) RG.out.lt u.below) ll.out ?_
      simp only [Act.put, List.setIfInBounds_toArray, List.set_cons_succ, List.set_cons_zero]
      go_big_quiet_on
      refine wpQuiet_nil ?_
      exact rfl
    refine wpK_seg 3 1 (f := 26) (by kernel_rfl) (fun _ _ _ _ _ h => h) (by kernel_rfl) (by kernel_rfl) (by kernel_rfl) ga ?_
    apply Exists.intro
    refine ⟨?_, ?_⟩
    · intro wg hg
      simp only [List.drop_succ_cons, List.drop_zero, List.take_succ_cons, List.take_zero]
      have RG := Lib.hid (R4.out.later hg)
      go_big_quiet_want
      refine quiet_load_part (.tmp 2) rfl rfl rowHd (fun w9 h9 => by obtain ⟨u, rfl⟩ := h9; exact range_later (rangeOf RG.out) RG.out.lt u.below) ll.out ?_
      simp only [Act.put, List.setIfInBounds_toArray, List.set_cons_succ, List.set_cons_zero]
      go_big_quiet_on
      refine wpQuiet_nil ?_
      exact rfl
    refine wpK_call (f := 25) (i := 1) (by kernel_rfl) rfl rfl ga ?_
    intro wb gb K hK
    go_simp
    refine (put_any ok.out _).mono ?_
    rintro e wn ⟨b, rfl, _, hr, hbn⟩
    refine hK _ _ hbn ?_
    have GN := Lib.hid (Grows.trans gb hbn)
    have PN : Hid (Bs wn (some ⟨b, 0, none⟩) 80 (hdB h)) := Lib.hid (by have q := hr.bs HBb.out; rwa [HBh.out] at q)
    clear hK K hr hbn
    refine wpK_from GN.out _ _ _ _ ?_
    refine wpK_seg 2 1 (f := 24) (by kernel_rfl) (fun _ _ _ _ _ h => h) (by kernel_rfl) (by kernel_rfl) (by kernel_rfl) (Grows.refl wn) ?_
    apply Exists.intro
    refine ⟨?_, ?_⟩
    · intro wg hg
      simp only [List.drop_succ_cons, List.drop_zero, List.take_succ_cons, List.take_zero]
      have cv : ∀ u : After wg, (convert 27 9 (.slice (some ⟨b, 0, none⟩) 80 80)).run Tryd.prog u.w = .ok (.string S) u.w := fun u => by rw [← HS.out]; exact run_str ((PN.out.later hg).later u.below)
      go_big_quiet_step (fail)
      refine wpQuiet_nil ?_
      exact rfl
    refine wpK_call (f := 23) (i := 4) (by kernel_rfl) rfl rfl (Grows.refl wn) ?_
    intro wc gc K hK
    go_simp
    refine (refPut_any ok.out _).mono ?_
    rintro e wm ⟨A5, n5, c5, rfl, _, O5⟩
    refine hK _ _ O5.bel ?_
    have GM := Lib.hid (Grows.trans gc O5.bel)
    have PM := Lib.hid O5.reads
    clear hK K O5
    refine wpK_from GM.out _ _ _ _ ?_
    have GG := Lib.hid (Grows.trans GN.out GM.out)
    refine wpK_seg 5 23 (f := 0) (by kernel_rfl) (fun _ _ _ _ _ h => h) (by kernel_rfl) (by kernel_rfl) (by kernel_rfl) (Grows.refl wm) ?_
    apply Exists.intro
    refine ⟨?_, ?_⟩
    · intro wg hg
      simp only [List.drop_succ_cons, List.drop_zero, List.take_succ_cons, List.take_zero]
      have gg := Grows.trans GG.out hg
      have RG := Lib.hid (R4.out.later gg)
      have XG := Lib.hid (X4.out.later gg)
      have YG := Lib.hid (HY4.out.later gg)
      have BU : Hid (∀ u : After wg, Below w.heap.size w u.w) := Lib.hid (fun u => (B4.out.trans (gg.mono B4.out.size)).trans (u.below.mono (Nat.le_trans B4.out.size gg.size)))
      have cv : ∀ u : After wg, (convert 27 9 (.slice A5 n5 c5)).run Tryd.prog u.w = .ok (.string S) u.w := fun u => by rw [← HS.out]; exact run_str ((PM.out.later hg).later u.below)
      have CI : Hid (∀ u : After wg, Calls Tryd.prog 16 #[.agg (hdV h).toArray] u.w fun e w' => e = .returned (.agg (vals I).toArray) ∧ Below u.w.heap.size u.w w') := Lib.hid (fun u => by
        rw [← HI.out]; exact id_any ok.out u.w (HD.out.later HD.out.lt (BU.out u)))
      have CR : Hid (∀ u : After wg, Calls Tryd.prog 17 #[.agg (hdV h).toArray] u.w fun e w' => e = .returned (.agg (vals I).toArray) ∧ Below u.w.heap.size u.w w') := Lib.hid (fun u => by
        rw [← HI.out]; exact refId_any ok.out u.w)
      have CW : Hid (∀ u : After wg, Calls Tryd.prog 11 #[] u.w fun e w' => e = .returned (.bool true) ∧ Below u.w.heap.size u.w w') := Lib.hid (fun u => works_at HD.out (BU.out u))
      clear gg
      repeat (go_big_quiet_step (fail))
      go_big_quiet_want
      refine quiet_load_part (.tmp 2) rfl rfl rowHd (fun w9 h9 => by obtain ⟨u, rfl⟩ := h9; exact range_later (rangeOf RG.out) RG.out.lt u.below) ll.out ?_
      simp only [Act.put, List.setIfInBounds_toArray, List.set_cons_succ, List.set_cons_zero]
      go_big_quiet_on
      go_big_quiet_step (exact after_call (CI.out _))
      go_big_quiet_want
      refine quiet_load_part (.tmp 2) rfl rfl rowHd (fun w9 h9 => by obtain ⟨u, rfl⟩ := h9; exact range_later (rangeOf RG.out) RG.out.lt u.below) ll.out ?_
      simp only [Act.put, List.setIfInBounds_toArray, List.set_cons_succ, List.set_cons_zero]
      go_big_quiet_on
      go_big_quiet_step (exact after_call (CR.out _))
      repeat (go_big_quiet_step (fail))
      go_big_quiet_want
      refine quiet_load_part (.tmp 5) rfl rfl rowHd (fun w9 h9 => by obtain ⟨u, rfl⟩ := h9; exact range_later (rangeOf XG.out) XG.out.lt u.below) gl.out ?_
      simp only [Act.put, List.setIfInBounds_toArray, List.set_cons_succ, List.set_cons_zero]
      go_big_quiet_on
      go_big_quiet_want
      refine quiet_load_part (.tmp 7) rfl rfl rowHd (fun w9 h9 => by obtain ⟨u, rfl⟩ := h9; exact range_later (rangeOf YG.out) YG.out.lt u.below) gl.out ?_
      simp only [Act.put, List.setIfInBounds_toArray, List.set_cons_succ, List.set_cons_zero]
      go_big_quiet_on
      repeat (go_big_quiet_step (fail))
      go_big_quiet_step (exact after_call (CW.out _))
      repeat (go_big_quiet_step (fail))
      refine wpQuiet_nil ?_
      exact rfl
    refine wpK_end (by kernel_rfl) fun wz gz => ?_
    have gg := Grows.trans GG.out gz
    have Bz := Lib.hid (B4.out.trans (gg.mono B4.out.size))
    go_wp2_with fail
    go_ret
    exact ⟨rfl, Bz.out⟩
end Go.Proofs.YtkocbkckfkbmhaaDoor
