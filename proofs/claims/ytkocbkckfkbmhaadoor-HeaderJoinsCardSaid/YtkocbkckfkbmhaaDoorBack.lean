/- HeaderBack: what was put is got, what is got is put as it stood, other headers have other bytes, and a row is cut into its headers. No condition but that the tables lie as laid. -/
import Derived.Test.YtkocbkckfkbmhaaDoorStr
namespace Go.Proofs.YtkocbkckfkbmhaaDoor
open Go.RowKit

theorem Own.capMax {w0 wr : World} {A : Option Addr} {n c : Nat} {L : List Nat} (h : Own w0 (.slice A n c) n L wr) : c ≤ 9223372036854775807 := by
  rcases h.row.2 with ⟨e, _⟩ | ⟨g, cap, cur, e, _, _, _, hm, _⟩
  · injection e with e1 e2 e3
    omega
  · injection e with e1 e2 e3
    unfold maxLen at hm
    omega
theorem cutAll_row {l : List Hd} (o : OkAll l) (h : l.length ≤ 100) : cutAll (hsB l) = l ∧ cutCode (hsB l).length = 0 := by
  have hl := hsB_len o
  have e := cutAll_ok hl (by omega) (by omega)
  refine ⟨?_, e.2⟩
  rw [e.1, show l.length * 80 / 80 = l.length by omega, cutN_of o _ (Nat.le_refl _), List.take_length]
theorem cutAll_okAll {L : List Nat} (h : AllB L) : OkAll (cutAll L) := by
  unfold cutAll
  split
  · exact cutN_ok h _ (by omega)
  · exact okAll_nil
theorem row_cutAll {L : List Nat} (h : AllB L) (e : cutCode L.length = 0) : hsB (cutAll L) = L := by
  unfold cutAll
  rw [if_pos e, cutN_hsB h _ (by omega)]
  have := (cutCode_ok.1 e).1
  rw [List.take_of_length_le (by omega)]
theorem cutAll_le (L : List Nat) : (cutAll L).length ≤ L.length := by
  unfold cutAll
  split
  · rw [cutN_len]; omega
  · simp
theorem got_80 {L : List Nat} (h : AllB L) (e : L.length = 80) : hdB (gotA L) = L := by
  rw [show gotA L = getH L from if_pos e, hdB_getH h e]
theorem hdB_eq {h g : Hd} (o : h.Ok) (k : g.Ok) : (hdB h = hdB g) ↔ h = g := ⟨fun e => hdB_inj o k e, fun e => by rw [e]⟩

set_option maxRecDepth 100000 in
set_option maxHeartbeats 16000000 in
theorem back_law {h g : Hd} {A B : Option Addr} {n c m d : Nat} {l : List Hd} {L : List Nat} {w : World} (o : h.Ok) (p : g.Ok) (_ : n ≤ c) (_ : c ≤ 9223372036854775807) (hl : Hs w A n l) (hmd : m ≤ d) (hd : d ≤ 9223372036854775807) (hL : Bs w B m L) (hLd : Laid w) :
    Calls Tryd.prog 5 #[.agg (hdV h).toArray, .agg (hdV g).toArray, .slice A n c, .slice B m d] w fun e w' => e = .returned (.bool true) ∧ Below w.heap.size w w' := by
  have HD := Lib.hid hLd
  have HL := Lib.hid hL
  have Hl := Lib.hid hl
  have oh := Lib.hid o
  have og := Lib.hid p
  have lh := Lib.hid (hdV_len o)
  have lg := Lib.hid (hdV_len p)
  clear hL hLd hl o p
  have fin : ∀ w1, Below w.heap.size w w1 → Calls Tryd.prog 11 #[] w1 fun e w' => e = .returned (.bool true) ∧ Below w.heap.size w w' := fun w1 b => (works_any w1 (HD.out.later HD.out.lt b)).mono fun e w' ⟨h1, h2⟩ => ⟨h1, b.trans (h2.mono b.size)⟩
  have FIN := Lib.hid fin
  clear fin
  have z1 := (Below.refl w.heap.size w).alloc (Nat.le_refl _) (.cells (hdV h).toArray 26)
  have B0 := Lib.hid (z1.alloc z1.size (.cells (hdV g).toArray 26))
  have R0 := Lib.hid ((Ro.new w 26 (hdV h)).alloc (.cells (hdV g).toArray 26))
  have Y0 := Ro.new (w.alloc (.cells (hdV h).toArray 26)) 26 (hdV g)
  rw [World.size_alloc] at Y0
  have S0 := Lib.hid Y0
  clear z1 Y0
  go_enter Tryd.func5, Tryd.ntmps5
  by_cases hn : 100 < n
  · have t0 : decide ((100 : Int) < (n : Int)) = true := decide_eq_true (by omega)
    go_wp2_with fail
    refine (FIN.out _ B0.out).mono ?_
    rintro e w1 ⟨rfl, hb⟩
    have HB := Lib.hid hb
    clear hb
    go_wp2_with fail
    go_ret
    exact ⟨rfl, HB.out⟩
  have t0 : decide ((100 : Int) < (n : Int)) = false := decide_eq_false (by omega)
  go_wp2_with fail
  refine (heavy_any A B n m c d _).mono ?_
  rintro e w' ⟨rfl, rfl⟩
  by_cases hb : 16384 < m
  · have t1 : (decide (200 < n) || decide (16384 < m)) = true := by simp [hb]
    rw [t1]
    clear t1
    go_wp2_with fail
    refine (FIN.out _ B0.out).mono ?_
    rintro e w1 ⟨rfl, hb⟩
    have HB := Lib.hid hb
    clear hb
    go_wp2_with fail
    go_ret
    exact ⟨rfl, HB.out⟩
  have t1 : (decide (200 < n) || decide (16384 < m)) = false := by simp; omega
  rw [t1]
  have m16 : m ≤ 16384 := by omega
  clear t1 hb
  go_wp2_with (refine wpList_load_ro rfl (.tmp 4) rfl rfl rowHd R0.out lh.out ?_)
  refine (put_any oh.out _).mono ?_
  rintro e w1 ⟨b, rfl, _, hr, hb1⟩
  have B1 := Lib.hid (B0.out.trans (hb1.mono B0.out.size))
  have R1 := Lib.hid (R0.out.later hb1)
  have S1 := Lib.hid (S0.out.later hb1)
  have P1 : Hid (Bs w1 (some ⟨b, 0, none⟩) 80 (hdB h)) := Lib.hid (by have q := hr.bs (hdB_byt oh.out); rwa [hdB_len oh.out] at q)
  clear hr hb1 B0 R0 S0
  have CG := get_any (c := 80) w1 (n := 80) rfl (Nat.le_refl _) P1.out
  rw [getH_hdB oh.out] at CG
  have HCG := Lib.hid CG
  clear CG
  go_wp2_with fail
  refine HCG.out.mono ?_
  rintro e w2 ⟨rfl, hb2⟩
  have B2 := Lib.hid (B1.out.trans (hb2.mono B1.out.size))
  have R2 := Lib.hid (R1.out.later hb2)
  have S2 := Lib.hid (S1.out.later hb2)
  clear hb2 B1 R1 S1 P1 HCG
  have z0 := zeroHd
  go_wp2_with (refine wpList_store_ro rfl (.tmp 9) (.tmp 26) rfl rfl rfl rowHd (Ro.new w2 26 (hdV zeroH)) rfl lh.out (hdV_one _) ?_)
  intro w3 X3 g3
  have B3 := Lib.hid (B2.out.trans ((box_store g3).mono B2.out.size))
  have R3 := Lib.hid (R2.out.later (box_store g3))
  have S3 := Lib.hid (S2.out.later (box_store g3))
  have HX3 := Lib.hid X3
  clear X3 g3 B2 R2 S2 z0
  have EH := fun w => (eq_hd oh.out oh.out w).trans (by rw [decide_eq_true rfl])
  have EG := fun w => eq_hd oh.out og.out w
  have ES := str_eq (hdB_byt oh.out) (hdB_byt og.out)
  rw [decide_eq_decide.2 (hdB_eq oh.out og.out)] at ES
  obtain ⟨V, hV⟩ : ∃ V, strB (hdB h) = V := ⟨_, rfl⟩
  obtain ⟨U, hU⟩ : ∃ U, strB (hdB g) = U := ⟨_, rfl⟩
  obtain ⟨q, hq⟩ : ∃ q, decide (h = g) = q := ⟨_, rfl⟩
  rw [hV, hU, hq] at ES
  rw [hq] at EG
  have HV := Lib.hid hV
  have HU := Lib.hid hU
  clear hV hU hq
  go_wp2_with fail
  refine wp_region_seg (W := w3) (by kernel_rfl) fun wa ga => ?_
  refine wpK_seg 0 9 (f := 11) (by kernel_rfl) (fun _ _ _ _ _ h => h) (by kernel_rfl) (by kernel_rfl) (by kernel_rfl) ga ?_
  apply Exists.intro
  refine ⟨?_, ?_⟩
  · intro wg hg
    simp only [List.drop_zero, List.take_succ_cons, List.take_zero]
    have XG := Lib.hid (HX3.out.later hg)
    have RG := Lib.hid (R3.out.later hg)
    go_big_quiet_want
    refine quiet_load_part (.tmp 9) rfl rfl rowHd (fun w9 h9 => by obtain ⟨u, rfl⟩ := h9; exact range_later (rangeOf XG.out) XG.out.lt u.below) lh.out ?_
    simp only [Act.put, List.setIfInBounds_toArray, List.set_cons_succ, List.set_cons_zero]
    go_big_quiet_on
    go_big_quiet_want
    refine quiet_load_part (.tmp 4) rfl rfl rowHd (fun w9 h9 => by obtain ⟨u, rfl⟩ := h9; exact range_later (rangeOf RG.out) RG.out.lt u.below) lh.out ?_
    simp only [Act.put, List.setIfInBounds_toArray, List.set_cons_succ, List.set_cons_zero]
    go_big_quiet_on
    repeat (go_big_quiet_step (fail))
    go_big_quiet_want
    refine quiet_load_part (.tmp 4) rfl rfl rowHd (fun w9 h9 => by obtain ⟨u, rfl⟩ := h9; exact range_later (rangeOf RG.out) RG.out.lt u.below) lh.out ?_
    simp only [Act.put, List.setIfInBounds_toArray, List.set_cons_succ, List.set_cons_zero]
    go_big_quiet_on
    refine wpQuiet_nil ?_
    exact rfl
  refine wpK_seg 11 1 (f := 10) (by kernel_rfl) (fun _ _ _ _ _ h => h) (by kernel_rfl) (by kernel_rfl) (by kernel_rfl) ga ?_
  apply Exists.intro
  refine ⟨?_, ?_⟩
  · intro wg hg
    simp only [List.drop_succ_cons, List.drop_zero, List.take_succ_cons, List.take_zero]
    have SG := Lib.hid (S3.out.later hg)
    go_big_quiet_want
    refine quiet_load_part (.tmp 5) rfl rfl rowHd (fun w9 h9 => by obtain ⟨u, rfl⟩ := h9; exact range_later (rangeOf SG.out) SG.out.lt u.below) lg.out ?_
    simp only [Act.put, List.setIfInBounds_toArray, List.set_cons_succ, List.set_cons_zero]
    go_big_quiet_on
    refine wpQuiet_nil ?_
    exact rfl
  refine wpK_seg 15 3 (f := 7) (by kernel_rfl) (fun _ _ _ _ _ h => h) (by kernel_rfl) (by kernel_rfl) (by kernel_rfl) ga ?_
  apply Exists.intro
  refine ⟨?_, ?_⟩
  · intro wg hg
    simp only [List.drop_succ_cons, List.drop_zero, List.take_succ_cons, List.take_zero]
    have RG := Lib.hid (R3.out.later hg)
    have SG := Lib.hid (S3.out.later hg)
    go_big_quiet_want
    refine quiet_load_part (.tmp 4) rfl rfl rowHd (fun w9 h9 => by obtain ⟨u, rfl⟩ := h9; exact range_later (rangeOf RG.out) RG.out.lt u.below) lh.out ?_
    simp only [Act.put, List.setIfInBounds_toArray, List.set_cons_succ, List.set_cons_zero]
    go_big_quiet_on
    go_big_quiet_want
    refine quiet_load_part (.tmp 5) rfl rfl rowHd (fun w9 h9 => by obtain ⟨u, rfl⟩ := h9; exact range_later (rangeOf SG.out) SG.out.lt u.below) lg.out ?_
    simp only [Act.put, List.setIfInBounds_toArray, List.set_cons_succ, List.set_cons_zero]
    go_big_quiet_on
    repeat (go_big_quiet_step (fail))
    refine wpQuiet_nil ?_
    exact rfl
  refine wpK_call_want (f := 6) (i := 9) (by kernel_rfl) rfl (by rfl) ga ?_
  intro wb gb K hK
  go_simp
  refine (put_any oh.out _).mono ?_
  rintro e wn ⟨b1, rfl, _, hr, hbn⟩
  refine hK _ _ hbn ?_
  have GN := Lib.hid (Grows.trans gb hbn)
  have PN : Hid (Bs wn (some ⟨b1, 0, none⟩) 80 (hdB h)) := Lib.hid (by have q := hr.bs (hdB_byt oh.out); rwa [hdB_len oh.out] at q)
  clear hK K hr hbn
  refine wpK_from GN.out _ _ _ _ ?_
  refine wpK_seg 10 1 (f := 5) (by kernel_rfl) (fun _ _ _ _ _ h => h) (by kernel_rfl) (by kernel_rfl) (by kernel_rfl) (Grows.refl wn) ?_
  apply Exists.intro
  refine ⟨?_, ?_⟩
  · intro wg hg
    simp only [List.drop_succ_cons, List.drop_zero, List.take_succ_cons, List.take_zero]
    have cv : ∀ u : After wg, (convert 27 9 (.slice (some ⟨b1, 0, none⟩) 80 80)).run Tryd.prog u.w = .ok (.string V) u.w := fun u => by rw [← HV.out]; exact run_str ((PN.out.later hg).later u.below)
    go_big_quiet_step (fail)
    refine wpQuiet_nil ?_
    exact rfl
  refine wpK_call_want (f := 4) (i := 12) (by kernel_rfl) rfl (by rfl) (Grows.refl wn) ?_
  intro wc gc K hK
  go_simp
  refine (put_any og.out _).mono ?_
  rintro e wm ⟨b2, rfl, _, hr, hbm⟩
  refine hK _ _ hbm ?_
  have GM := Lib.hid (Grows.trans gc hbm)
  have PM : Hid (Bs wm (some ⟨b2, 0, none⟩) 80 (hdB g)) := Lib.hid (by have q := hr.bs (hdB_byt og.out); rwa [hdB_len og.out] at q)
  clear hK K hr hbm
  refine wpK_from GM.out _ _ _ _ ?_
  refine wpK_seg 13 2 (f := 2) (by kernel_rfl) (fun _ _ _ _ _ h => h) (by kernel_rfl) (by kernel_rfl) (by kernel_rfl) (Grows.refl wm) ?_
  apply Exists.intro
  refine ⟨?_, ?_⟩
  · intro wg hg
    simp only [List.drop_succ_cons, List.drop_zero, List.take_succ_cons, List.take_zero]
    have cv : ∀ u : After wg, (convert 27 9 (.slice (some ⟨b2, 0, none⟩) 80 80)).run Tryd.prog u.w = .ok (.string U) u.w := fun u => by rw [← HU.out]; exact run_str ((PM.out.later hg).later u.below)
    repeat (go_big_quiet_step (fail))
    refine wpQuiet_nil ?_
    exact rfl
  refine wpK_seg 18 2 (f := 0) (by kernel_rfl) (fun _ _ _ _ _ h => h) (by kernel_rfl) (by kernel_rfl) (by kernel_rfl) (Grows.refl wm) ?_
  apply Exists.intro
  refine ⟨?_, ?_⟩
  · intro wg hg
    simp only [List.drop_succ_cons, List.drop_zero, List.take_succ_cons, List.take_zero]
    repeat (go_big_quiet_step (fail))
    refine wpQuiet_nil ?_
    exact rfl
  refine wpK_end (by kernel_rfl) fun wz gz => ?_
  have gg := Grows.trans (Grows.trans GN.out GM.out) gz
  have Bz := Lib.hid (B3.out.trans (gg.mono B3.out.size))
  clear gg gz B3 R3 S3 HX3 EH EG ES GN GM PN PM HV HU ga
  have gk := Lib.hid (gotA_ok HL.out.byt)
  have lk := Lib.hid (hdV_len (gotA_ok HL.out.byt))
  have HLl := Lib.hid HL.out.len
  have CG : Hid (Calls Tryd.prog 12 #[.slice B m d] wz fun e w' => e = .returned (.tuple #[.agg (hdV (gotA L)).toArray, .int .i64 (gotE L : Nat)]) ∧ Below wz.heap.size wz w') := Lib.hid (get_gen wz hmd (HL.out.later Bz.out))
  have GB := Lib.hid (fun e => got_80 HL.out.byt (HLl.out.trans e))
  have GE : Hid (gotE L = if m = 80 then 0 else 5) := Lib.hid (by unfold gotE; rw [HLl.out])
  obtain ⟨k, hk⟩ : ∃ k, gotA L = k := ⟨_, rfl⟩
  obtain ⟨E, hE⟩ : ∃ E, gotE L = E := ⟨_, rfl⟩
  rw [hk] at gk lk CG GB
  rw [hE] at CG GE
  clear hk hE
  go_wp2_with fail
  refine CG.out.mono ?_
  rintro e w5 ⟨rfl, hb5⟩
  have B5 := Lib.hid (Bz.out.trans (hb5.mono Bz.out.size))
  clear hb5 Bz CG
  have z0 := zeroHd
  go_wp2_with (refine wpList_store_ro rfl (.tmp 11) (.tmp 51) rfl rfl rfl rowHd (Ro.new w5 26 (hdV zeroH)) rfl lk.out (hdV_one _) ?_)
  intro w6 X6 g6
  have B6 := Lib.hid (B5.out.trans ((box_store g6).mono B5.out.size))
  have HX6 := Lib.hid X6
  clear X6 g6 B5 z0
  obtain ⟨xb, hxb⟩ : ∃ q, q = w5.heap.size := ⟨_, rfl⟩
  rw [← hxb] at HX6 ⊢
  clear hxb
  have key : ∀ w7, Below w.heap.size w w7 → True := fun _ _ => trivial
  clear key
  obtain ⟨V, hV⟩ : ∃ V, strB L = V := ⟨_, rfl⟩
  have HV := Lib.hid hV
  clear hV
  go_wp2_with fail
  by_cases h80 : m = 80
  · have GB2 : Hid (hdB k = L) := Lib.hid (GB.out h80)
    have e0 : E = 0 := by rw [GE.out, if_pos h80]
    subst h80 e0
    clear GB GE
    refine wp_region_seg (W := w6) (by kernel_rfl) fun wa ga => ?_
    refine wpK_seg 0 4 (f := 14) (by kernel_rfl) (fun _ _ _ _ _ h => h) (by kernel_rfl) (by kernel_rfl) (by kernel_rfl) ga ?_
    apply Exists.intro
    refine ⟨?_, ?_⟩
    · intro wg hg
      simp only [List.drop_zero, List.take_succ_cons, List.take_zero]
      have XG := Lib.hid (HX6.out.later hg)
      repeat (go_big_quiet_step (fail))
      go_big_quiet_want
      refine quiet_load_part (.tmp 11) rfl rfl rowHd (fun w9 h9 => by obtain ⟨u, rfl⟩ := h9; exact range_later (rangeOf XG.out) XG.out.lt u.below) lk.out ?_
      simp only [Act.put, List.setIfInBounds_toArray, List.set_cons_succ, List.set_cons_zero]
      go_big_quiet_on
      refine wpQuiet_nil ?_
      exact rfl
    refine wpK_seg 6 2 (f := 12) (by kernel_rfl) (fun _ _ _ _ _ h => h) (by kernel_rfl) (by kernel_rfl) (by kernel_rfl) ga ?_
    apply Exists.intro
    refine ⟨?_, ?_⟩
    · intro wg hg
      simp only [List.drop_succ_cons, List.drop_zero, List.take_succ_cons, List.take_zero]
      have cv : ∀ u : After wg, (convert 27 9 (.slice B 80 d)).run Tryd.prog u.w = .ok (.string V) u.w := fun u => by rw [← HV.out]; exact run_str (((HL.out.later B6.out).later hg).later u.below)
      repeat (go_big_quiet_step (fail))
      refine wpQuiet_nil ?_
      exact rfl
    refine wpK_call_want (f := 11) (i := 4) (by kernel_rfl) rfl (by rfl) ga ?_
    intro wb gb K hK
    go_simp
    refine (put_any gk.out _).mono ?_
    rintro e wn ⟨b1, rfl, _, hr, hbn⟩
    refine hK _ _ hbn ?_
    have GN := Lib.hid (Grows.trans gb hbn)
    have PN : Hid (Bs wn (some ⟨b1, 0, none⟩) 80 L) := Lib.hid (by have q := hr.bs (hdB_byt gk.out); rwa [hdB_len gk.out, GB2.out] at q)
    clear hK K hr hbn
    refine wpK_from GN.out _ _ _ _ ?_
    refine wpK_seg 5 1 (f := 10) (by kernel_rfl) (fun _ _ _ _ _ h => h) (by kernel_rfl) (by kernel_rfl) (by kernel_rfl) (Grows.refl wn) ?_
    apply Exists.intro
    refine ⟨?_, ?_⟩
    · intro wg hg
      simp only [List.drop_succ_cons, List.drop_zero, List.take_succ_cons, List.take_zero]
      have cv : ∀ u : After wg, (convert 27 9 (.slice (some ⟨b1, 0, none⟩) 80 80)).run Tryd.prog u.w = .ok (.string V) u.w := fun u => by rw [← HV.out]; exact run_str ((PN.out.later hg).later u.below)
      go_big_quiet_step (fail)
      refine wpQuiet_nil ?_
      exact rfl
    refine wpK_seg 8 10 (f := 0) (by kernel_rfl) (fun _ _ _ _ _ h => h) (by kernel_rfl) (by kernel_rfl) (by kernel_rfl) (Grows.refl wn) ?_
    apply Exists.intro
    refine ⟨?_, ?_⟩
    · intro wg hg
      simp only [List.drop_succ_cons, List.drop_zero, List.take_succ_cons, List.take_zero]
      repeat (go_big_quiet_step (fail))
      refine wpQuiet_nil ?_
      exact rfl
    refine wpK_end (by kernel_rfl) fun wz gz => ?_
    have gg := Grows.trans GN.out gz
    have Bz := Lib.hid (B6.out.trans (gg.mono B6.out.size))
    clear gg gz B6 HX6 GN PN ga
    go_wp2_with fail
    refine (row_any _ (by omega) (Hl.out.later Bz.out)).mono ?_
    rintro e wr ⟨Ar, nr, cr, rfl, hcr, Or⟩
    have Br := Lib.hid (Bz.out.trans (Or.bel.mono Bz.out.size))
    have RR := Lib.hid Or.reads
    have cM := Or.capMax
    clear Or Bz
    go_wp2_with fail
    refine (cut_any _ hcr cM RR.out).mono ?_
    rintro e wc ⟨Ac, nc, cc, rfl, Oc⟩
    have CA := cutAll_row Hl.out.ok (by rw [Hl.out.len]; omega)
    rw [CA.2]
    rw [CA.1] at Oc
    obtain rfl : n = nc := by rw [← Oc.len, Hl.out.len]
    have Bc := Lib.hid (Br.out.trans (Oc.bel.mono Br.out.size))
    have RC := Lib.hid Oc.reads
    clear Oc Br RR CA cM
    go_wp2_with fail
    refine (same_any _ (by omega) (by omega) RC.out (Hl.out.later Bc.out)).mono ?_
    rintro e ws ⟨rfl, hbs⟩
    rw [decide_eq_true rfl]
    have Bs' := Lib.hid (Bc.out.trans (hbs.mono Bc.out.size))
    clear hbs Bc RC
    go_wp2_with fail
    refine (cut_any _ hmd hd (HL.out.later Bs'.out)).mono ?_
    rintro e wd ⟨Ad, nd, cd, rfl, Od⟩
    have Bd := Lib.hid (Bs'.out.trans (Od.bel.mono Bs'.out.size))
    have RD := Lib.hid Od.reads
    have nd16 : nd ≤ 16384 := by have := Od.len; have := cutAll_le L; have := HLl.out; omega
    clear Od Bs'
    have RW := Lib.hid (row_cutAll HL.out.byt)
    obtain ⟨C, hC⟩ : ∃ C, cutCode L.length = C := ⟨_, rfl⟩
    rw [hC] at RW
    rw [hC]
    clear hC
    go_wp2_with fail
    by_cases hC0 : C = 0
    · subst hC0
      have RW0 := Lib.hid (RW.out rfl)
      clear RW
      refine wp_region_seg (W := wd) (by kernel_rfl) fun wa ga => ?_
      refine wpK_seg 0 4 (f := 10) (by kernel_rfl) (fun _ _ _ _ _ h => h) (by kernel_rfl) (by kernel_rfl) (by kernel_rfl) ga ?_
      apply Exists.intro
      refine ⟨?_, ?_⟩
      · intro wg hg
        simp only [List.drop_zero, List.take_succ_cons, List.take_zero]
        repeat (go_big_quiet_step (fail))
        refine wpQuiet_nil ?_
        exact rfl
      refine wpK_seg 6 2 (f := 8) (by kernel_rfl) (fun _ _ _ _ _ h => h) (by kernel_rfl) (by kernel_rfl) (by kernel_rfl) ga ?_
      apply Exists.intro
      refine ⟨?_, ?_⟩
      · intro wg hg
        simp only [List.drop_succ_cons, List.drop_zero, List.take_succ_cons, List.take_zero]
        have cv : ∀ u : After wg, (convert 27 9 (.slice B 80 d)).run Tryd.prog u.w = .ok (.string V) u.w := fun u => by rw [← HV.out]; exact run_str (((HL.out.later Bd.out).later hg).later u.below)
        repeat (go_big_quiet_step (fail))
        refine wpQuiet_nil ?_
        exact rfl
      refine wpK_call_want (f := 7) (i := 4) (by kernel_rfl) rfl (by rfl) ga ?_
      intro wb gb K hK
      go_simp
      refine (row_any wb (by omega) (RD.out.later gb)).mono ?_
      rintro e wn ⟨A3, n3, c3, rfl, _, O3⟩
      refine hK _ _ O3.bel ?_
      have GN := Lib.hid (Grows.trans gb O3.bel)
      have PN := Lib.hid O3.reads
      clear hK K O3
      refine wpK_from GN.out _ _ _ _ ?_
      refine wpK_seg 5 1 (f := 6) (by kernel_rfl) (fun _ _ _ _ _ h => h) (by kernel_rfl) (by kernel_rfl) (by kernel_rfl) (Grows.refl wn) ?_
      apply Exists.intro
      refine ⟨?_, ?_⟩
      · intro wg hg
        simp only [List.drop_succ_cons, List.drop_zero, List.take_succ_cons, List.take_zero]
        have cv : ∀ u : After wg, (convert 27 9 (.slice A3 n3 c3)).run Tryd.prog u.w = .ok (.string V) u.w := fun u => by rw [← HV.out, ← RW0.out]; exact run_str ((PN.out.later hg).later u.below)
        go_big_quiet_step (fail)
        refine wpQuiet_nil ?_
        exact rfl
      refine wpK_seg 8 6 (f := 0) (by kernel_rfl) (fun _ _ _ _ _ h => h) (by kernel_rfl) (by kernel_rfl) (by kernel_rfl) (Grows.refl wn) ?_
      apply Exists.intro
      refine ⟨?_, ?_⟩
      · intro wg hg
        simp only [List.drop_succ_cons, List.drop_zero, List.take_succ_cons, List.take_zero]
        have gg := Grows.trans GN.out hg
        have CW : Hid (∀ u : After wg, Calls Tryd.prog 11 #[] u.w fun e w' => e = .returned (.bool true) ∧ Below u.w.heap.size u.w w') := Lib.hid (fun u => works_at HD.out ((Bd.out.trans (gg.mono Bd.out.size)).trans (u.below.mono (Nat.le_trans Bd.out.size gg.size))))
        clear gg
        repeat (go_big_quiet_step (first | fail | exact after_call (CW.out _)))
        refine wpQuiet_nil ?_
        exact rfl
      refine wpK_end (by kernel_rfl) fun wy gy => ?_
      have gg := Grows.trans GN.out gy
      have By := Lib.hid (Bd.out.trans (gg.mono Bd.out.size))
      go_wp2_with fail
      go_ret
      exact ⟨rfl, By.out⟩
    · have tC : ((C : Int) != 0) = true := by rw [bne_iff_ne]; omega
      have CW : Hid (∀ u : After wd, Calls Tryd.prog 11 #[] u.w fun e w' => e = .returned (.bool true) ∧ Below u.w.heap.size u.w w') := Lib.hid (fun u => works_at HD.out (Bd.out.trans (u.below.mono Bd.out.size)))
      refine wp_region_after (by kernel_rfl) (by kernel_rfl) ?_
      repeat (go_big_quiet_step (first | fail | exact after_call (CW.out _)))
      refine wpQuiet_nil ?_
      rintro wy ⟨u, rfl⟩
      have By := Lib.hid (Bd.out.trans (u.below.mono Bd.out.size))
      go_wp2_with fail
      go_ret
      exact ⟨rfl, By.out⟩
  · have e0 : E = 5 := by rw [GE.out, if_neg h80]
    subst e0
    clear GB GE
    have tm : ((m : Int) == 80) = false := by rw [beq_eq_false_iff_ne]; omega
    refine wp_region_after (by kernel_rfl) (by kernel_rfl) ?_
    repeat (go_big_quiet_step (fail))
    refine wpQuiet_nil ?_
    rintro wz ⟨u, rfl⟩
    have Bz := Lib.hid (B6.out.trans (u.below.mono B6.out.size))
    go_wp2_with fail
    refine (row_any _ (by omega) (Hl.out.later Bz.out)).mono ?_
    rintro e wr ⟨Ar, nr, cr, rfl, hcr, Or⟩
    have Br := Lib.hid (Bz.out.trans (Or.bel.mono Bz.out.size))
    have RR := Lib.hid Or.reads
    have cM := Or.capMax
    clear Or Bz
    go_wp2_with fail
    refine (cut_any _ hcr cM RR.out).mono ?_
    rintro e wc ⟨Ac, nc, cc, rfl, Oc⟩
    have CA := cutAll_row Hl.out.ok (by rw [Hl.out.len]; omega)
    rw [CA.2]
    rw [CA.1] at Oc
    obtain rfl : n = nc := by rw [← Oc.len, Hl.out.len]
    have Bc := Lib.hid (Br.out.trans (Oc.bel.mono Br.out.size))
    have RC := Lib.hid Oc.reads
    clear Oc Br RR CA cM
    go_wp2_with fail
    refine (same_any _ (by omega) (by omega) RC.out (Hl.out.later Bc.out)).mono ?_
    rintro e ws ⟨rfl, hbs⟩
    rw [decide_eq_true rfl]
    have Bs' := Lib.hid (Bc.out.trans (hbs.mono Bc.out.size))
    clear hbs Bc RC
    go_wp2_with fail
    refine (cut_any _ hmd hd (HL.out.later Bs'.out)).mono ?_
    rintro e wd ⟨Ad, nd, cd, rfl, Od⟩
    have Bd := Lib.hid (Bs'.out.trans (Od.bel.mono Bs'.out.size))
    have RD := Lib.hid Od.reads
    have nd16 : nd ≤ 16384 := by have := Od.len; have := cutAll_le L; have := HLl.out; omega
    clear Od Bs'
    have RW := Lib.hid (row_cutAll HL.out.byt)
    obtain ⟨C, hC⟩ : ∃ C, cutCode L.length = C := ⟨_, rfl⟩
    rw [hC] at RW
    rw [hC]
    clear hC
    go_wp2_with fail
    by_cases hC0 : C = 0
    · subst hC0
      have RW0 := Lib.hid (RW.out rfl)
      clear RW
      refine wp_region_seg (W := wd) (by kernel_rfl) fun wa ga => ?_
      refine wpK_seg 0 4 (f := 10) (by kernel_rfl) (fun _ _ _ _ _ h => h) (by kernel_rfl) (by kernel_rfl) (by kernel_rfl) ga ?_
      apply Exists.intro
      refine ⟨?_, ?_⟩
      · intro wg hg
        simp only [List.drop_zero, List.take_succ_cons, List.take_zero]
        repeat (go_big_quiet_step (fail))
        refine wpQuiet_nil ?_
        exact rfl
      refine wpK_seg 6 2 (f := 8) (by kernel_rfl) (fun _ _ _ _ _ h => h) (by kernel_rfl) (by kernel_rfl) (by kernel_rfl) ga ?_
      apply Exists.intro
      refine ⟨?_, ?_⟩
      · intro wg hg
        simp only [List.drop_succ_cons, List.drop_zero, List.take_succ_cons, List.take_zero]
        have cv : ∀ u : After wg, (convert 27 9 (.slice B m d)).run Tryd.prog u.w = .ok (.string V) u.w := fun u => by rw [← HV.out]; exact run_str (((HL.out.later Bd.out).later hg).later u.below)
        repeat (go_big_quiet_step (fail))
        refine wpQuiet_nil ?_
        exact rfl
      refine wpK_call_want (f := 7) (i := 4) (by kernel_rfl) rfl (by rfl) ga ?_
      intro wb gb K hK
      go_simp
      refine (row_any wb (by omega) (RD.out.later gb)).mono ?_
      rintro e wn ⟨A3, n3, c3, rfl, _, O3⟩
      refine hK _ _ O3.bel ?_
      have GN := Lib.hid (Grows.trans gb O3.bel)
      have PN := Lib.hid O3.reads
      clear hK K O3
      refine wpK_from GN.out _ _ _ _ ?_
      refine wpK_seg 5 1 (f := 6) (by kernel_rfl) (fun _ _ _ _ _ h => h) (by kernel_rfl) (by kernel_rfl) (by kernel_rfl) (Grows.refl wn) ?_
      apply Exists.intro
      refine ⟨?_, ?_⟩
      · intro wg hg
        simp only [List.drop_succ_cons, List.drop_zero, List.take_succ_cons, List.take_zero]
        have cv : ∀ u : After wg, (convert 27 9 (.slice A3 n3 c3)).run Tryd.prog u.w = .ok (.string V) u.w := fun u => by rw [← HV.out, ← RW0.out]; exact run_str ((PN.out.later hg).later u.below)
        go_big_quiet_step (fail)
        refine wpQuiet_nil ?_
        exact rfl
      refine wpK_seg 8 6 (f := 0) (by kernel_rfl) (fun _ _ _ _ _ h => h) (by kernel_rfl) (by kernel_rfl) (by kernel_rfl) (Grows.refl wn) ?_
      apply Exists.intro
      refine ⟨?_, ?_⟩
      · intro wg hg
        simp only [List.drop_succ_cons, List.drop_zero, List.take_succ_cons, List.take_zero]
        have gg := Grows.trans GN.out hg
        have CW : Hid (∀ u : After wg, Calls Tryd.prog 11 #[] u.w fun e w' => e = .returned (.bool true) ∧ Below u.w.heap.size u.w w') := Lib.hid (fun u => works_at HD.out ((Bd.out.trans (gg.mono Bd.out.size)).trans (u.below.mono (Nat.le_trans Bd.out.size gg.size))))
        clear gg
        repeat (go_big_quiet_step (first | fail | exact after_call (CW.out _)))
        refine wpQuiet_nil ?_
        exact rfl
      refine wpK_end (by kernel_rfl) fun wy gy => ?_
      have gg := Grows.trans GN.out gy
      have By := Lib.hid (Bd.out.trans (gg.mono Bd.out.size))
      go_wp2_with fail
      go_ret
      exact ⟨rfl, By.out⟩
    · have tC : ((C : Int) != 0) = true := by rw [bne_iff_ne]; omega
      have CW : Hid (∀ u : After wd, Calls Tryd.prog 11 #[] u.w fun e w' => e = .returned (.bool true) ∧ Below u.w.heap.size u.w w') := Lib.hid (fun u => works_at HD.out (Bd.out.trans (u.below.mono Bd.out.size)))
      refine wp_region_after (by kernel_rfl) (by kernel_rfl) ?_
      repeat (go_big_quiet_step (first | fail | exact after_call (CW.out _)))
      refine wpQuiet_nil ?_
      rintro wy ⟨u, rfl⟩
      have By := Lib.hid (Bd.out.trans (u.below.mono Bd.out.size))
      go_wp2_with fail
      go_ret
      exact ⟨rfl, By.out⟩
end Go.Proofs.YtkocbkckfkbmhaaDoor
