/- The chapter's example holds: the statements' anchor. No condition but that the tables lie as laid. -/
import Derived.Test.YtkocbkckfkbmhaaDoorCut
import Derived.Test.YtkocbkckfkbmhaaDoorSame8
import Derived.Test.YtkocbkckfkbmhaaDoorSeg
namespace Go.Proofs.YtkocbkckfkbmhaaDoor
open Go.RowKit

section
variable {w : World} {o : Oper} {a : Act} {Q : Exit → Act → World → Prop} {K : Act → World → Prop}
theorem wp_litH {d : Tmp} (hd : o.dst = some d) (x : Operand) (ho : o.op = .buildSlice 38 1 #[(0, x)]) {S : List Value} (hx : a.eval x = .agg S.toArray) (hl : S.length = 68)
    (h : K (a.put (some d) (.slice (some ⟨w.heap.size, 0, none⟩) 1 1)) (w.alloc (.cells S.toArray 26))) : o.wp Tryd.prog a w K Q := by
  rw [← hd] at h
  obtain ⟨i0, hi, hz0, hz1, hz2⟩ := info_parts Tryd.infoHd
  refine wp_buildSlice 38 26 1 _ ho S.toArray i0 _ Tryd.underlying38 hi hz0 (by rw [hz1]; decide) (by rw [hz1]; decide) ?_ h
  rw [hz1]
  have e : (#[((0 : Nat), x)].map fun (y : Nat × Operand) => (y.1, a.eval y.2)).toList = [(0, .agg S.toArray)] := by simp [hx]
  exact (congrArg _ e).trans (fill_hd S hl _ (by simp))
end
theorem Ro.hs1 {w : World} {b : Nat} {h : Hd} (R : Ro w b 26 (hdV h)) (o : h.Ok) : Hs w (some ⟨b, 0, none⟩) 1 [h] :=
  ⟨rfl, okAll_one o, fun _ => ⟨b, 0, rfl, R.lt, fun j v hj => by rw [hsV_one] at hj; rw [Nat.zero_add]; exact R.cell hj⟩⟩
theorem rangeOf {w : World} {b : Nat} {T : TypeId} {vs : List Value} (R : Ro w b T vs) : w.rangeAt b 0 vs := fun j v hj => by rw [Nat.zero_add]; exact R.cell hj
theorem linkN_one (h : Hd) : linkN [h] = 1 := linkN_eq ⟨Nat.le_refl _, fun j h1 h2 => by omega, fun e => by simp at e⟩
theorem cutAll_one {h : Hd} (o : h.Ok) : cutAll (hdB h) = [h] ∧ cutCode (hdB h).length = 0 := by
  have hl := hdB_len o
  have e := cutAll_ok hl (by decide) (by decide)
  refine ⟨?_, e.2⟩
  rw [e.1, show 80 / 80 = 1 from rfl]
  have := cutN_of (l := [h]) (okAll_one o) 1 (Nat.le_refl _)
  rw [hsB_one] at this
  exact this
/-- The example's header. -/
def exH : Hd := ⟨1, List.replicate 32 0, List.replicate 32 0, 2, 258, 4294967295⟩
theorem exH_ok : exH.Ok := ⟨by decide, by decide, by decide, by decide, by decide, by decide, fun x hx => by rw [List.eq_of_mem_replicate hx]; decide, fun x hx => by rw [List.eq_of_mem_replicate hx]; decide⟩
theorem exH_v : nth (hdB exH) 0 = 1 ∧ nth (hdB exH) 4 = 0 ∧ nth (hdB exH) 68 = 2 ∧ nth (hdB exH) 72 = 2 ∧ nth (hdB exH) 73 = 1 ∧ nth (hdB exH) 79 = 255 := by decide +kernel
theorem build_ex (w : World) : (Instr.build 26 #[(0, .int .u32 1), (3, .int .u32 2), (4, .int .u32 258), (5, .int .u32 4294967295)]).run Tryd.prog w = .ok (.agg (hdV exH).toArray) w := by kernel_rfl

set_option maxRecDepth 100000 in
set_option maxHeartbeats 4000000 in
theorem works_any (w : World) (hLd : Laid w) : Calls Tryd.prog 11 #[] w fun e w' => e = .returned (.bool true) ∧ Below w.heap.size w w' := by
  have HD := Lib.hid hLd
  have ok := Lib.hid exH_ok
  have BE := build_ex
  have hv := exH_v
  have lB := hdB_len exH_ok
  have E1 := Lib.hid (getH_hdB exH_ok)
  have E2 := Lib.hid (cutAll_one exH_ok)
  have c4 : (hdV exH)[66]? = some (.int .u32 258) := hdV_no exH_ok (k := 2) (by decide)
  have C4 := Lib.hid c4
  obtain ⟨h, hh⟩ : ∃ h, exH = h := ⟨_, rfl⟩
  rw [hh] at ok BE hv lB E1 E2 C4
  have ll := Lib.hid (hdV_len ok.out)
  have HV := Lib.hid hv
  have HL := Lib.hid lB
  clear hLd hh hv lB c4
  go_enter Tryd.func11, Tryd.ntmps11
  go_wp2_with (refine wpList_buildR rfl 26 #[(0, .const (.int .u32 1)), (3, .const (.int .u32 2)), (4, .const (.int .u32 258)), (5, .const (.int .u32 4294967295))] rfl (vs := #[(0, .int .u32 1), (3, .int .u32 2), (4, .int .u32 258), (5, .int .u32 4294967295)]) ?e1 (BE _) ?_)
  case e1 => simp [go_sem]
  refine (put_any ok.out _).mono ?_
  rintro e w1 ⟨b, rfl, hbs, hr, hb⟩
  have B1 := Lib.hid hb
  have R1 := Lib.hid hr
  have HBS := Lib.hid hbs
  clear hb hr hbs BE
  have u0 := R1.out.u8 (k := 0) (by rw [HL.out]; decide)
  have u1 := R1.out.u8 (k := 4) (by rw [HL.out]; decide)
  have u2 := R1.out.u8 (k := 68) (by rw [HL.out]; decide)
  have u3 := R1.out.u8 (k := 72) (by rw [HL.out]; decide)
  have u4 := R1.out.u8 (k := 73) (by rw [HL.out]; decide)
  have u5 := R1.out.u8 (k := 79) (by rw [HL.out]; decide)
  rw [HV.out.1] at u0
  rw [HV.out.2.1] at u1
  rw [HV.out.2.2.1] at u2
  rw [HV.out.2.2.2.1] at u3
  rw [HV.out.2.2.2.2.1] at u4
  rw [HV.out.2.2.2.2.2] at u5
  have BS1 : Hid (∀ u, Below w1.heap.size w1 u → Bs u (some ⟨b, 0, none⟩) 80 (hdB h)) := Lib.hid (fun u bu => by have q := (R1.out.later bu).bs (hdB_byt ok.out); rwa [HL.out] at q)
  go_wp2_with fail
  clear u0 u1 u2 u3 u4 u5
  have CG := get_any (c := 80) w1 (n := 80) rfl (Nat.le_refl _) (BS1.out w1 (Below.refl _ _))
  rw [E1.out] at CG
  refine CG.mono ?_
  rintro e w2 ⟨rfl, hb⟩
  have G2 := Lib.hid hb
  clear hb CG E1
  have z0 := zeroHd
  go_wp2_with (refine wpList_store_ro rfl (.tmp 2) (.tmp 52) rfl rfl rfl rowHd (Ro.new w2 26 (hdV zeroH)) rfl ll.out (hdV_one _) ?_)
  intro w3 R3 g3
  have G3 := Lib.hid (G2.out.trans ((box_store g3).mono G2.out.size))
  have X3 := Lib.hid R3
  clear R3 g3 G2
  go_wp2_with fail
  refine (get_bad (by decide) _).mono ?_
  rintro e w4 ⟨rfl, hb⟩
  have G4 := Lib.hid (G3.out.trans (hb.mono G3.out.size))
  have X4 := Lib.hid (X3.out.later hb)
  clear hb G3 X3
  go_wp2_with (refine wpList_store_ro rfl (.tmp 4) (.tmp 58) rfl rfl rfl rowHd (Ro.new w4 26 (hdV zeroH)) rfl rfl (hdV_one _) ?_)
  intro w5 R5 g5
  have G5 := Lib.hid (G4.out.trans ((box_store g5).mono G4.out.size))
  have X5 := Lib.hid (X4.out.later (box_store g5))
  clear R5 g5 G4 X4 z0
  go_wp2_with fail
  refine (cut_any _ (Nat.le_refl _) (by decide) (BS1.out _ G5.out)).mono ?_
  rintro e w6 ⟨A6, n6, k6, rfl, O6⟩
  rw [E2.out.2]
  rw [E2.out.1] at O6
  obtain rfl : 1 = n6 := O6.len
  have X6 := Lib.hid (X5.out.later O6.bel)
  have B6 := Lib.hid ((B1.out.trans (G5.out.mono B1.out.size)).trans (O6.bel.mono (B1.out.trans (G5.out.mono B1.out.size)).size))
  obtain ⟨b6, o6, rfl, hb6, _⟩ := O6.reads.cel (by decide)
  have RG := Lib.hid ((O6.reads.at_ (k := 0) (by decide)).2)
  have e0 : nthH [h] 0 = h := rfl
  rw [e0, Nat.zero_mul, Nat.add_zero] at RG
  have lt6 : Hid (b6 < w6.heap.size) := Lib.hid hb6
  clear G5 X5 O6 BS1 hb6 e0 R1 HBS B1 E2 HV HL
  have c66 := X6.out.cell C4.out
  have lt2 : Hid (w2.heap.size < w6.heap.size) := Lib.hid X6.out.lt
  have EQ : ∀ w, (Op.equalIn 10000 26 (.agg (hdV h).toArray) (.agg (hdV h).toArray)).run Tryd.prog w = .ok true w := fun w => (eq_hd ok.out ok.out w).trans (by rw [decide_eq_true rfl])
  have EI := eqV (idS_len h) (idS_len h)
  rw [eqB_yes rfl] at EI
  obtain ⟨I, hI⟩ : ∃ I, idS h = I := ⟨_, rfl⟩
  rw [hI] at EI
  have HI := Lib.hid hI
  have K66 := Lib.hid c66
  clear hI c66
  go_wp2_with fail
  refine wp_region_seg (W := w6) (by kernel_rfl) fun wa ga => ?_
  refine wpK_seg 0 29 (f := 12) (by kernel_rfl) (fun _ _ _ _ _ h => h) (by kernel_rfl) (by kernel_rfl) (by kernel_rfl) ga ?_
  apply Exists.intro
  refine ⟨?_, ?_⟩
  · intro wg hg
    simp only [List.drop_zero, List.take_succ_cons, List.take_zero]
    have XG := Lib.hid (X6.out.later hg)
    have RGG := Lib.hid (range_later RG.out lt6.out hg)
    have L6 : Hid (b6 < wg.heap.size) := Lib.hid (Nat.lt_of_lt_of_le lt6.out hg.size)
    have u66 : ∀ u : After wg, u.w.cell? ⟨w2.heap.size, 66, none⟩ = some (.int .u32 258) := fun u => u.cell (by rw [← K66.out]; exact hg.cell lt2.out)
    repeat (go_big_quiet_step (fail))
    go_big_quiet_want
    refine quiet_load_part (.tmp 87) rfl rfl rowHd (fun w9 h9 => by obtain ⟨u, rfl⟩ := h9; exact range_later RGG.out L6.out u.below) ll.out ?_
    simp only [Act.put, List.setIfInBounds_toArray, List.set_cons_succ, List.set_cons_zero]
    go_big_quiet_on
    go_big_quiet_want
    refine quiet_load_part (.tmp 2) rfl rfl rowHd (fun w9 h9 => by obtain ⟨u, rfl⟩ := h9; exact range_later (rangeOf XG.out) XG.out.lt u.below) ll.out ?_
    simp only [Act.put, List.setIfInBounds_toArray, List.set_cons_succ, List.set_cons_zero]
    go_big_quiet_on
    repeat (go_big_quiet_step (fail))
    go_big_quiet_want
    refine quiet_load_part (.tmp 2) rfl rfl rowHd (fun w9 h9 => by obtain ⟨u, rfl⟩ := h9; exact range_later (rangeOf XG.out) XG.out.lt u.below) ll.out ?_
    simp only [Act.put, List.setIfInBounds_toArray, List.set_cons_succ, List.set_cons_zero]
    go_big_quiet_on
    refine wpQuiet_nil ?_
    exact rfl
  clear EQ
  refine wpK_call_want (f := 11) (i := 29) (by kernel_rfl) rfl (by rfl) ga ?_
  intro wb gb K hK
  refine wp_litH (d := 94) rfl (.tmp 93) rfl rfl ll.out ?_
  simp only [Act.put, List.setIfInBounds_toArray, List.set_cons_succ, List.set_cons_zero]
  have GN := Lib.hid (Grows.trans gb ((Below.refl wb.heap.size wb).alloc (Nat.le_refl _) (.cells (hdV h).toArray 26)))
  refine hK _ _ ((Below.refl wb.heap.size wb).alloc (Nat.le_refl _) (.cells (hdV h).toArray 26)) ?_
  clear hK K
  refine wpK_from GN.out _ _ _ _ ?_
  have HN := Lib.hid (Ro.new wb 26 (hdV h))
  obtain ⟨wn, hwn⟩ : ∃ wn, wn = wb.alloc (.cells (hdV h).toArray 26) := ⟨_, rfl⟩
  rw [← hwn] at GN HN ⊢
  clear hwn
  have BN := Lib.hid (B6.out.trans (GN.out.mono B6.out.size))
  have XN := Lib.hid (X6.out.later GN.out)
  clear RG lt6 K66 X6
  refine wpK_seg 30 11 (f := 0) (by kernel_rfl) (fun _ _ _ _ _ h => h) (by kernel_rfl) (by kernel_rfl) (by kernel_rfl) (Grows.refl wn) ?_
  apply Exists.intro
  refine ⟨?_, ?_⟩
  · intro wg hg
    simp only [List.drop_succ_cons, List.drop_zero, List.take_succ_cons, List.take_zero]
    have XG := Lib.hid (XN.out.later hg)
    have BU : Hid (∀ u : After wg, Below w.heap.size w u.w) := Lib.hid (fun u => (BN.out.trans (hg.mono BN.out.size)).trans (u.below.mono (Nat.le_trans BN.out.size hg.size)))
    have CL : Hid (∀ u : After wg, Calls Tryd.prog 23 #[.slice (some ⟨wb.heap.size, 0, none⟩) 1 1] u.w fun e w' => e = .returned (.int .i64 1) ∧ Below u.w.heap.size u.w w') := Lib.hid (fun u => by
      have q := linked_any (c := 1) u.w (HD.out.later HD.out.lt (BU.out u)) (by decide) (((HN.out.later hg).later u.below).hs1 ok.out)
      rw [linkN_one] at q
      exact q)
    have CI : Hid (∀ u : After wg, Calls Tryd.prog 16 #[.agg (hdV h).toArray] u.w fun e w' => e = .returned (.agg (vals I).toArray) ∧ Below u.w.heap.size u.w w') := Lib.hid (fun u => by
      rw [← HI.out]; exact id_any ok.out u.w (HD.out.later HD.out.lt (BU.out u)))
    have CR : Hid (∀ u : After wg, Calls Tryd.prog 17 #[.agg (hdV h).toArray] u.w fun e w' => e = .returned (.agg (vals I).toArray) ∧ Below u.w.heap.size u.w w') := Lib.hid (fun u => by
      rw [← HI.out]; exact refId_any ok.out u.w)
    go_big_quiet_step (exact after_call (CL.out _))
    repeat (go_big_quiet_step (fail))
    go_big_quiet_want
    refine quiet_load_part (.tmp 2) rfl rfl rowHd (fun w9 h9 => by obtain ⟨u, rfl⟩ := h9; exact range_later (rangeOf XG.out) XG.out.lt u.below) ll.out ?_
    simp only [Act.put, List.setIfInBounds_toArray, List.set_cons_succ, List.set_cons_zero]
    go_big_quiet_on
    go_big_quiet_step (exact after_call (CI.out _))
    go_big_quiet_want
    refine quiet_load_part (.tmp 2) rfl rfl rowHd (fun w9 h9 => by obtain ⟨u, rfl⟩ := h9; exact range_later (rangeOf XG.out) XG.out.lt u.below) ll.out ?_
    simp only [Act.put, List.setIfInBounds_toArray, List.set_cons_succ, List.set_cons_zero]
    go_big_quiet_on
    go_big_quiet_step (exact after_call (CR.out _))
    repeat (go_big_quiet_step (fail))
    refine wpQuiet_nil ?_
    exact rfl
  refine wpK_end (by kernel_rfl) fun wz gz => ?_
  have Bz := Lib.hid (BN.out.trans (gz.mono BN.out.size))
  go_wp2_with fail
  go_ret
  exact ⟨rfl, Bz.out⟩
end Go.Proofs.YtkocbkckfkbmhaaDoor
