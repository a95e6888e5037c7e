/- StatusRight: a history that may be is one still without any of its entries; and none is with one of them twice. No condition but that the tables lie as laid. -/
import Derived.Test.YtipbpecihbmneaaDoorWorks
import Derived.Test.YtipbpecihbmneaaDoorEsL
namespace Go.Proofs.YtipbpecihbmneaaDoor
open Go.RowKit

theorem rightB_right {l : List En} (h : rightB l = true) : Right l := Classical.byContradiction fun k => by rw [rightB_no k] at h; cases h
theorem Es.far {w w1 : World} {A : Option Addr} {n : Nat} {l : List En} {row : Option Nat} (h : Es w A n l) (g : w.grownBy w1 row) (hne : ∀ a, A = some a → some a.block ≠ row) : Es w1 A n l :=
  ⟨h.len, h.ok, fun hn => by
    obtain ⟨b, o, e, hb, hc⟩ := h.cel hn
    have hk := g.block b hb (hne _ e)
    exact ⟨b, o, e, Nat.lt_of_lt_of_le hb g.size, fun j v hj => by rw [← hc j v hj]; unfold World.cell?; rw [hk]⟩⟩
theorem Es.lit1 (w : World) {e : En} (k : e.Ok) : Es (w.alloc (.cells (enV e).toArray 29)) (some ⟨w.heap.size, 0, none⟩) 1 [e] := by
  have R := Ro.new w 29 (enV e)
  rw [← esV_one e] at R ⊢
  exact R.es (okEs_one k)
theorem run_fromE {A : Option Addr} {n c k : Nat} (h1 : k ≤ n) (w : World) : (Instr.sliceAt 22 (.slice A n c) (some (.int .i64 (k : Int))) none none).run Tryd.prog w = .ok (.slice (if c = k then A else A.map (·.add (k * 33))) (n - k) (c - k)) w := by
  obtain ⟨i0, hi, _, hz1, _⟩ := info_parts Tryd.infoEn
  have e : Tryd.prog.elem 22 = 29 := by kernel_rfl
  rw [run_sliceAt_slice (P := Tryd.prog) w 22 _ _ _ _ (by rw [e]; exact Tryd.underlying22), run_slice_l w 22 A n c (by rw [e]; exact Tryd.underlying22) .i64 (k : Int) (by omega) (by omega), e]
  simp [sizeOf, typeInfo, hi, hz1, sliced]
theorem run_toE {A : Option Addr} {n c k : Nat} (h1 : k ≤ c) (w : World) : (Instr.sliceAt 22 (.slice A n c) none (some (.int .i64 (k : Int))) none).run Tryd.prog w = .ok (.slice A k c) w := by
  obtain ⟨i0, hi, _, hz1, _⟩ := info_parts Tryd.infoEn
  have e : Tryd.prog.elem 22 = 29 := by kernel_rfl
  rw [run_sliceAt_slice (P := Tryd.prog) w 22 _ _ _ _ (by rw [e]; exact Tryd.underlying22), run_slice_h w 22 A n c (by rw [e]; exact Tryd.underlying22) .i64 (k : Int) (by omega) (by omega)]
  simp [sizeOf, typeInfo, hi, hz1, sliced, e]
  intro _
  cases A with
  | none => rfl
  | some a => rw [Option.map_some]; rfl
theorem Es.from {w : World} {A : Option Addr} {n c k : Nat} {l : List En} (h : Es w A n l) (hk : k ≤ n) (hc : n ≤ c) : Es w (if c = k then A else A.map (·.add (k * 33))) (n - k) (l.drop k) := by
  by_cases e : k = n
  · subst e
    rw [Nat.sub_self, List.drop_of_length_le (by rw [h.len]; exact Nat.le_refl _)]
    exact Es.nil _ _
  · rw [if_neg (by omega)]
    obtain ⟨b, o, rfl, _, _⟩ := h.cel (by omega)
    rw [Option.map_some, add_at]
    exact h.right (by omega)
section
variable {o : Oper} {a : Act} {D : World → Prop} {K : Act → Prop}
theorem quiet_fromE (x i : Operand) (ho : o.op = .slice 22 x (some i) none none) {A A' : Option Addr} {n c k : Nat} {z : Int} (hx : a.eval x = .slice A n c) (hi : a.eval i = .int .i64 z) (hz : z = (k : Int)) (h1 : k ≤ n) (hA : (if c = k then A else A.map (·.add (k * 33))) = A')
    (hk : K (a.put o.dst (.slice A' (n - k) (c - k)))) : o.quiet Tryd.prog a D K :=
  ⟨.slice A' (n - k) (c - k), fun w _ => by
    subst hz hA
    unfold Oper.quietAt execOp
    simp only [ho, hx, hi, Option.map_some, Option.map_none, Sem.run_bind, Sem.run_pure, Result.andThen_ok, run_fromE h1]
    exact ⟨rfl, rfl⟩, hk⟩
theorem quiet_toE (x i : Operand) (ho : o.op = .slice 22 x none (some i) none) {A : Option Addr} {n c k : Nat} (hx : a.eval x = .slice A n c) (hi : a.eval i = .int .i64 (k : Int)) (h1 : k ≤ c)
    (hk : K (a.put o.dst (.slice A k c))) : o.quiet Tryd.prog a D K :=
  ⟨.slice A k c, fun w _ => by
    unfold Oper.quietAt execOp
    simp only [ho, hx, hi, Option.map_some, Option.map_none, Sem.run_bind, Sem.run_pure, Result.andThen_ok, run_toE h1]
    exact ⟨rfl, rfl⟩, hk⟩
theorem wpK_two_want {P : Program} {ops : Array Oper} {Q : Exit → Act → World → Prop} {W : World} {md : Region.Mode} {f i k : Nat} {o p : Oper} {listed : Array Bool} {a : Act} {w : World} (hr : Region.ready md ops listed = [i, k]) (ho : ops[i]? = some o) (hp : ops[k]? = some p) (hg : Region.wanted o (yielded ops a.tmps) = true) (hgp : Region.wanted p (yielded ops a.tmps) = true)
    (h : ∀ w', Grows w w' → ∀ K : Act → World → Prop, (∀ a' w'', Grows W w'' → wpK P md ops Q W f (listed.setIfInBounds i true) a' w'' → K a' w'') → o.wp P a w' K Q)
    (h2 : ∀ w', Grows w w' → ∀ K : Act → World → Prop, (∀ a' w'', Grows W w'' → wpK P md ops Q W f (listed.setIfInBounds k true) a' w'' → K a' w'') → p.wp P a w' K Q) :
    wpK P md ops Q W (f + 1) listed a w := fun w' g => by
  refine ⟨fun e => (by rw [hr] at e; cases e), fun j hj => ?_⟩
  rw [hr] at hj
  rcases (by simpa using hj : j = i ∨ j = k) with rfl | rfl
  · unfold wpOp
    simp only [ho, hg, if_true]
    exact .inl (h w' g _ fun a' w'' g'' k => ⟨g'', k⟩)
  · unfold wpOp
    simp only [hp, hgp, if_true]
    exact .inl (h2 w' g _ fun a' w'' g'' k => ⟨g'', k⟩)
theorem wpK_one_want {P : Program} {ops : Array Oper} {Q : Exit → Act → World → Prop} {W : World} {md : Region.Mode} {f i : Nat} {o : Oper} {listed : Array Bool} {a : Act} {w : World} (hr : Region.ready md ops listed = [i]) (ho : ops[i]? = some o) (hg : Region.wanted o (yielded ops a.tmps) = true)
    (h : ∀ w', Grows w w' → ∀ K : Act → World → Prop, (∀ a' w'', Grows W w'' → wpK P md ops Q W f (listed.setIfInBounds i true) a' w'' → K a' w'') → o.wp P a w' K Q) :
    wpK P md ops Q W (f + 1) listed a w := fun w' g => by
  refine ⟨fun e => (by rw [hr] at e; cases e), fun j hj => ?_⟩
  rw [hr] at hj
  obtain rfl : j = i := by simpa using hj
  unfold wpOp
  simp only [ho, hg, if_true]
  exact .inl (h w' g _ fun a' w'' g'' k => ⟨g'', k⟩)
end

set_option maxRecDepth 100000 in
set_option maxHeartbeats 16000000 in
theorem sright_law {A : Option Addr} {n c : Nat} {l : List En} {x : Nat} {w : World} (hnc : n ≤ c) (hcc : c ≤ 9223372036854775807) (hl : Es w A n l) (hx : x < 256) (hLd : Laid w) :
    Calls Tryd.prog 5 #[.slice A n c, .int .u8 (x : Nat)] w fun e w' => e = .returned (.bool true) ∧ Below w.heap.size w w' := by
  have HD := Lib.hid hLd
  have HL := Lib.hid hl
  have NL := Lib.hid hl.len
  have B0 := Lib.hid (Below.refl w.heap.size w)
  clear hLd hl
  have fin : ∀ w1, Below w.heap.size w w1 → Calls Tryd.prog 6 #[] w1 fun e w' => e = .returned (.bool true) ∧ Below w.heap.size w w' := fun w1 b => (works_any w1 (HD.out.later HD.out.lt b)).mono fun e w' ⟨h1, h2⟩ => ⟨h1, b.trans (h2.mono b.size)⟩
  have FIN := Lib.hid fin
  clear fin
  go_enter Tryd.func5, Tryd.ntmps5
  by_cases h1 : 100 < n
  · have t0 : decide ((100 : Int) < (n : Int)) = true := decide_eq_true (by omega)
    go_wp2_with fail
    refine (FIN.out _ B0.out).mono ?_
    rintro e w1 ⟨rfl, hb⟩
    have HB := Lib.hid hb
    clear hb
    go_wp2_with fail
    go_ret
    exact ⟨rfl, HB.out⟩
  have t0 : decide ((100 : Int) < (n : Int)) = false := decide_eq_false (by omega)
  by_cases h2 : n = 0
  · have t1 : ((n : Int) == 0) = true := by rw [beq_iff_eq]; omega
    clear h2
    go_wp2_with fail
    refine (FIN.out _ B0.out).mono ?_
    rintro e w1 ⟨rfl, hb⟩
    have HB := Lib.hid hb
    clear hb
    go_wp2_with fail
    go_ret
    exact ⟨rfl, HB.out⟩
  have t1 : ((n : Int) == 0) = false := by rw [beq_eq_false_iff_ne]; omega
  have CR := mayRight_any (c := c) w (by omega) HL.out
  obtain ⟨r, hr⟩ : ∃ r, rightB l = r := ⟨_, rfl⟩
  rw [hr] at CR
  have HR := Lib.hid hr
  have HCR := Lib.hid CR
  clear hr CR
  go_wp2_with fail
  refine HCR.out.mono ?_
  rintro e w1 ⟨rfl, hb⟩
  have B1 := Lib.hid hb
  clear hb HCR B0
  cases r
  · go_wp2_with fail
    refine (FIN.out _ B1.out).mono ?_
    rintro e w2 ⟨rfl, hb⟩
    have HB := Lib.hid hb
    clear hb
    go_wp2_with fail
    go_ret
    exact ⟨rfl, HB.out⟩
  have RI := Lib.hid (rightB_right HR.out)
  obtain ⟨k, hk⟩ : ∃ k, x % n = k := ⟨_, rfl⟩
  have ZR : Hid ((x : Int) % (n : Int) = (k : Int)) := Lib.hid (by rw [← hk, Int.natCast_emod])
  have kn : k < n := by rw [← hk]; exact Nat.mod_lt _ (by omega)
  have L1 := Lib.hid (HL.out.later B1.out)
  obtain ⟨b, o, rfl, hb, _⟩ := L1.out.cel (by omega)
  have ad := add_at b o
  have lb := Lib.hid hb
  clear hk hb
  have LK := Lib.hid (L1.out.left (k := k) (by omega))
  have LR0 := L1.out.from (c := c) (k := k + 1) (by omega) hnc
  obtain ⟨AR, hAR⟩ : ∃ AR, (if c = k + 1 then some (⟨b, o, none⟩ : Addr) else (some (⟨b, o, none⟩ : Addr)).map (·.add ((k + 1) * 33))) = AR := ⟨_, rfl⟩
  rw [hAR] at LR0
  have LR := Lib.hid LR0
  have HAR := Lib.hid hAR
  have dn : n - (k + 1) ≤ 100 := by omega
  clear LR0 hAR
  go_wp2_with fail
  rw [ZR.out]
  refine wp_region_seg (W := w1) (by kernel_rfl) fun wq gq => ?_
  refine wpK_seg 1 3 (f := 8) (by kernel_rfl) (fun _ _ _ _ _ h => h) (by kernel_rfl) (by kernel_rfl) (by kernel_rfl) gq ?_
  apply Exists.intro
  refine ⟨?_, ?_⟩
  · intro wg hg
    simp only [List.drop_succ_cons, List.drop_zero, List.take_succ_cons, List.take_zero]
    go_big_quiet_step (fail)
    go_big_quiet_step (fail)
    go_big_quiet_want
    refine quiet_toE (.tmp 28) (.tmp 29) rfl rfl rfl (by omega) ?_
    simp only [Act.put, List.setIfInBounds_toArray, List.set_cons_succ, List.set_cons_zero]
    go_big_quiet_on
    refine wpQuiet_nil ?_
    exact rfl
  refine wpK_seg 5 4 (f := 4) (by kernel_rfl) (fun _ _ _ _ _ h => h) (by kernel_rfl) (by kernel_rfl) (by kernel_rfl) gq ?_
  apply Exists.intro
  refine ⟨?_, ?_⟩
  · intro wg hg
    simp only [List.drop_succ_cons, List.drop_zero, List.take_succ_cons, List.take_zero]
    go_big_quiet_step (fail)
    go_big_quiet_step (fail)
    go_big_quiet_step (fail)
    go_big_quiet_want
    refine quiet_fromE (.tmp 32) (.tmp 34) rfl rfl rfl (show _ = (((k + 1 : Nat)) : Int) by omega) (by omega) HAR.out ?_
    simp only [Act.put, List.setIfInBounds_toArray, List.set_cons_succ, List.set_cons_zero]
    go_big_quiet_on
    refine wpQuiet_nil ?_
    exact rfl
  have GQ := Lib.hid (show Below w1.heap.size w1 wq from gq)
  clear gq
  refine wpK_one_want (f := 3) (i := 0) (by kernel_rfl) rfl (by rfl) ?_
  intro wa ga K hK
  have GA := Lib.hid (GQ.out.trans (ga.mono GQ.out.size))
  refine wp_litE0 (d := some 27) rfl rfl ?_
  simp only [Act.put, List.setIfInBounds_toArray, List.set_cons_succ, List.set_cons_zero]
  have OA := Lib.hid (OwnE.made (w0 := w1) GA.out)
  have GA2 := Lib.hid (GA.out.alloc GA.out.size (.cells #[] 29))
  refine hK _ _ GA2.out ?_
  clear hK K GA GQ ga
  refine wpK_one_want (f := 2) (i := 4) (by kernel_rfl) rfl (by rfl) ?_
  intro wb gb K hK
  have GB := Lib.hid (GA2.out.trans (gb.mono GA2.out.size))
  have OB := Lib.hid (OA.out.later gb)
  refine wp_appEs (d := some 31) rfl (.tmp 27) (.tmp 30) rfl rfl OB.out rfl (LK.out.later GB.out) (Nat.zero_add k) (by omega) ?_
  intro A2 c2 wc hc2 O2 g2 _
  simp only [Act.put, List.setIfInBounds_toArray, List.set_cons_succ, List.set_cons_zero]
  have GC := Lib.hid (GB.out.grown g2 GB.out.size (fun q e => (OB.out.new q e).1))
  have OC := Lib.hid O2
  clear O2 g2 hc2
  refine hK _ _ GC.out ?_
  clear hK K GA2 GB OA OB gb
  refine wpK_one_want (f := 1) (i := 9) (by kernel_rfl) rfl (by rfl) ?_
  intro wd gd K hK
  have GD := Lib.hid (GC.out.trans (gd.mono GC.out.size))
  have OD := Lib.hid (OC.out.later gd)
  refine wp_appEs (d := some 36) rfl (.tmp 31) (.tmp 35) rfl rfl OD.out rfl (LR.out.later GD.out) (show k + (n - (k + 1)) = n - 1 by omega) (by omega) ?_
  intro A3 c3 we hc3 O3 g3 _
  simp only [Act.put, List.setIfInBounds_toArray, List.set_cons_succ, List.set_cons_zero]
  have GE := Lib.hid (GD.out.grown g3 GD.out.size (fun q e => (OD.out.new q e).1))
  have OE := Lib.hid O3
  clear O3 g3 hc3
  refine hK _ _ GE.out ?_
  clear hK K GC GD OC OD gd
  refine wpK_from GE.out _ _ _ _ ?_
  refine wpK_seg 10 1 (f := 0) (by kernel_rfl) (fun _ _ _ _ _ h => h) (by kernel_rfl) (by kernel_rfl) (by kernel_rfl) (Grows.refl we) ?_
  apply Exists.intro
  refine ⟨?_, ?_⟩
  · intro wg hg
    simp only [List.drop_succ_cons, List.drop_zero, List.take_succ_cons, List.take_zero]
    repeat (go_big_quiet_step (fail))
    refine wpQuiet_nil ?_
    exact rfl
  refine wpK_end (by kernel_rfl) fun w7 g7 => ?_
  have G7 := Lib.hid (GE.out.trans (g7.mono GE.out.size))
  have O7 := Lib.hid (OE.out.later g7)
  have R7 := Lib.hid O7.out.reads
  have B7 := Lib.hid (B1.out.trans (G7.out.mono B1.out.size))
  have L7 := Lib.hid (L1.out.later G7.out)
  clear g7 GE OE O7 LK LR HAR
  obtain ⟨p, rfl⟩ : ∃ p, n = p + 1 := ⟨n - 1, by omega⟩
  have y1 : IntKind.i64.wrap (((p + 1 : Nat) : Int) - 1) = (p : Int) := by rw [IntWalk.i64_in _ (by omega)]; omega
  have RP := Lib.hid ((L7.out.at_ (k := p) (by omega)).2)
  have RK := Lib.hid ((L7.out.at_ (k := k) kn).2)
  have lb7 := Lib.hid (L7.out.at_ (k := k) kn).1
  have okp := Lib.hid (nthE_ok HL.out.ok p)
  have okk := Lib.hid (nthE_ok HL.out.ok k)
  have KM : Hid (nthE l k ∈ l) := Lib.hid (by rw [← nthE_get (by rw [NL.out]; exact kn)]; exact List.getElem_mem _)
  obtain ⟨e, he⟩ : ∃ e, nthE l p = e := ⟨_, rfl⟩
  obtain ⟨f, hf⟩ : ∃ e, nthE l k = e := ⟨_, rfl⟩
  rw [he] at RP okp
  rw [hf] at RK okk KM
  have cp := Lib.hid (cell_h RP.out)
  have TX := Lib.hid (range_tx RK.out)
  have bh := okp.out.1
  obtain ⟨hh, hhh⟩ : ∃ z, e.h = z := ⟨_, rfl⟩
  obtain ⟨X, hX⟩ : ∃ z, f.tx = z := ⟨_, rfl⟩
  rw [hhh] at cp bh
  have okE : Hid (En.Ok ⟨hh, X⟩) := Lib.hid ⟨bh, by rw [← hX]; exact okk.out.2.1, by rw [← hX]; exact okk.out.2.2⟩
  rw [hX] at TX
  have lX : Hid ((vals X).length = 32) := Lib.hid (by rw [vals_length]; exact okE.out.2.1)
  have BE := Lib.hid (build_en (h := hh) okE.out.2.1)
  have RL := Lib.hid (rightB_yes (right_less RI.out k))
  have RM := Lib.hid (rightB_no (right_more (l := l) (e := ⟨hh, X⟩) ⟨f, KM.out, hX⟩))
  clear he hf hhh hX RP RK okp okk KM
  go_wp2_with fail
  refine wp_region_seg (W := w7) (by kernel_rfl) fun wq gq => ?_
  refine wpK_seg 1 1 (f := 18) (by kernel_rfl) (fun _ _ _ _ _ h => h) (by kernel_rfl) (by kernel_rfl) (by kernel_rfl) gq ?_
  apply Exists.intro
  refine ⟨?_, ?_⟩
  · intro wg hg
    simp only [List.drop_succ_cons, List.drop_zero, List.take_succ_cons, List.take_zero]
    repeat (go_big_quiet_step (fail))
    refine wpQuiet_nil ?_
    exact rfl
  refine wpK_seg 3 13 (f := 5) (by kernel_rfl) (fun _ _ _ _ _ h => h) (by kernel_rfl) (by kernel_rfl) (by kernel_rfl) gq ?_
  apply Exists.intro
  refine ⟨?_, ?_⟩
  · intro wg hg
    simp only [List.drop_succ_cons, List.drop_zero, List.take_succ_cons, List.take_zero]
    have cu : ∀ u : After wg, u.w.cell? ⟨b, o + p * 33, none⟩ = some (.int .i64 hh) := fun u => by rw [← cp.out]; exact (hg.trans u.below).cell lb7.out
    repeat (go_big_quiet_step (fail))
    go_big_quiet_want
    refine quiet_load_part (.tmp 50) rfl rfl row26 (fun w9 h9 => by obtain ⟨u, rfl⟩ := h9; exact range_later TX.out lb7.out (hg.trans u.below)) lX.out ?_
    simp only [Act.put, List.setIfInBounds_toArray, List.set_cons_succ, List.set_cons_zero]
    go_big_quiet_on
    go_big_quiet_want
    refine quiet_buildR 29 #[(0, .tmp 46), (1, .tmp 51)] rfl (vs := #[(0, .int .i64 hh), (1, .agg (vals X).toArray)]) (by simp [go_sem]) BE.out ?_
    simp only [Act.put, List.setIfInBounds_toArray, List.set_cons_succ, List.set_cons_zero]
    go_big_quiet_on
    refine wpQuiet_nil ?_
    exact rfl
  have GQ := Lib.hid (show Below w7.heap.size w7 wq from gq)
  clear gq
  refine wpK_two_want (f := 4) (i := 0) (k := 16) (by kernel_rfl) rfl rfl (by rfl) (by rfl) ?_ ?_
  · intro wx1 gx2 K hK
    have GXwx1 := Lib.hid (GQ.out.trans (gx2.mono GQ.out.size))
    refine wp_litE0 (d := some 37) rfl rfl ?_
    simp only [Act.put, List.setIfInBounds_toArray, List.set_cons_succ, List.set_cons_zero]
    have OWNwy3 := Lib.hid (OwnE.made (w0 := w7) GXwx1.out)
    have GWwy3 := Lib.hid (GXwx1.out.alloc GXwx1.out.size (.cells #[] 29))
    refine hK _ _ GWwy3.out ?_
    clear hK K
    refine wpK_two_want (f := 3) (i := 2) (k := 16) (by kernel_rfl) rfl rfl (by rfl) (by rfl) ?_ ?_
    · intro wx4 gx5 K hK
      have GXwx4 := Lib.hid (GWwy3.out.trans (gx5.mono GWwy3.out.size))
      have OWNwx4 := Lib.hid (OWNwy3.out.later gx5)
      refine wp_appEs (d := some 39) rfl (.tmp 37) (.tmp 38) rfl rfl OWNwx4.out rfl (L7.out.later GXwx4.out) (Nat.zero_add (p + 1)) (by omega) ?_
      intro A2 c2 wz6 hc2 O2 g2 _
      simp only [Act.put, List.setIfInBounds_toArray, List.set_cons_succ, List.set_cons_zero]
      have GWwz6 := Lib.hid (GXwx4.out.grown g2 GXwx4.out.size (fun q e => (OWNwx4.out.new q e).1))
      have OWNwz6 := Lib.hid O2
      clear O2 g2
      refine hK _ _ GWwz6.out ?_
      clear hK K
      refine wpK_one_want (f := 2) (i := 16) (by kernel_rfl) rfl (by rfl) ?_
      intro wx7 gx8 K hK
      have GXwx7 := Lib.hid (GWwz6.out.trans (gx8.mono GWwz6.out.size))
      have OWNwx7 := Lib.hid (OWNwz6.out.later gx8)
      refine wp_litE (d := some 53) rfl (.tmp 52) rfl rfl (enV_len okE.out) ?_
      simp only [Act.put, List.setIfInBounds_toArray, List.set_cons_succ, List.set_cons_zero]
      have LITwl9 := Lib.hid (Es.lit1 wx7 okE.out)
      have GWwl9 := Lib.hid (GXwx7.out.alloc GXwx7.out.size (.cells (enV ⟨hh, X⟩).toArray 29))
      have OWNwl9 := Lib.hid (OWNwx7.out.later ((Below.refl wx7.heap.size wx7).alloc (Nat.le_refl _) (.cells (enV ⟨hh, X⟩).toArray 29)))
      refine hK _ _ GWwl9.out ?_
      clear hK K
      refine wpK_one_want (f := 1) (i := 17) (by kernel_rfl) rfl (by rfl) ?_
      intro wx10 gx11 K hK
      have GXwx10 := Lib.hid (GWwl9.out.trans (gx11.mono GWwl9.out.size))
      have OWNwx10 := Lib.hid (OWNwl9.out.later gx11)
      have LITwx10 := Lib.hid (LITwl9.out.later gx11)
      refine wp_appEs (d := some 54) rfl (.tmp 39) (.tmp 53) rfl rfl OWNwx10.out rfl LITwx10.out rfl (by omega) ?_
      intro A4 c4 w8 hc4 O4 g4 _
      simp only [Act.put, List.setIfInBounds_toArray, List.set_cons_succ, List.set_cons_zero]
      have GW := Lib.hid (GXwx10.out.grown g4 GXwx10.out.size (fun q e => (OWNwx10.out.new q e).1))
      have OW := Lib.hid O4
      clear O4 g4
      refine hK _ _ GW.out ?_
      clear hK K
      refine wpK_from GW.out _ _ _ _ ?_
      refine wpK_seg 18 1 (f := 0) (by kernel_rfl) (fun _ _ _ _ _ h => h) (by kernel_rfl) (by kernel_rfl) (by kernel_rfl) (Grows.refl w8) ?_
      apply Exists.intro
      refine ⟨?_, ?_⟩
      · intro wg hg
        simp only [List.drop_succ_cons, List.drop_zero, List.take_succ_cons, List.take_zero]
        repeat (go_big_quiet_step (fail))
        refine wpQuiet_nil ?_
        exact rfl
      refine wpK_end (by kernel_rfl) fun w9 g9 => ?_
      have G9 := Lib.hid (GW.out.trans (g9.mono GW.out.size))
      have M9 := Lib.hid (OW.out.later g9).reads
      have B9 := Lib.hid (B7.out.trans (G9.out.mono B7.out.size))
      have S9 := Lib.hid (R7.out.later G9.out)
      clear g9 OW GW G9
      have CL := mayRight_any (c := c3) w9 (by omega) S9.out
      rw [List.nil_append, RL.out] at CL
      have HCL := Lib.hid CL
      clear CL
      go_wp2_with fail
      refine HCL.out.mono ?_
      rintro e wf ⟨rfl, hb⟩
      have Bf := Lib.hid (B9.out.trans (hb.mono B9.out.size))
      have Mf := Lib.hid (M9.out.later hb)
      clear hb HCL
      have CL := mayRight_any (c := c4) wf (by omega) Mf.out
      rw [List.nil_append, RM.out] at CL
      have HCL := Lib.hid CL
      clear CL
      go_wp2_with fail
      refine HCL.out.mono ?_
      rintro e wg ⟨rfl, hb⟩
      have Bg := Lib.hid (Bf.out.trans (hb.mono Bf.out.size))
      clear hb HCL
      go_wp2_with fail
      refine (FIN.out _ Bg.out).mono ?_
      rintro e wh ⟨rfl, hb⟩
      have Bh := Lib.hid hb
      clear hb
      go_wp2_with fail
      go_ret
      exact ⟨rfl, Bh.out⟩
    · intro wx12 gx13 K hK
      have GXwx12 := Lib.hid (GWwy3.out.trans (gx13.mono GWwy3.out.size))
      have OWNwx12 := Lib.hid (OWNwy3.out.later gx13)
      refine wp_litE (d := some 53) rfl (.tmp 52) rfl rfl (enV_len okE.out) ?_
      simp only [Act.put, List.setIfInBounds_toArray, List.set_cons_succ, List.set_cons_zero]
      have LITwl14 := Lib.hid (Es.lit1 wx12 okE.out)
      have GWwl14 := Lib.hid (GXwx12.out.alloc GXwx12.out.size (.cells (enV ⟨hh, X⟩).toArray 29))
      have OWNwl14 := Lib.hid (OWNwx12.out.later ((Below.refl wx12.heap.size wx12).alloc (Nat.le_refl _) (.cells (enV ⟨hh, X⟩).toArray 29)))
      have NEwl14 : Hid (wx12.heap.size ≠ wx1.heap.size) := Lib.hid (by have := (OWNwx12.out.new _ rfl).2; dsimp only at this; omega)
      refine hK _ _ GWwl14.out ?_
      clear hK K
      refine wpK_one_want (f := 2) (i := 2) (by kernel_rfl) rfl (by rfl) ?_
      intro wx15 gx16 K hK
      have GXwx15 := Lib.hid (GWwl14.out.trans (gx16.mono GWwl14.out.size))
      have OWNwx15 := Lib.hid (OWNwl14.out.later gx16)
      have LITwx15 := Lib.hid (LITwl14.out.later gx16)
      refine wp_appEs (d := some 39) rfl (.tmp 37) (.tmp 38) rfl rfl OWNwx15.out rfl (L7.out.later GXwx15.out) (Nat.zero_add (p + 1)) (by omega) ?_
      intro A2 c2 wz17 hc2 O2 g2 _
      simp only [Act.put, List.setIfInBounds_toArray, List.set_cons_succ, List.set_cons_zero]
      have GWwz17 := Lib.hid (GXwx15.out.grown g2 GXwx15.out.size (fun q e => (OWNwx15.out.new q e).1))
      have LITwz17 := Lib.hid (LITwx15.out.far g2 (fun a e h => by injection e with e; subst e; injection h with h; exact NEwl14.out h))
      have OWNwz17 := Lib.hid O2
      clear O2 g2
      refine hK _ _ GWwz17.out ?_
      clear hK K
      refine wpK_one_want (f := 1) (i := 17) (by kernel_rfl) rfl (by rfl) ?_
      intro wx18 gx19 K hK
      have GXwx18 := Lib.hid (GWwz17.out.trans (gx19.mono GWwz17.out.size))
      have OWNwx18 := Lib.hid (OWNwz17.out.later gx19)
      have LITwx18 := Lib.hid (LITwz17.out.later gx19)
      refine wp_appEs (d := some 54) rfl (.tmp 39) (.tmp 53) rfl rfl OWNwx18.out rfl LITwx18.out rfl (by omega) ?_
      intro A4 c4 w8 hc4 O4 g4 _
      simp only [Act.put, List.setIfInBounds_toArray, List.set_cons_succ, List.set_cons_zero]
      have GW := Lib.hid (GXwx18.out.grown g4 GXwx18.out.size (fun q e => (OWNwx18.out.new q e).1))
      have OW := Lib.hid O4
      clear O4 g4
      refine hK _ _ GW.out ?_
      clear hK K
      refine wpK_from GW.out _ _ _ _ ?_
      refine wpK_seg 18 1 (f := 0) (by kernel_rfl) (fun _ _ _ _ _ h => h) (by kernel_rfl) (by kernel_rfl) (by kernel_rfl) (Grows.refl w8) ?_
      apply Exists.intro
      refine ⟨?_, ?_⟩
      · intro wg hg
        simp only [List.drop_succ_cons, List.drop_zero, List.take_succ_cons, List.take_zero]
        repeat (go_big_quiet_step (fail))
        refine wpQuiet_nil ?_
        exact rfl
      refine wpK_end (by kernel_rfl) fun w9 g9 => ?_
      have G9 := Lib.hid (GW.out.trans (g9.mono GW.out.size))
      have M9 := Lib.hid (OW.out.later g9).reads
      have B9 := Lib.hid (B7.out.trans (G9.out.mono B7.out.size))
      have S9 := Lib.hid (R7.out.later G9.out)
      clear g9 OW GW G9
      have CL := mayRight_any (c := c3) w9 (by omega) S9.out
      rw [List.nil_append, RL.out] at CL
      have HCL := Lib.hid CL
      clear CL
      go_wp2_with fail
      refine HCL.out.mono ?_
      rintro e wf ⟨rfl, hb⟩
      have Bf := Lib.hid (B9.out.trans (hb.mono B9.out.size))
      have Mf := Lib.hid (M9.out.later hb)
      clear hb HCL
      have CL := mayRight_any (c := c4) wf (by omega) Mf.out
      rw [List.nil_append, RM.out] at CL
      have HCL := Lib.hid CL
      clear CL
      go_wp2_with fail
      refine HCL.out.mono ?_
      rintro e wg ⟨rfl, hb⟩
      have Bg := Lib.hid (Bf.out.trans (hb.mono Bf.out.size))
      clear hb HCL
      go_wp2_with fail
      refine (FIN.out _ Bg.out).mono ?_
      rintro e wh ⟨rfl, hb⟩
      have Bh := Lib.hid hb
      clear hb
      go_wp2_with fail
      go_ret
      exact ⟨rfl, Bh.out⟩
  · intro wx20 gx21 K hK
    have GXwx20 := Lib.hid (GQ.out.trans (gx21.mono GQ.out.size))
    refine wp_litE (d := some 53) rfl (.tmp 52) rfl rfl (enV_len okE.out) ?_
    simp only [Act.put, List.setIfInBounds_toArray, List.set_cons_succ, List.set_cons_zero]
    have LITwl22 := Lib.hid (Es.lit1 wx20 okE.out)
    have GWwl22 := Lib.hid (GXwx20.out.alloc GXwx20.out.size (.cells (enV ⟨hh, X⟩).toArray 29))
    refine hK _ _ GWwl22.out ?_
    clear hK K
    refine wpK_one_want (f := 3) (i := 0) (by kernel_rfl) rfl (by rfl) ?_
    intro wx23 gx24 K hK
    have GXwx23 := Lib.hid (GWwl22.out.trans (gx24.mono GWwl22.out.size))
    have LITwx23 := Lib.hid (LITwl22.out.later gx24)
    refine wp_litE0 (d := some 37) rfl rfl ?_
    simp only [Act.put, List.setIfInBounds_toArray, List.set_cons_succ, List.set_cons_zero]
    have OWNwy25 := Lib.hid (OwnE.made (w0 := w7) GXwx23.out)
    have GWwy25 := Lib.hid (GXwx23.out.alloc GXwx23.out.size (.cells #[] 29))
    have LITwy25 := Lib.hid (LITwx23.out.later ((Below.refl wx23.heap.size wx23).alloc (Nat.le_refl _) (.cells #[] 29)))
    have NEwy25 : Hid (wx20.heap.size ≠ wx23.heap.size) := Lib.hid (by obtain ⟨bb, oo, ee, hh, _⟩ := LITwx23.out.cel (by decide); injection ee with ee; injection ee with ee; omega)
    refine hK _ _ GWwy25.out ?_
    clear hK K
    refine wpK_one_want (f := 2) (i := 2) (by kernel_rfl) rfl (by rfl) ?_
    intro wx26 gx27 K hK
    have GXwx26 := Lib.hid (GWwy25.out.trans (gx27.mono GWwy25.out.size))
    have OWNwx26 := Lib.hid (OWNwy25.out.later gx27)
    have LITwx26 := Lib.hid (LITwy25.out.later gx27)
    refine wp_appEs (d := some 39) rfl (.tmp 37) (.tmp 38) rfl rfl OWNwx26.out rfl (L7.out.later GXwx26.out) (Nat.zero_add (p + 1)) (by omega) ?_
    intro A2 c2 wz28 hc2 O2 g2 _
    simp only [Act.put, List.setIfInBounds_toArray, List.set_cons_succ, List.set_cons_zero]
    have GWwz28 := Lib.hid (GXwx26.out.grown g2 GXwx26.out.size (fun q e => (OWNwx26.out.new q e).1))
    have LITwz28 := Lib.hid (LITwx26.out.far g2 (fun a e h => by injection e with e; subst e; injection h with h; exact NEwy25.out h))
    have OWNwz28 := Lib.hid O2
    clear O2 g2
    refine hK _ _ GWwz28.out ?_
    clear hK K
    refine wpK_one_want (f := 1) (i := 17) (by kernel_rfl) rfl (by rfl) ?_
    intro wx29 gx30 K hK
    have GXwx29 := Lib.hid (GWwz28.out.trans (gx30.mono GWwz28.out.size))
    have OWNwx29 := Lib.hid (OWNwz28.out.later gx30)
    have LITwx29 := Lib.hid (LITwz28.out.later gx30)
    refine wp_appEs (d := some 54) rfl (.tmp 39) (.tmp 53) rfl rfl OWNwx29.out rfl LITwx29.out rfl (by omega) ?_
    intro A4 c4 w8 hc4 O4 g4 _
    simp only [Act.put, List.setIfInBounds_toArray, List.set_cons_succ, List.set_cons_zero]
    have GW := Lib.hid (GXwx29.out.grown g4 GXwx29.out.size (fun q e => (OWNwx29.out.new q e).1))
    have OW := Lib.hid O4
    clear O4 g4
    refine hK _ _ GW.out ?_
    clear hK K
    refine wpK_from GW.out _ _ _ _ ?_
    refine wpK_seg 18 1 (f := 0) (by kernel_rfl) (fun _ _ _ _ _ h => h) (by kernel_rfl) (by kernel_rfl) (by kernel_rfl) (Grows.refl w8) ?_
    apply Exists.intro
    refine ⟨?_, ?_⟩
    · intro wg hg
      simp only [List.drop_succ_cons, List.drop_zero, List.take_succ_cons, List.take_zero]
      repeat (go_big_quiet_step (fail))
      refine wpQuiet_nil ?_
      exact rfl
    refine wpK_end (by kernel_rfl) fun w9 g9 => ?_
    have G9 := Lib.hid (GW.out.trans (g9.mono GW.out.size))
    have M9 := Lib.hid (OW.out.later g9).reads
    have B9 := Lib.hid (B7.out.trans (G9.out.mono B7.out.size))
    have S9 := Lib.hid (R7.out.later G9.out)
    clear g9 OW GW G9
    have CL := mayRight_any (c := c3) w9 (by omega) S9.out
    rw [List.nil_append, RL.out] at CL
    have HCL := Lib.hid CL
    clear CL
    go_wp2_with fail
    refine HCL.out.mono ?_
    rintro e wf ⟨rfl, hb⟩
    have Bf := Lib.hid (B9.out.trans (hb.mono B9.out.size))
    have Mf := Lib.hid (M9.out.later hb)
    clear hb HCL
    have CL := mayRight_any (c := c4) wf (by omega) Mf.out
    rw [List.nil_append, RM.out] at CL
    have HCL := Lib.hid CL
    clear CL
    go_wp2_with fail
    refine HCL.out.mono ?_
    rintro e wg ⟨rfl, hb⟩
    have Bg := Lib.hid (Bf.out.trans (hb.mono Bf.out.size))
    clear hb HCL
    go_wp2_with fail
    refine (FIN.out _ Bg.out).mono ?_
    rintro e wh ⟨rfl, hb⟩
    have Bh := Lib.hid hb
    clear hb
    go_wp2_with fail
    go_ret
    exact ⟨rfl, Bh.out⟩
end Go.Proofs.YtipbpecihbmneaaDoor
