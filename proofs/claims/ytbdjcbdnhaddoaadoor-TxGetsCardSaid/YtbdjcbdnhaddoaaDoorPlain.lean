/- The reference's Plain: a transaction without any Witness, with lists of its own. Condition: a bound on its weight. -/
import Derived.Test.YtbdjcbdnhaddoaaDoorLawL
import Derived.Deep.Cut
import Derived.Deep.CutRange
namespace Go.Proofs.YtbdjcbdnhaddoaaDoor
open Go.RowKit

theorem len_sum {α : Type} {f : α → Nat} {c : Nat} (l : List α) (h : ∀ x, c ≤ f x) : c * l.length ≤ (l.map f).sum := by
  induction l with
  | nil => simp
  | cons x l ih =>
    rw [List.length_cons, List.map_cons, List.sum_cons, Nat.mul_succ]
    have := h x
    omega
theorem weigh_len (t : TxD) : 41 * t.ins.length ≤ weigh t ∧ 9 * t.outs.length ≤ weigh t := by
  have h1 := len_sum (f := fun i : InD => 41 + i.s.length + (i.w.map fun x => 1 + x.length).sum) (c := 41) t.ins (fun i => by omega)
  have h2 := len_sum (f := fun o : OutD => 9 + o.s.length) (c := 9) t.outs (fun i => by omega)
  unfold weigh
  omega
theorem Each.cells {α : Type} {sz : Nat} {R : List Value → α → Prop} {cs : List Value} {l : List α} (h : Each sz R cs l) (hR : ∀ V x, R V x → ∀ u ∈ V, u.oneCell' = true) : ∀ u ∈ cs, u.oneCell' = true := by
  induction h with
  | nil => intro u hu; cases hu
  | cons _ h2 _ ih =>
    intro u hu
    rcases List.mem_append.1 hu with k | k
    · exact hR _ _ h2 u k
    · exact ih u k
theorem rows_parts {α : Type} {w : World} {P : Nat → Prop} {sz : Nat} {R : Reads α} {A : Option Addr} {n : Nat} {l : List α} (h : Rows w P sz R A n l) : ∃ cs, (0 < n → ∃ b o, A = some ⟨b, o, none⟩ ∧ w.rangeAt b o cs) ∧ Each sz (R w P) cs l := by
  by_cases hn : 0 < n
  · obtain ⟨b, o, cs, e, _, _, r, he⟩ := h.cel hn
    exact ⟨cs, fun _ => ⟨b, o, e, r⟩, he⟩
  · have : l = [] := List.eq_nil_of_length_eq_zero (by rw [h.len]; omega)
    subst this
    exact ⟨[], fun k => absurd k hn, .nil⟩
theorem outR_one {w : World} {P : Nat → Prop} : ∀ V x, OutR w P V x → ∀ u ∈ V, u.oneCell' = true := fun V x ⟨_, _, _, e, _⟩ => by rw [e]; exact outV_one _ _ _ _
section
variable {S T : TypeId} {sz by_ : Nat} {Z : Value} {w : World} {o : Oper} {a : Act} {Q : Exit → Act → World → Prop} {K : Act → World → Prop} {d : Option Tmp}
theorem wp_lit0 (E : ElemT S T sz by_ Z) (hd : o.dst = d) (ho : o.op = .buildSlice S 0 #[]) (h : K (a.put d (.slice (some ⟨w.heap.size, 0, none⟩) 0 0)) (w.alloc (.cells #[] T))) : o.wp Tryd.prog a w K Q := by
  rw [← hd] at h
  obtain ⟨i0, hi, hz0, hz1, hz2⟩ := info_parts E.info
  have key : (Instr.buildSlice S 0 #[]).run Tryd.prog w = .ok (.slice (some ⟨w.heap.size, 0, none⟩) 0 0) (w.alloc (.cells #[] T)) := by
    simp [Instr.buildSlice, run_underlying E.und, sizeOf, typeInfo, hi, newRow, Instr.fill, Array.range_zero']
  unfold Oper.wp execOp
  simp only [ho, Sem.run_bind]
  rw [show (#[].map fun (x : Nat × Operand) => match x with | (i, x) => (i, a.eval x)) = (#[] : Array (Nat × Value)) by simp, key]
  exact h
end
theorem OwnRw.farR {α : Type} {T : TypeId} {sz : Nat} {R : Reads α} {w0 wr w1 : World} {P : Nat → Prop} {v : Value} {n : Nat} {l : List α} {row : Option Nat} (M : Mono R) (h : OwnRw T sz R w0 P v n l wr) (g : wr.grownBy w1 row) (hb : ∀ b, row = some b → w0.heap.size ≤ b) (hP : ∀ x, P x → some x ≠ row) (hv : ∀ k, v.ownBlock = some k → some k ≠ row) : OwnRw T sz R w0 P v n l w1 := by
  obtain ⟨cs, h1, h2, h3⟩ := h.row
  exact ⟨⟨cs, ownsRow_far h1 g hv, h2.imp fun V x hx => M.keep hx (Kept.of_grown g fun k hk => hP k hk.1), h3⟩, h.len, h.bel.grown g h.bel.size hb⟩
theorem OwnRw.farP {α : Type} {T : TypeId} {sz : Nat} {R : Reads α} {w0 wr w1 : World} {P : Nat → Prop} {v : Value} {n : Nat} {l : List α} {b : Nat} (M : Mono R) (h : OwnRw T sz R w0 P v n l wr) (g : wr.grownBy w1 (some b)) (hb : w0.heap.size ≤ b) (hP : ∀ x, P x → x ≠ b) (hv : some b ≠ v.ownBlock) : OwnRw T sz R w0 P v n l w1 :=
  h.farR M g (fun c e => by injection e; omega) (fun x hx e => hP x hx (by injection e)) (fun k hk e => hv (by rw [← e]; exact hk.symm))
theorem buildPl (v k : Nat) (A : Option Addr) (n c : Nat) (w : World) : (Instr.build 26 #[(0, .int .u32 (v : Int)), (3, .int .u32 (k : Int)), (2, .slice A n c)]).run Tryd.prog w = .ok (.agg (txV v none 0 0 A n c k).toArray) w := by kernel_rfl
/-- How the answer lies, its inputs still missing. -/
structure PlA (t : TxD) (no q : Nat) (w1 wx : World) (b : Nat) (A : Option Addr) (c : Nat) : Prop where
  nc : no ≤ c
  lo : w1.heap.size ≤ b
  r : Ro wx b 26 (txV t.ver none 0 0 A no c t.lock)
  o : OwnRw 46 2 OutR w1 (fun b => b < q) (.slice A no c) no t.outs wx
  ne : some b ≠ Value.ownBlock (.slice A no c)
/-- How the answer lies while its inputs are made. -/
structure PlB (t : TxD) (ver lock no q : Nat) (w1 wr : World) (b3 : Nat) (Ao : Option Addr) (co n3 k : Nat) (A : Option Addr) (c : Nat) : Prop where
  nc : k ≤ c
  r : Ro wr b3 26 (txV ver A k c Ao no co lock)
  o : OwnRw 56 36 InR w1 (fun b => b < q) (.slice A k c) k ((t.ins.take k).map fun i => withW i []) wr
  hi : ∀ j, Value.ownBlock (.slice A k c) = some j → n3 ≤ j
  x : OwnRw 46 2 OutR w1 (fun b => b < q) (.slice Ao no co) no t.outs wr
  le : n3 ≤ wr.heap.size
section
variable {t : TxD} {ver lock no q : Nat} {w1 wr w2 : World} {b3 : Nat} {Ao : Option Addr} {co n3 k : Nat} {A : Option Addr} {c : Nat}
theorem PlB.later (h : PlB t ver lock no q w1 wr b3 Ao co n3 k A c) (g : Below wr.heap.size wr w2) : PlB t ver lock no q w1 w2 b3 Ao co n3 k A c :=
  ⟨h.nc, h.r.later g, h.o.later inR_mono g, h.hi, h.x.later outR_mono g, Nat.le_trans h.le g.size⟩
/-- Behind a store into a box made since, that is not the row of inputs. -/
theorem PlB.far {x : Nat} (h : PlB t ver lock no q w1 wr b3 Ao co n3 k A c) (g : wr.grownBy w2 (some x)) (hb : b3 < n3) (hw : w1.heap.size ≤ n3) (hq : q ≤ w1.heap.size) (hx : n3 ≤ x) (ho : some x ≠ Value.ownBlock (.slice A k c)) (hl : ∀ j, Value.ownBlock (.slice Ao no co) = some j → j < n3) : PlB t ver lock no q w1 w2 b3 Ao co n3 k A c :=
  ⟨h.nc, h.r.far g (fun e => by injection e; omega), h.o.farP inR_mono g (by omega) (fun y hy e => by omega) ho, h.hi, h.x.farP outR_mono g (by omega) (fun y hy e => by omega) (fun e => by have := hl x e.symm; omega), Nat.le_trans h.le g.size⟩
end

set_option maxRecDepth 100000 in
set_option maxHeartbeats 8000000 in
theorem refPlain_gen {t : TxD} {lo : Nat} {Ai : Option Addr} {ni ci : Nat} {Ao : Option Addr} {no co : Nat} (w : World) (hw : weigh t ≤ 100000000) (hlo : lo ≤ w.heap.size) (hT : TxG w (fun b => b < lo) t Ai ni ci Ao no co) :
    Calls Tryd.prog 27 #[.agg (txV t.ver Ai ni ci Ao no co t.lock).toArray] w fun e w' => ∃ Bi mi di Bo mo do_, e = .returned (.agg (txV t.ver Bi mi di Bo mo do_ t.lock).toArray) ∧ TxG w' (fun b => b < lo ∨ w.heap.size ≤ b) (plain t) Bi mi di Bo mo do_ ∧ Below w.heap.size w w' := by
  have z0 := zeroTx
  have z1 := zeroIn
  have ver := hT.ver
  have lck := hT.lock
  have WL := weigh_len t
  have NI := Lib.hid hT.ins.len
  have NO := Lib.hid hT.outs.len
  have hni : ni ≤ 3000000 := by have := NI.out; omega
  have hno : no ≤ 20000000 := by have := NO.out; omega
  have b1 := (Below.refl w.heap.size w).alloc (Nat.le_refl _) (.cells (txV t.ver Ai ni ci Ao no co t.lock).toArray 26)
  have b2 := b1.alloc b1.size (.cells zTx.toArray 26)
  have r1 := (Ro.new w 26 (txV t.ver Ai ni ci Ao no co t.lock)).alloc (.cells zTx.toArray 26)
  have r2 := Ro.new (w.alloc (.cells (txV t.ver Ai ni ci Ao no co t.lock).toArray 26)) 26 zTx
  rw [World.size_alloc] at r2
  have HI := Lib.hid (hT.ins.later inR_mono b2)
  have HO := Lib.hid (hT.outs.later outR_mono b2)
  have hni2 := hT.i2
  obtain ⟨w1, hw1⟩ : ∃ wa, (w.alloc (.cells (txV t.ver Ai ni ci Ao no co t.lock).toArray 26)).alloc (.cells zTx.toArray 26) = wa := ⟨_, rfl⟩
  rw [hw1] at b2 r1 r2 HI HO
  obtain ⟨q, hq⟩ : ∃ q, w.heap.size = q := ⟨_, rfl⟩
  have hq1 : q < w1.heap.size := by rw [← hq]; have := r2.lt; omega
  have B1 := Lib.hid b2
  rw [hq] at hlo B1 r1 r2 ⊢
  have R1 := Lib.hid r1
  have R2 := Lib.hid r2
  have HW1 := Lib.hid hw1
  clear b1 b2 r1 r2 hT hw WL
  obtain ⟨ver_, hver⟩ : ∃ v, t.ver = v := ⟨_, rfl⟩
  obtain ⟨lock_, hlock⟩ : ∃ v, t.lock = v := ⟨_, rfl⟩
  have HV := Lib.hid hver
  have HL := Lib.hid hlock
  rw [hver, hlock] at R1 HW1
  rw [hver, hlock]
  have HQ := Lib.hid hq
  clear hver hlock hw1 hq
  go_enter Tryd.func27, Tryd.ntmps27
  go_upto_region 1 with fail
  rw [HW1.out, HQ.out]
  go_cut [3] from 6 to 14 (fun v wx => ∃ b A c, v = .pointer (some ⟨b, 0, none⟩) ∧ PlA t no lo w1 wx b A c)
  case first =>
    refine wp_region_seg (W := w1) (by kernel_rfl) fun wa ga => ?_
    have GA := Lib.hid (show Below w1.heap.size w1 wa from ga)
    have BP := buildPl
    refine wpK_seg 0 4 (f := 7) (by kernel_rfl) (fun _ _ _ _ _ h => h) (by kernel_rfl) (by kernel_rfl) (by kernel_rfl) ga ?_
    apply Exists.intro
    refine ⟨?_, ?_⟩
    · intro wg hg
      simp only [List.drop_succ_cons, List.drop_zero, List.take_succ_cons, List.take_zero]
      have c0 : ∀ u : After wg, u.w.cell? ⟨q, 0, none⟩ = some (.int .u32 (ver_ : Int)) := fun u => u.cell (cell_later hg (R1.out.cell (k := 0) rfl))
      have c3 : ∀ u : After wg, u.w.cell? ⟨q, 3, none⟩ = some (.int .u32 (lock_ : Int)) := fun u => u.cell (cell_later hg (R1.out.cell (k := 3) rfl))
      repeat (go_big_quiet_step (fail))
      refine wpQuiet_nil ?_
      exact rfl
    refine wpK_seg 5 2 (f := 5) (by kernel_rfl) (fun _ _ _ _ _ h => h) (by kernel_rfl) (by kernel_rfl) (by kernel_rfl) ga ?_
    apply Exists.intro
    refine ⟨?_, ?_⟩
    · intro wg hg
      simp only [List.drop_succ_cons, List.drop_zero, List.take_succ_cons, List.take_zero]
      have c2 : ∀ u : After wg, u.w.cell? ⟨q, 2, none⟩ = some (.slice Ao no co) := fun u => u.cell (cell_later hg (R1.out.cell (k := 2) rfl))
      repeat (go_big_quiet_step (fail))
      refine wpQuiet_nil ?_
      exact rfl
    clear ga
    refine wpK_two (f := 4) (i := 4) (k := 9) (by kernel_rfl) rfl rfl rfl rfl ?_ ?_
    · intro wx1 gx2 K hK
      have Gwx1 := Lib.hid (GA.out.trans (gx2.mono GA.out.size))
      clear gx2
      refine wp_lit0 elemO (d := some 10) rfl rfl ?_
      simp only [Act.put, List.setIfInBounds_toArray, List.set_cons_succ, List.set_cons_zero]
      have Owy3 := Lib.hid (OwnRw.made (T := 46) (sz := 2) (R := OutR) (P := fun b => b < lo) (w0 := w1) Gwx1.out)
      have Gwy3 := Lib.hid (Gwx1.out.alloc Gwx1.out.size (.cells #[] 46))
      refine hK _ _ Gwy3.out ?_
      clear hK K
      refine wpK_two (f := 3) (i := 7) (k := 9) (by kernel_rfl) rfl rfl rfl rfl ?_ ?_
      · intro wx4 gx5 K hK
        have Gwx4 := Lib.hid (Gwy3.out.trans (gx5.mono Gwy3.out.size))
        have Owx4 := Lib.hid (Owy3.out.later outR_mono gx5)
        clear gx5
        obtain ⟨cs, hcs, he⟩ := rows_parts (HO.out.later outR_mono Gwx4.out)
        have he2 := he.imp (S := OutR wx4 (fun b => b < lo ∧ some b ≠ Value.ownBlock (.slice (some ⟨wx1.heap.size, 0, none⟩) 0 0) ∧ b < wx4.heap.size)) (fun V x hx => outR_mono.weak hx (fun b hb hl => ⟨hb, fun e => by have := (Owx4.out.new b e.symm).1; omega, hl⟩))
        refine wp_appRw elemO outR_mono (d := some 13) rfl (.tmp 10) (.tmp 12) rfl rfl Owx4.out rfl NO.out hcs he2 (he.cells outR_one) (Nat.zero_add no) (by omega) (by omega) ?_
        intro A2 c2 wy6 hc2 O2 g2 n2
        simp only [Act.put, List.setIfInBounds_toArray, List.set_cons_succ, List.set_cons_zero]
        have Gwy6 := Lib.hid (Gwx4.out.grown g2 Gwx4.out.size (fun b e => (Owx4.out.new b e).1))
        rw [List.nil_append] at O2
        have Owy6 := Lib.hid O2
        have HC := Lib.hid hc2
        clear O2 g2 n2 hc2 he he2 hcs
        refine hK _ _ Gwy6.out ?_
        clear hK K
        refine wpK_two (f := 2) (i := 8) (k := 9) (by kernel_rfl) rfl rfl rfl rfl ?_ ?_
        · intro wx7 gx8 K hK
          have Gwx7 := Lib.hid (Gwy6.out.trans (gx8.mono Gwy6.out.size))
          have Owx7 := Lib.hid (Owy6.out.later outR_mono gx8)
          clear gx8
          refine wp_buildR (d := some 14) rfl 26 #[(0, .tmp 7), (3, .tmp 9), (2, .tmp 13)] rfl (us := #[(0, .int .u32 (ver_ : Int)), (3, .int .u32 (lock_ : Int)), (2, .slice A2 no c2)]) (by simp [go_sem]) (BP _ _ _ _ _ _) ?_
          simp only [Act.put, List.setIfInBounds_toArray, List.set_cons_succ, List.set_cons_zero]
          refine hK _ _ Gwx7.out ?_
          clear hK K
          refine wpK_one (f := 1) (i := 9) (by kernel_rfl) rfl rfl ?_
          intro wx10 gx11 K hK
          have Gwx10 := Lib.hid (Gwx7.out.trans (gx11.mono Gwx7.out.size))
          have Owx10 := Lib.hid (Owx7.out.later outR_mono gx11)
          clear gx11
          go_simp
          have Gwy12 := Lib.hid (Gwx10.out.alloc Gwx10.out.size (.cells zTx.toArray 26))
          have Xwy12 := Lib.hid (Ro.new wx10 26 zTx)
          have Owy12 := Lib.hid (Owx10.out.later outR_mono ((Below.refl wx10.heap.size wx10).alloc (Nat.le_refl _) (.cells zTx.toArray 26)))
          have Nwy12 : Hid (some wx10.heap.size ≠ Value.ownBlock (.slice A2 no c2)) := Lib.hid (fun e => by have := (Owx10.out.new _ e.symm).2; omega)
          have LOwy12 : Hid (w1.heap.size ≤ wx10.heap.size) := Lib.hid Gwx10.out.size
          refine hK _ _ Gwy12.out ?_
          clear hK K
          refine wpK_one (f := 0) (i := 10) (by kernel_rfl) rfl rfl ?_
          intro wx13 gx14 K hK
          have Gwx13 := Lib.hid (Gwy12.out.trans (gx14.mono Gwy12.out.size))
          have Owx13 := Lib.hid (Owy12.out.later outR_mono gx14)
          have Xwx13 := Lib.hid (Xwy12.out.later gx14)
          clear gx14
          refine wp_store_ro (.tmp 3) (.tmp 14) rfl rfl (vs := txV ver_ none 0 0 A2 no c2 lock_) rfl rowTx Xwx13.out rfl rfl (txV_one _ _ _ _ _ _ _ _) ?_
          intro wy15 R2' g2'
          have Gwy15 := Lib.hid (Gwx13.out.grown g2' Gwx13.out.size (fun b e => by injection e with e; have := LOwy12.out; omega))
          have Owy15 := Lib.hid (Owx13.out.farP outR_mono g2' LOwy12.out (fun x hx e => by have := LOwy12.out; omega) Nwy12.out)
          have Xwy15 := Lib.hid R2'
          have LO := LOwy12
          clear R2' g2' 
          refine hK _ _ Gwy15.out ?_
          clear hK K
          refine wpK_end (by kernel_rfl) fun w7 g7 => ?_
          have O7 := Lib.hid (Owy15.out.later outR_mono g7)
          have X7 := Lib.hid (Xwy15.out.later g7)
          clear g7
          go_wp2_with fail
          go_meet
          exact ⟨_, A2, c2, rfl, ⟨HC.out, LO.out, by rw [HV.out, HL.out]; exact X7.out, O7.out, Nwy12.out⟩⟩
        · intro wx16 gx17 K hK
          have Gwx16 := Lib.hid (Gwy6.out.trans (gx17.mono Gwy6.out.size))
          have Owx16 := Lib.hid (Owy6.out.later outR_mono gx17)
          clear gx17
          go_simp
          have Gwy18 := Lib.hid (Gwx16.out.alloc Gwx16.out.size (.cells zTx.toArray 26))
          have Xwy18 := Lib.hid (Ro.new wx16 26 zTx)
          have Owy18 := Lib.hid (Owx16.out.later outR_mono ((Below.refl wx16.heap.size wx16).alloc (Nat.le_refl _) (.cells zTx.toArray 26)))
          have Nwy18 : Hid (some wx16.heap.size ≠ Value.ownBlock (.slice A2 no c2)) := Lib.hid (fun e => by have := (Owx16.out.new _ e.symm).2; omega)
          have LOwy18 : Hid (w1.heap.size ≤ wx16.heap.size) := Lib.hid Gwx16.out.size
          refine hK _ _ Gwy18.out ?_
          clear hK K
          refine wpK_one (f := 1) (i := 8) (by kernel_rfl) rfl rfl ?_
          intro wx19 gx20 K hK
          have Gwx19 := Lib.hid (Gwy18.out.trans (gx20.mono Gwy18.out.size))
          have Owx19 := Lib.hid (Owy18.out.later outR_mono gx20)
          have Xwx19 := Lib.hid (Xwy18.out.later gx20)
          clear gx20
          refine wp_buildR (d := some 14) rfl 26 #[(0, .tmp 7), (3, .tmp 9), (2, .tmp 13)] rfl (us := #[(0, .int .u32 (ver_ : Int)), (3, .int .u32 (lock_ : Int)), (2, .slice A2 no c2)]) (by simp [go_sem]) (BP _ _ _ _ _ _) ?_
          simp only [Act.put, List.setIfInBounds_toArray, List.set_cons_succ, List.set_cons_zero]
          refine hK _ _ Gwx19.out ?_
          clear hK K
          refine wpK_one (f := 0) (i := 10) (by kernel_rfl) rfl rfl ?_
          intro wx22 gx23 K hK
          have Gwx22 := Lib.hid (Gwx19.out.trans (gx23.mono Gwx19.out.size))
          have Owx22 := Lib.hid (Owx19.out.later outR_mono gx23)
          have Xwx22 := Lib.hid (Xwx19.out.later gx23)
          clear gx23
          refine wp_store_ro (.tmp 3) (.tmp 14) rfl rfl (vs := txV ver_ none 0 0 A2 no c2 lock_) rfl rowTx Xwx22.out rfl rfl (txV_one _ _ _ _ _ _ _ _) ?_
          intro wy24 R2' g2'
          have Gwy24 := Lib.hid (Gwx22.out.grown g2' Gwx22.out.size (fun b e => by injection e with e; have := LOwy18.out; omega))
          have Owy24 := Lib.hid (Owx22.out.farP outR_mono g2' LOwy18.out (fun x hx e => by have := LOwy18.out; omega) Nwy18.out)
          have Xwy24 := Lib.hid R2'
          have LO := LOwy18
          clear R2' g2' 
          refine hK _ _ Gwy24.out ?_
          clear hK K
          refine wpK_end (by kernel_rfl) fun w7 g7 => ?_
          have O7 := Lib.hid (Owy24.out.later outR_mono g7)
          have X7 := Lib.hid (Xwy24.out.later g7)
          clear g7
          go_wp2_with fail
          go_meet
          exact ⟨_, A2, c2, rfl, ⟨HC.out, LO.out, by rw [HV.out, HL.out]; exact X7.out, O7.out, Nwy18.out⟩⟩
      · intro wx25 gx26 K hK
        have Gwx25 := Lib.hid (Gwy3.out.trans (gx26.mono Gwy3.out.size))
        have Owx25 := Lib.hid (Owy3.out.later outR_mono gx26)
        clear gx26
        go_simp
        have Gwy27 := Lib.hid (Gwx25.out.alloc Gwx25.out.size (.cells zTx.toArray 26))
        have Xwy27 := Lib.hid (Ro.new wx25 26 zTx)
        have Owy27 := Lib.hid (Owx25.out.later outR_mono ((Below.refl wx25.heap.size wx25).alloc (Nat.le_refl _) (.cells zTx.toArray 26)))
        have Nwy27 : Hid (some wx25.heap.size ≠ Value.ownBlock (.slice (some ⟨wx1.heap.size, 0, none⟩) 0 0)) := Lib.hid (fun e => by have := (Owx25.out.new _ e.symm).2; omega)
        have LOwy27 : Hid (w1.heap.size ≤ wx25.heap.size) := Lib.hid Gwx25.out.size
        refine hK _ _ Gwy27.out ?_
        clear hK K
        refine wpK_one (f := 2) (i := 7) (by kernel_rfl) rfl rfl ?_
        intro wx28 gx29 K hK
        have Gwx28 := Lib.hid (Gwy27.out.trans (gx29.mono Gwy27.out.size))
        have Owx28 := Lib.hid (Owy27.out.later outR_mono gx29)
        have Xwx28 := Lib.hid (Xwy27.out.later gx29)
        clear gx29
        obtain ⟨cs, hcs, he⟩ := rows_parts (HO.out.later outR_mono Gwx28.out)
        have he2 := he.imp (S := OutR wx28 (fun b => b < lo ∧ some b ≠ Value.ownBlock (.slice (some ⟨wx1.heap.size, 0, none⟩) 0 0) ∧ b < wx28.heap.size)) (fun V x hx => outR_mono.weak hx (fun b hb hl => ⟨hb, fun e => by have := (Owx28.out.new b e.symm).1; omega, hl⟩))
        refine wp_appRw elemO outR_mono (d := some 13) rfl (.tmp 10) (.tmp 12) rfl rfl Owx28.out rfl NO.out hcs he2 (he.cells outR_one) (Nat.zero_add no) (by omega) (by omega) ?_
        intro A2 c2 wy30 hc2 O2 g2 n2
        simp only [Act.put, List.setIfInBounds_toArray, List.set_cons_succ, List.set_cons_zero]
        have Gwy30 := Lib.hid (Gwx28.out.grown g2 Gwx28.out.size (fun b e => (Owx28.out.new b e).1))
        rw [List.nil_append] at O2
        have Owy30 := Lib.hid O2
        have HC := Lib.hid hc2
        have Xwy30 := Lib.hid (Xwx28.out.far g2 Nwy27.out)
        have Nwy30 : Hid (some wx25.heap.size ≠ Value.ownBlock (.slice A2 no c2)) := Lib.hid (fun e => by
          rcases n2 with n2 | n2
          · exact Nwy27.out (e.trans n2)
          · have := Xwx28.out.lt
            rw [n2] at e
            injection e with e
            omega)
        clear O2 g2 n2 hc2 he he2 hcs
        refine hK _ _ Gwy30.out ?_
        clear hK K
        refine wpK_one (f := 1) (i := 8) (by kernel_rfl) rfl rfl ?_
        intro wx31 gx32 K hK
        have Gwx31 := Lib.hid (Gwy30.out.trans (gx32.mono Gwy30.out.size))
        have Owx31 := Lib.hid (Owy30.out.later outR_mono gx32)
        have Xwx31 := Lib.hid (Xwy30.out.later gx32)
        clear gx32
        refine wp_buildR (d := some 14) rfl 26 #[(0, .tmp 7), (3, .tmp 9), (2, .tmp 13)] rfl (us := #[(0, .int .u32 (ver_ : Int)), (3, .int .u32 (lock_ : Int)), (2, .slice A2 no c2)]) (by simp [go_sem]) (BP _ _ _ _ _ _) ?_
        simp only [Act.put, List.setIfInBounds_toArray, List.set_cons_succ, List.set_cons_zero]
        refine hK _ _ Gwx31.out ?_
        clear hK K
        refine wpK_one (f := 0) (i := 10) (by kernel_rfl) rfl rfl ?_
        intro wx34 gx35 K hK
        have Gwx34 := Lib.hid (Gwx31.out.trans (gx35.mono Gwx31.out.size))
        have Owx34 := Lib.hid (Owx31.out.later outR_mono gx35)
        have Xwx34 := Lib.hid (Xwx31.out.later gx35)
        clear gx35
        refine wp_store_ro (.tmp 3) (.tmp 14) rfl rfl (vs := txV ver_ none 0 0 A2 no c2 lock_) rfl rowTx Xwx34.out rfl rfl (txV_one _ _ _ _ _ _ _ _) ?_
        intro wy36 R2' g2'
        have Gwy36 := Lib.hid (Gwx34.out.grown g2' Gwx34.out.size (fun b e => by injection e with e; have := LOwy27.out; omega))
        have Owy36 := Lib.hid (Owx34.out.farP outR_mono g2' LOwy27.out (fun x hx e => by have := LOwy27.out; omega) Nwy30.out)
        have Xwy36 := Lib.hid R2'
        have LO := LOwy27
        clear R2' g2' 
        refine hK _ _ Gwy36.out ?_
        clear hK K
        refine wpK_end (by kernel_rfl) fun w7 g7 => ?_
        have O7 := Lib.hid (Owy36.out.later outR_mono g7)
        have X7 := Lib.hid (Xwy36.out.later g7)
        clear g7
        go_wp2_with fail
        go_meet
        exact ⟨_, A2, c2, rfl, ⟨HC.out, LO.out, by rw [HV.out, HL.out]; exact X7.out, O7.out, Nwy30.out⟩⟩
    · intro wx37 gx38 K hK
      have Gwx37 := Lib.hid (GA.out.trans (gx38.mono GA.out.size))
      clear gx38
      go_simp
      have Gwy39 := Lib.hid (Gwx37.out.alloc Gwx37.out.size (.cells zTx.toArray 26))
      have Xwy39 := Lib.hid (Ro.new wx37 26 zTx)
      have LOwy39 : Hid (w1.heap.size ≤ wx37.heap.size) := Lib.hid Gwx37.out.size
      refine hK _ _ Gwy39.out ?_
      clear hK K
      refine wpK_one (f := 3) (i := 4) (by kernel_rfl) rfl rfl ?_
      intro wx40 gx41 K hK
      have Gwx40 := Lib.hid (Gwy39.out.trans (gx41.mono Gwy39.out.size))
      have Xwx40 := Lib.hid (Xwy39.out.later gx41)
      clear gx41
      refine wp_lit0 elemO (d := some 10) rfl rfl ?_
      simp only [Act.put, List.setIfInBounds_toArray, List.set_cons_succ, List.set_cons_zero]
      have Owy42 := Lib.hid (OwnRw.made (T := 46) (sz := 2) (R := OutR) (P := fun b => b < lo) (w0 := w1) Gwx40.out)
      have Gwy42 := Lib.hid (Gwx40.out.alloc Gwx40.out.size (.cells #[] 46))
      have Xwy42 := Lib.hid (Xwx40.out.alloc (.cells #[] 46))
      have Nwy42 : Hid (some wx37.heap.size ≠ Value.ownBlock (.slice (some ⟨wx40.heap.size, 0, none⟩) 0 0)) := Lib.hid (fun e => by have := Xwx40.out.lt; injection e with e; dsimp only at e; omega)
      refine hK _ _ Gwy42.out ?_
      clear hK K
      refine wpK_one (f := 2) (i := 7) (by kernel_rfl) rfl rfl ?_
      intro wx43 gx44 K hK
      have Gwx43 := Lib.hid (Gwy42.out.trans (gx44.mono Gwy42.out.size))
      have Owx43 := Lib.hid (Owy42.out.later outR_mono gx44)
      have Xwx43 := Lib.hid (Xwy42.out.later gx44)
      clear gx44
      obtain ⟨cs, hcs, he⟩ := rows_parts (HO.out.later outR_mono Gwx43.out)
      have he2 := he.imp (S := OutR wx43 (fun b => b < lo ∧ some b ≠ Value.ownBlock (.slice (some ⟨wx40.heap.size, 0, none⟩) 0 0) ∧ b < wx43.heap.size)) (fun V x hx => outR_mono.weak hx (fun b hb hl => ⟨hb, fun e => by have := (Owx43.out.new b e.symm).1; omega, hl⟩))
      refine wp_appRw elemO outR_mono (d := some 13) rfl (.tmp 10) (.tmp 12) rfl rfl Owx43.out rfl NO.out hcs he2 (he.cells outR_one) (Nat.zero_add no) (by omega) (by omega) ?_
      intro A2 c2 wy45 hc2 O2 g2 n2
      simp only [Act.put, List.setIfInBounds_toArray, List.set_cons_succ, List.set_cons_zero]
      have Gwy45 := Lib.hid (Gwx43.out.grown g2 Gwx43.out.size (fun b e => (Owx43.out.new b e).1))
      rw [List.nil_append] at O2
      have Owy45 := Lib.hid O2
      have HC := Lib.hid hc2
      have Xwy45 := Lib.hid (Xwx43.out.far g2 Nwy42.out)
      have Nwy45 : Hid (some wx37.heap.size ≠ Value.ownBlock (.slice A2 no c2)) := Lib.hid (fun e => by
        rcases n2 with n2 | n2
        · exact Nwy42.out (e.trans n2)
        · have := Xwx43.out.lt
          rw [n2] at e
          injection e with e
          omega)
      clear O2 g2 n2 hc2 he he2 hcs
      refine hK _ _ Gwy45.out ?_
      clear hK K
      refine wpK_one (f := 1) (i := 8) (by kernel_rfl) rfl rfl ?_
      intro wx46 gx47 K hK
      have Gwx46 := Lib.hid (Gwy45.out.trans (gx47.mono Gwy45.out.size))
      have Owx46 := Lib.hid (Owy45.out.later outR_mono gx47)
      have Xwx46 := Lib.hid (Xwy45.out.later gx47)
      clear gx47
      refine wp_buildR (d := some 14) rfl 26 #[(0, .tmp 7), (3, .tmp 9), (2, .tmp 13)] rfl (us := #[(0, .int .u32 (ver_ : Int)), (3, .int .u32 (lock_ : Int)), (2, .slice A2 no c2)]) (by simp [go_sem]) (BP _ _ _ _ _ _) ?_
      simp only [Act.put, List.setIfInBounds_toArray, List.set_cons_succ, List.set_cons_zero]
      refine hK _ _ Gwx46.out ?_
      clear hK K
      refine wpK_one (f := 0) (i := 10) (by kernel_rfl) rfl rfl ?_
      intro wx49 gx50 K hK
      have Gwx49 := Lib.hid (Gwx46.out.trans (gx50.mono Gwx46.out.size))
      have Owx49 := Lib.hid (Owx46.out.later outR_mono gx50)
      have Xwx49 := Lib.hid (Xwx46.out.later gx50)
      clear gx50
      refine wp_store_ro (.tmp 3) (.tmp 14) rfl rfl (vs := txV ver_ none 0 0 A2 no c2 lock_) rfl rowTx Xwx49.out rfl rfl (txV_one _ _ _ _ _ _ _ _) ?_
      intro wy51 R2' g2'
      have Gwy51 := Lib.hid (Gwx49.out.grown g2' Gwx49.out.size (fun b e => by injection e with e; have := LOwy39.out; omega))
      have Owy51 := Lib.hid (Owx49.out.farP outR_mono g2' LOwy39.out (fun x hx e => by have := LOwy39.out; omega) Nwy45.out)
      have Xwy51 := Lib.hid R2'
      have LO := LOwy39
      clear R2' g2' 
      refine hK _ _ Gwy51.out ?_
      clear hK K
      refine wpK_end (by kernel_rfl) fun w7 g7 => ?_
      have O7 := Lib.hid (Owy51.out.later outR_mono g7)
      have X7 := Lib.hid (Xwy51.out.later g7)
      clear g7
      go_wp2_with fail
      go_meet
      exact ⟨_, A2, c2, rfl, ⟨HC.out, LO.out, by rw [HV.out, HL.out]; exact X7.out, O7.out, Nwy45.out⟩⟩
  case rest =>
    obtain ⟨b3, Ao2, co2, rfl, PA⟩ := hcut
    obtain ⟨n3, hn3⟩ : ∃ n3, wc.heap.size = n3 := ⟨_, rfl⟩
    have HN3 := Lib.hid hn3
    have lb3 : w1.heap.size ≤ b3 := PA.lo
    have b3n : b3 < n3 := by rw [← hn3]; exact PA.r.lt
    have n3w : w1.heap.size ≤ n3 := by omega
    have XL : Hid (∀ j, Value.ownBlock (.slice Ao2 no co2) = some j → j < n3) := Lib.hid (fun j hj => by rw [← hn3]; exact (PA.o.new j hj).2)
    have NE3 := Lib.hid PA.ne
    have NC := Lib.hid PA.nc
    have PR := PA.r
    rw [HV.out, HL.out] at PR
    have PB0 : Hid (PlB t ver_ lock_ no lo w1 wc b3 Ao2 co2 n3 0 none 0) := Lib.hid ⟨Nat.le_refl _, PR, OwnRw.none_ PA.o.bel, fun j h => (by cases h), PA.o, by rw [hn3]; exact Nat.le_refl _⟩
    clear PA PR hn3
    go_wp2_with fail
    go_loopw [4] (fun i wr => ∃ (k : Nat) (A : Option Addr) (c : Nat), k ≤ ni ∧ i = .int .i64 (k : Nat) ∧ PlB t ver_ lock_ no lo w1 wr b3 Ao2 co2 n3 k A c) (fun i _ => ni - (intOf i).toNat)
    case atStart => exact ⟨0, none, 0, Nat.zero_le _, rfl, PB0.out⟩
    case round =>
      clear PB0
      obtain ⟨k, A, c, hk, rfl, PB⟩ := hrel
      have I := Lib.hid PB
      have BW : Hid (Below w1.heap.size w1 wr) := Lib.hid PB.o.bel
      clear PB
      have c1 := (R1.out.later BW.out).cell (k := 1) (v := .slice Ai ni ci) rfl
      by_cases hlt : k < ni
      · have t1 : decide ((k : Int) < (ni : Int)) = true := decide_eq_true (by omega)
        obtain ⟨i, hi, htk, him⟩ := getL NI.out hlt
        obtain ⟨bi, oi, _, rfl, _⟩ := HI.out.cel (by omega)
        have ad1 := add_at bi oi
        obtain ⟨hb1, V1, hV1, hr1, hR1⟩ := (HI.out.later inR_mono BW.out).nth hi
        obtain ⟨As, ns, cs, Aw, nw, cw, rfl, hS⟩ := hR1
        have Rr := Lib.hid hr1
        have HS := Lib.hid hS
        have W1 := Lib.hid hV1
        have HT := Lib.hid htk
        clear hi htk him hV1 hr1 hb1 hS
        go_upto_region 6 with (first | (refine wpList_load_part rfl (.tmp 25) rfl rfl rowIn Rr.out W1.out ?_) | (refine wpList_store_ro rfl (.tmp 5) (.tmp 26) rfl rfl rfl rowIn (Ro.new wr 56 zIn) zIn_len W1.out (inV_one _ _ _ _ _ _ _ _ _) ?_))
        intro w5 R5 g5
        have b5 := box_store g5
        have I5 := Lib.hid (I.out.later b5)
        have S5 := Lib.hid (HS.out.keep (Kept.of_below b5))
        obtain ⟨x, hx⟩ : ∃ x, wr.heap.size = x := ⟨_, rfl⟩
        have nx : n3 ≤ x := by rw [← hx]; exact I.out.le
        have ox : Hid (∀ j, Value.ownBlock (.slice A k c) = some j → j < x) := Lib.hid (fun j hj => by rw [← hx]; exact (I.out.o.new j hj).2)
        rw [hx] at R5 ⊢
        have HR5 := Lib.hid R5
        clear R5 g5 b5 I HS Rr c1 hx
        have G6 := gr_set w5 x 35 (.slice none 0 0)
        have c35 := HR5.out.cell (inV_get S5.out.ok.h _ _ _ _ _ _ _ _ 3)
        have f35 := HR5.out.free 35
        go_upto_region 7 with fail
        have nex : some x ≠ Value.ownBlock (.slice A k c) := fun e => by have := ox.out x e.symm; omega
        have I6 := Lib.hid (I5.out.far G6 b3n n3w (by omega) nx nex XL.out)
        have S6 := Lib.hid (S5.out.keep (Kept.of_grown G6 fun b hb e => by injection e; omega))
        have r6 := HR5.out.set 35 (.slice none 0 0)
        rw [inV_set_w S5.out.ok.h] at r6
        obtain ⟨w6, hw6⟩ : ∃ w6, w5.setCell ⟨x, 35, none⟩ (.slice none 0 0) = w6 := ⟨_, rfl⟩
        rw [hw6] at I6 S6 r6 ⊢
        have R6 := Lib.hid r6
        have hl := Lib.hid (inV_len S6.out.ok.h i.n As ns cs i.q none 0 0)
        have b7 := (Below.refl w6.heap.size w6).alloc (Nat.le_refl _) (.cells (inV i.h i.n As ns cs i.q none 0 0).toArray 56)
        have I7 := Lib.hid (I6.out.later b7)
        have RW := Lib.hid (Ro.new w6 56 (inV i.h i.n As ns cs i.q none 0 0)).whole
        have S7 := S6.out.weak (Q := fun b => b < lo ∧ some b ≠ Value.ownBlock (.slice A k c) ∧ b < (w6.alloc (.cells (inV i.h i.n As ns cs i.q none 0 0).toArray 56)).heap.size) (fun b hb hl => ⟨hb, fun e => by have := I6.out.hi b e.symm; omega, by rw [World.size_alloc]; omega⟩)
        have S8 := S7.keep (Kept.of_below b7)
        have EL : Hid (Each 36 (InR (w6.alloc (.cells (inV i.h i.n As ns cs i.q none 0 0).toArray 56)) fun b => b < lo ∧ some b ≠ Value.ownBlock (.slice A k c) ∧ b < (w6.alloc (.cells (inV i.h i.n As ns cs i.q none 0 0).toArray 56)).heap.size) (inV i.h i.n As ns cs i.q none 0 0) [withW i []]) :=
          Lib.hid (Each.one hl.out ⟨As, ns, cs, none, 0, 0, rfl, ⟨⟨S8.ok.h, S8.ok.hb, S8.ok.n, S8.ok.s, S8.ok.q, fun x hx => by cases hx⟩, S8.s1, S8.s2, S8.s, Nat.le_refl _, by decide, Rows.nil _ _ _ _ _⟩⟩)
        have c6 := I6.out.r.cell (k := 1) (v := .slice A k c) rfl
        have L6 : Hid (n3 ≤ w6.heap.size) := Lib.hid I6.out.le
        clear G6 c35 f35 hw6 r6 I5 S5 HR5 S7 S8 b7 nex
        go_wp2_with (first
          | (refine wpList_load_part rfl (.tmp 5) rfl rfl rowIn R6.out.whole hl.out ?_)
          | (refine wpList_plain rfl fun _ hK => wp_lit1 elemI (by decide) rfl (.tmp 30) rfl rfl hl.out (hK _ _ ?_))
          | (at_builtin; refine wpList_appRw (v := .slice A k c) elemI inR_mono rfl (.tmp 29) (.tmp 31) rfl rfl I7.out.o rfl (k := [withW i []]) (N := k + 1) rfl (fun _ => ⟨_, _, rfl, RW.out⟩) EL.out (inV_one _ _ _ _ _ _ _ _ _) rfl (by omega) (by omega) ?_))
        intro A8 c8 w8 hc8 O8 g8 e8
        have ne8 : Hid (some b3 ≠ Value.ownBlock (.slice A8 (k + 1) c8)) := Lib.hid (fun e => by
          rcases e8 with e8 | e8
          · have := I7.out.hi b3 (by rw [← e8]; exact e.symm); omega
          · rw [e8] at e
            injection e with e
            have h7 := L6.out
            try rw [World.size_alloc] at e
            omega)
        have hi8 : Hid (∀ j, Value.ownBlock (.slice A8 (k + 1) c8) = some j → n3 ≤ j) := Lib.hid (fun j hj => by
          rcases e8 with e8 | e8
          · exact I7.out.hi j (by rw [← e8]; exact hj)
          · rw [e8] at hj
            injection hj with hj
            have h7 := L6.out
            try rw [World.size_alloc] at hj
            omega)
        have R8 := Lib.hid (I7.out.r.far g8 (fun e => by have := I7.out.hi b3 e.symm; omega))
        have X8 := Lib.hid (I7.out.x.farR outR_mono g8 (fun b e => by have := I7.out.hi b e; omega) (fun y hy e => by have := I7.out.hi y e.symm; omega) (fun j hj e => by have := I7.out.hi j e.symm; have := XL.out j hj; omega))
        have L8 : Hid (n3 ≤ w8.heap.size) := Lib.hid (Nat.le_trans I7.out.le g8.size)
        have HO8 := Lib.hid O8
        have c9 := R8.out.cell (k := 1) (v := .slice A k c) rfl
        have f9 := R8.out.free 1
        clear O8 g8 e8 c6 I6 I7 RW EL R6 S6
        go_wp2_with fail
        have G9 := gr_set w8 b3 1 (.slice A8 (k + 1) c8)
        have R9 := R8.out.set 1 (.slice A8 (k + 1) c8)
        change Ro _ b3 _ (txV ver_ A8 (k + 1) c8 Ao2 no co2 lock_) at R9
        have O9 := HO8.out.farP inR_mono G9 lb3 (fun y hy e => by omega) ne8.out
        have X9 := X8.out.farP outR_mono G9 lb3 (fun y hy e => by omega) NE3.out
        refine ⟨⟨k + 1, A8, c8, by omega, by go_num, hc8, R9, ?_, hi8.out, X9, Nat.le_trans L8.out G9.size⟩, by simp [intOf]; omega⟩
        rw [HT.out, List.map_append, List.map_take]
        exact O9
      · have t1 : decide ((k : Int) < (ni : Int)) = false := decide_eq_false (by omega)
        obtain rfl : k = ni := by omega
        have R2r := Lib.hid (R2.out.later BW.out)
        have HL9 := Lib.hid (List.take_of_length_le (Nat.le_of_eq NI.out))
        go_wp2_with (first
          | (refine wpList_load_part rfl (.tmp 3) rfl rfl rowTx I.out.r.whole rfl ?_)
          | (refine wpList_store_ro rfl (.tmp 2) (.tmp 34) rfl (vs := txV ver_ A k c Ao2 no co2 lock_) rfl rfl rowTx R2r.out rfl rfl (txV_one _ _ _ _ _ _ _ _) ?_))
        intro w9 R9 g9
        have q1 : q + 1 < w1.heap.size := R2.out.lt
        have e1 := ((I.out.o.reads inR_mono).weak inR_mono (Q := fun b => (b < lo ∨ q ≤ b) ∧ b ≠ q + 1) (fun b hb _ => by
          rcases hb with hb | hb
          · omega
          · rw [I.out.o.block] at hb
            have := I.out.hi b hb
            omega)).keep inR_mono (Kept.of_grown g9 fun b hb e => hb.2 (by injection e))
        have e2 := ((I.out.x.reads outR_mono).weak outR_mono (Q := fun b => (b < lo ∨ q ≤ b) ∧ b ≠ q + 1) (fun b hb _ => by
          rcases hb with hb | hb
          · omega
          · rw [I.out.x.block] at hb
            have := (I.out.x.new b hb).1
            omega)).keep outR_mono (Kept.of_grown g9 fun b hb e => hb.2 (by injection e))
        rw [HL9.out] at e1
        have E1 := Lib.hid (e1.weak inR_mono (Q := fun b => b < lo ∨ q ≤ b) fun _ h _ => h.1)
        have E2 := Lib.hid (e2.weak outR_mono (Q := fun b => b < lo ∨ q ≤ b) fun _ h _ => h.1)
        have B9 := Lib.hid ((B1.out.trans (BW.out.mono (by omega))).grown g9 (by have := BW.out.size; omega) (fun b e => by injection e; omega))
        have HR9 := Lib.hid R9
        clear R9 g9 e1 e2 c1 t1
        go_wp2_with fail
        refine bodyPost_ret (results_ro Tryd.results27 _ rfl rowTx HR9.out rfl) rfl ⟨A, k, c, Ao2, no, co2, rfl, ⟨ver, lck, I.out.nc, by omega, E1.out, NC.out, by omega, E2.out⟩, B9.out⟩
theorem refPlain_any {t : TxD} {Ai : Option Addr} {ni ci : Nat} {Ao : Option Addr} {no co : Nat} (w : World) (hw : weigh t ≤ 100000000) (hT : TxR w t Ai ni ci Ao no co) :
    Calls Tryd.prog 27 #[.agg (txV t.ver Ai ni ci Ao no co t.lock).toArray] w fun e w' => ∃ Bi mi di Bo mo do_, e = .returned (.agg (txV t.ver Bi mi di Bo mo do_ t.lock).toArray) ∧ TxR w' (plain t) Bi mi di Bo mo do_ ∧ Below w.heap.size w w' :=
  (refPlain_gen w hw (Nat.le_refl _) ⟨hT.ver, hT.lock, hT.i1, hT.i2, hT.ins.weak inR_mono fun b _ hb => hb, hT.o1, hT.o2, hT.outs.weak outR_mono fun b _ hb => hb⟩).mono fun _ _ ⟨a, b, c, d, e, f, h1, h2, h3⟩ => ⟨a, b, c, d, e, f, h1, h2.r, h3⟩
end Go.Proofs.YtbdjcbdnhaddoaaDoor
