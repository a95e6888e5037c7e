/- merkle.Root: the root of hashes. No condition but that the tables lie as laid. -/
import Derived.Test.YtdenibigefchpaaDoorRowsI
import Derived.Outline
namespace Go.Proofs.YtdenibigefchpaaDoor
open Go.RowKit Go.Shelf
attribute [local go_sem] Oper.semAt_some

section
variable {F : Fence} {n : Nat} {w0 w : World} {ops : Array Oper} {rest : List Oper} {o : Oper} {a : Act} {Q : Exit → Act → World → Prop} {T S : TypeId} {b k : Nat} {vs zs : List Value}
theorem inLoad (hgd : o.guard = none) (x : Operand) (ho : o.op = .load T x) (hx : a.eval x = .pointer (some ⟨b, 0, none⟩)) (hT : IsRow T k) (hr : Ro w b S vs) (hl : vs.length = k)
    (h : wpListIn F n Tryd.prog ops Q rest (a.put o.dst (.agg vs.toArray)) w) : wpListIn F n Tryd.prog ops Q (o :: rest) a w := by
  refine wpListIn_plain hgd fun K hK => ?_
  have key : (loadVar T ⟨b, 0, none⟩).run Tryd.prog w = .ok (.agg vs.toArray) w := by
    obtain ⟨⟨f, h1⟩ | ⟨j, e, h1⟩, h3⟩ := hT
    · exact run_loadVar_row w b S T vs.toArray (0, 0) _ hr h1 rfl (by rw [h3]; simp [hl])
    · exact run_loadVar_row w b S T vs.toArray (0, 0) _ hr h1 rfl (by rw [h3]; simp [hl])
  have e := hK _ _ h
  unfold Oper.wpIn
  refine ⟨?_, ?_⟩
  · simp [Oper.about, ho]
  · rw [Oper.semAt_plain F _ _ (by rw [ho]; intro c hc'; cases hc')]
    unfold execOp
    simp only [ho, hx, Instr.loadAt, Instr.sureAddr, Sem.run_bind, Sem.run_pure, Result.andThen_ok, key]
    exact e
theorem inStore (hgd : o.guard = none) (x y : Operand) (ho : o.op = .store T x y) (hx : a.eval x = .pointer (some ⟨b, 0, none⟩)) (hy : a.eval y = .agg vs.toArray) (hT : IsRow T k) (hr : Ro w b S zs) (hz : zs.length = k) (hl : vs.length = k) (h1 : ∀ u ∈ vs, u.oneCell' = true)
    (h : ∀ w', Ro w' b S vs → w.grownBy w' (some b) → wpListIn F n Tryd.prog ops Q rest (a.put o.dst undef) w') : wpListIn F n Tryd.prog ops Q (o :: rest) a w := by
  refine wpListIn_plain hgd fun K hK => ?_
  have key := run_storeVar_row w b S T zs.toArray vs.toArray hr (by rw [hT.info]; simp [hl]) (by simp [hz, hl]) (all_one h1)
  have e := hK _ _ (h _ (setRow_heap w b _ _ _ _ hr) (grownBy_setRow w b _))
  unfold Oper.wpIn
  refine ⟨?_, ?_⟩
  · simp [Oper.about, ho]
  · rw [Oper.semAt_plain F _ _ (by rw [ho]; intro c hc'; cases hc')]
    unfold execOp
    simp only [ho, hx, hy, Instr.storeAt, Instr.sureAddr, Sem.run_bind, Sem.run_pure, Result.andThen_ok, key]
    exact e
theorem inLoadPart (hgd : o.guard = none) (x : Operand) (ho : o.op = .load T x) {m : Nat} (hx : a.eval x = .pointer (some ⟨b, m, none⟩)) (hT : IsRow T k) (hr : w.rangeAt b m vs) (hl : vs.length = k)
    (h : wpListIn F n Tryd.prog ops Q rest (a.put o.dst (.agg vs.toArray)) w) : wpListIn F n Tryd.prog ops Q (o :: rest) a w := by
  refine wpListIn_plain hgd fun K hK => ?_
  have key : (loadVar T ⟨b, m, none⟩).run Tryd.prog w = .ok (.agg vs.toArray) w := by
    obtain ⟨⟨f, h1⟩ | ⟨j, e, h1⟩, h3⟩ := hT
    · exact run_loadVar_mid w b m T vs _ hr h1 rfl (by rw [h3]; simp [hl])
    · exact run_loadVar_mid w b m T vs _ hr h1 rfl (by rw [h3]; simp [hl])
  have e := hK _ _ h
  unfold Oper.wpIn
  refine ⟨?_, ?_⟩
  · simp [Oper.about, ho]
  · rw [Oper.semAt_plain F _ _ (by rw [ho]; intro c hc'; cases hc')]
    unfold execOp
    simp only [ho, hx, Instr.loadAt, Instr.sureAddr, Sem.run_bind, Sem.run_pure, Result.andThen_ok, key]
    exact e
end
theorem Gs.far {W W' : World} {A : Option Addr} {n : Nat} {l : List (List Nat)} (h : Gs W A n l) {row : Option Nat} (hg : W.grownBy W' row) (hr : ∀ a, A = some a → some a.block ≠ row) : Gs W' A n l :=
  ⟨h.len, h.ok, fun hn => by
    obtain ⟨b, o, e, hb, hc⟩ := h.cel hn
    refine ⟨b, o, e, Nat.lt_of_lt_of_le hb hg.size, fun j v hj => ?_⟩
    have h1 := hc j v hj
    rw [← h1]
    unfold World.cell?
    rw [hg.block b hb (hr _ e)]⟩
def z32 : List Nat := List.replicate 32 0
theorem z32_ok : z32.length = 32 ∧ AllB z32 := ⟨rfl, fun x hx => by rw [List.eq_of_mem_replicate hx]; decide⟩
/-- Between two rows: the result's box, the root's box. -/
structure RtJ (w : World) (pre : List Rw) (W : World) : Prop where
  res : Ro W w.heap.size 24 (vals z32)
  var : Ro W (w.heap.size + 1) 24 (vals (headS z32 (pre.map (·.l))))
  len : (headS z32 (pre.map (·.l))).length = 32
  bel : Below w.heap.size w W
  size : w.heap.size + 3 ≤ W.heap.size
theorem RtJ.later {w : World} {pre : List Rw} {W W' : World} (h : RtJ w pre W) (g : Below W.heap.size W W') : RtJ w pre W' :=
  ⟨h.res.later g, h.var.later g, h.len, h.bel.trans (g.mono h.bel.size), Nat.le_trans h.size g.size⟩
theorem RtJ.keep {w : World} {pre : List Rw} {W W' : World} {row : Option Nat} (h : RtJ w pre W) (hg : W.grownBy W' row) (hr : ∀ r, row = some r → w.heap.size ≤ r ∧ ∃ o : Obj, W.heap[r]? = some o ∧ o.isCells = false) : RtJ w pre W' :=
  ⟨h.res.same (grownBy_keeps_cells hg (fun r e => (hr r e).2) h.res rfl), h.var.same (grownBy_keeps_cells hg (fun r e => (hr r e).2) h.var rfl), h.len, h.bel.grown hg h.bel.size (fun r e => (hr r e).1), Nat.le_trans h.size hg.size⟩
/-- What the round may take: besides, the row that is told. -/
def RtI (w : World) (pre : List Rw) (x : Rw) (W : World) : Prop := RtJ w pre W ∧ Gs W x.A x.n x.l ∧ (∀ a, x.A = some a → a.block ≠ w.heap.size + 1) ∧ 0 < x.n

set_option maxRecDepth 100000 in
set_option maxHeartbeats 4000000 in
theorem root_in {A : Option Addr} {n c : Nat} {ids : List (List Nat)} (w : World) (hLd : Laid w) (hn : n ≤ 1000000) (hL : Gs w A n ids) : CallsIn Fence.wide 3 Tryd.prog 14 #[.slice A n c] w fun e w' => e = .returned (.agg (vals (root joinS z32 ids)).toArray) ∧ Below w.heap.size w w' := by
  have HL := Lib.hid hL
  have HN := Lib.hid hL.len
  have HD := Lib.hid hLd
  have HA : Hid (∀ a, 0 < n → A = some a → a.block < w.heap.size) := Lib.hid (fun a h0 e => by
    obtain ⟨b, o, e2, hb, _⟩ := hL.cel h0
    rw [e] at e2
    injection e2 with e2
    subst e2
    exact hb)
  clear hL hLd
  refine callsIn_of_wp_marks Tryd.func14 rfl trivial ?_ rfl
  simp only [Tryd.ntmps14, List.size_toArray, List.length_cons, List.length_nil, Nat.reduceAdd, Nat.reduceSub, Array.replicate_succ, Array.replicate_zero, List.push_toArray, List.append_toArray, List.nil_append, List.cons_append]
  gi_wp2_with (refine ⟨trivial, ?_⟩; gi_at_call 23; refine (rows_in _ _ _ _).mono ?_; rintro e w2 ⟨rfl, rfl⟩)
  obtain ⟨W4, hW4⟩ : ∃ W4, W4 = ((w.alloc (.cells (vals z32).toArray 24)).alloc (.cells (vals z32).toArray 24)).alloc (.cells #[.slice A n c] 22) := ⟨_, rfl⟩
  have z4 : W4.heap.size = w.heap.size + 3 := by rw [hW4]; simp
  have b4 : Below w.heap.size w W4 := by rw [hW4]; exact (((Below.refl _ w).alloc (Nat.le_refl _) _).alloc (by simp only [World.size_alloc]; omega) _).alloc (by simp only [World.size_alloc]; omega) _
  have J4 : RtJ w [] W4 := by
    refine ⟨?_, ?_, z32_ok.1, b4, by omega⟩
    · rw [hW4]; exact ((Ro.new w _ _).alloc _).alloc _
    · rw [hW4]
      have := (Ro.new (w.alloc (.cells (vals z32).toArray 24)) 24 (vals z32)).alloc (.cells #[.slice A n c] 22)
      rwa [World.size_alloc] at this
  have X4 : Boxed W4 (w.heap.size + 1 + 1) 22 (.slice A n c) := by
    rw [hW4]
    have := Boxed.new ((w.alloc (.cells (vals z32).toArray 24)).alloc (.cells (vals z32).toArray 24)) 22 (.slice A n c)
    rwa [World.size_alloc, World.size_alloc] at this
  change Code.wpIn _ _ _ _ _ _ (((w.alloc (.cells (vals z32).toArray 24)).alloc (.cells (vals z32).toArray 24)).alloc (.cells #[.slice A n c] 22))
  rw [← hW4]
  have B4 := Lib.hid b4
  have Z4 := Lib.hid z4
  clear hW4 b4 z4
  refine range_tells (w := W4) rfl (by decide) (gf := 29) (lb := #[.pointer (some ⟨w.heap.size + 1 + 1, 0, none⟩)]) rfl trivial (enters_of Tryd.func29 (by kernel_rfl) rfl)
    (encs := rwE) (Tn := fun X Y => Below X.heap.size X Y) (Fr := RFr w.heap.size) (Rd := RRd) (S := RTell ids) (Sp := RPre ids)
    (rows_tells (w.heap.size + 1 + 1) w.heap.size A n c ids W4 X4 (HL.out.later B4.out) (HD.out.later HD.out.lt B4.out) HA.out hn) (fun X Y h => ⟨h.size, fun k o hk _ => by rw [h.block k (Array.getElem?_eq_some_iff.1 hk).1]; exact hk⟩)
    (rrd_own _) (fun _ => rfl)
    (fun pre W => RtJ w pre W) (fun _ _ _ => False)
    (fun s X Y row hs hg hr => hs.keep hg fun r e => ⟨by have := (hr r e).1; have := Z4.out; omega, (hr r e).2⟩)
    (fun cd s X Y row hs hg hr => hs.elim)
    (fun pre x W => RtI w pre x W)
    (fun x pre X Y row hs hg hr => ⟨hs.1.keep hg fun r e => ⟨by have := (hr r e).1; have := Z4.out; omega, (hr r e).2⟩, hs.2.1.keep hg fun r e => (hr r e).2, hs.2.2⟩)
    (fun pre x X Y hs ht hf => ⟨hs.later ht, hf.gs, fun a e => by have := hs.size; rcases hf.far a e with h | h <;> omega, hf.pos⟩)
    J4
    (fun x => { tmps := #[Value.slice A n c, undef, Value.pointer (some { block := w.heap.size, off := 0 }), Value.pointer (some { block := w.heap.size + 1, off := 0 }), Value.slice x.A x.n x.c, Value.slice A n c, Value.func (Fn.func 29) #[] #[Value.pointer (some { block := w.heap.size + 1 + 1, off := 0 })], Value.slice x.A x.n x.c, undef, undef, undef, undef], defers := [] }) ?assign ?body ?done ?stop
  case assign =>
    intro l x W K hK
    obtain ⟨A', m, c', l'⟩ := x
    dsimp only [rwE] at hK ⊢
    gi_wp2
    exact hK
  case stop => exact fun D cd pre W hD hS h hK => h.elim
  case done =>
    rintro D ys W hD hS J hK
    have RV : Ro W (w.heap.size + 1) 24 (vals (root joinS z32 ids)) := by
      have h := J.var
      rw [show ys.map (·.l) = rowsOf joinS ids from hS, headS_all] at h
      exact h
    have rl : (root joinS z32 ids).length = 32 := by
      have h := J.len
      rw [show ys.map (·.l) = rowsOf joinS ids from hS, headS_all] at h
      exact h
    obtain ⟨I, hI⟩ : ∃ I, root joinS z32 ids = I := ⟨_, rfl⟩
    rw [hI] at RV rl
    have HV := Lib.hid RV
    have HJ := Lib.hid J
    have HI := Lib.hid hI
    have ll := Lib.hid (show (vals I).length = 32 by rw [vals_length]; exact rl)
    have lz := Lib.hid (show (vals z32).length = 32 by rw [vals_length]; exact z32_ok.1)
    have HK := Lib.hid hK
    have HDg : Hid (w.heap.size + 3 ≤ D) := Lib.hid (by have := Z4.out; omega)
    clear RV J hS hK hI rl
    gi_wp2_with (first | (refine inLoad rfl (.tmp 3) rfl rfl row26 HV.out ll.out ?_) | (refine inStore rfl (.tmp 2) (.tmp 11) rfl rfl rfl row26 HJ.out.res lz.out ll.out (vals_one _) ?_))
    intro w6 R6 g6
    have HK6 := Lib.hid ((g6.block D (Array.getElem?_eq_some_iff.1 HK.out).1 (fun e => by injection e; have := HDg.out; omega)).trans HK.out)
    have R7 := R6.same (grownBy_keeps_cells (grownBy_putObj' w6 D (.deferred none)) (fun r e => by cases e; exact ⟨_, HK6.out, rfl⟩) R6 rfl)
    have B7 := ((HJ.out.bel.grown g6 HJ.out.bel.size (fun q e => by injection e; omega)).grown (grownBy_putObj' w6 D (.deferred none)) (HJ.out.bel.grown g6 HJ.out.bel.size (fun q e => by injection e; omega)).size (fun q e => by cases e; have := HDg.out; omega))
    have HR7 := Lib.hid R7
    have HB7 := Lib.hid B7
    clear R6 R7 B7 g6 HJ HV HK
    gi_wp2
    refine ⟨by simp, .inl ⟨_, _, rfl, run_takeDeferred HK6.out, .agg (vals I).toArray, ?_, ?_⟩⟩
    · exact results_ro Tryd.results14 _ rfl row26 HR7.out ll.out
    · exact ⟨by rw [HI.out], HB7.out⟩
  case body =>
    rintro l pre ⟨A', m, c', l'⟩ W ⟨J, hG, hne, hp⟩ hS
    dsimp only at hG hne hp ⊢
    obtain ⟨b, o, rfl, hb, _⟩ := hG.cel hp
    have ad := add_at b o
    have R0 := (hG.at_ hp).2
    rw [Nat.zero_mul, Nat.add_zero] at R0
    have HR := Lib.hid R0
    have HJ := Lib.hid J
    have HG := Lib.hid hG
    have HNE := Lib.hid (hne _ rfl)
    have ok := Lib.hid (nt_ok hG.ok (k := 0) (by rw [hG.len]; exact hp))
    have ll := Lib.hid (show (vals (nt l' 0)).length = 32 by rw [vals_length]; exact ok.out.1)
    have lz := Lib.hid (show (vals (headS z32 (pre.map (·.l)))).length = 32 by rw [vals_length]; exact J.len)
    have HS : Hid (headS z32 ((pre ++ [Rw.mk (some ⟨b, o, none⟩) m c' l']).map (·.l)) = nt l' 0) := Lib.hid (by rw [List.map_append]; exact headS_app _ _ _)
    clear R0 J hG hne hb
    gi_wp2_with (first | (refine inLoadPart rfl (.tmp 9) rfl rfl row26 HR.out ll.out ?_) | (refine inStore rfl (.tmp 3) (.tmp 10) rfl rfl rfl row26 HJ.out.var lz.out ll.out (vals_one _) ?_))
    intro w6 R6 g6
    gi_wp2
    refine ⟨?_, ⟨HG.out.far g6 (fun a e => by injection e with e; subst e; exact fun e2 => HNE.out (by injection e2)), HD.out.later HD.out.lt (HJ.out.bel.grown g6 HJ.out.bel.size (fun q e => by injection e; omega))⟩, ?_⟩
    · refine (KeepsOthers.of_grownBy g6 fun j o ej hj => ?_).from _
      injection ej with ej
      subst ej
      have h2 : W.heap[w.heap.size + 1]? = some o := hj
      have hv : W.heap[w.heap.size + 1]? = some (.cells (vals (headS z32 (pre.map (·.l)))).toArray 24 (0, 0)) := HJ.out.var
      rw [hv] at h2
      injection h2 with h2
      subst h2
      rfl
    · refine ⟨HJ.out.res.far g6 (fun e => by injection e; omega), ?_, ?_, HJ.out.bel.grown g6 HJ.out.bel.size (fun q e => by injection e; omega), Nat.le_trans HJ.out.size g6.size⟩
      · rw [HS.out]; exact R6
      · rw [HS.out]; exact ok.out.1
theorem root_any {A : Option Addr} {n c : Nat} {ids : List (List Nat)} (w : World) (hLd : Laid w) (hn : n ≤ 1000000) (hL : Gs w A n ids) : Calls Tryd.prog 14 #[.slice A n c] w fun e w' => e = .returned (.agg (vals (root joinS z32 ids)).toArray) ∧ Below w.heap.size w w' :=
  callsIn_wide.1 (root_in w hLd hn hL)
end Go.Proofs.YtdenibigefchpaaDoor
