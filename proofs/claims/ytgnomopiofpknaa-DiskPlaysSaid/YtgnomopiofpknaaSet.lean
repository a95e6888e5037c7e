/- settle: all that is loose made sure. No condition but bounds. -/
import Derived.Test.YtgnomopiofpknaaFl
import Derived.Deep.RegionLaw
import Derived.BigRegion
namespace Go.Proofs.Ytgnomopiofpknaa
open Go.RowKit

theorem nilW (A : Option Addr) (n c : Nat) (w : World) : (nilAhead 206 80 (.agg #[.slice A n c]) "scantling/disk.do").run Try.prog w = .ok (some false) w := by kernel_rfl
theorem nilC (k : Int) (w : World) : (nilAhead 206 85 (.agg #[.int .i64 k]) "scantling/disk.do").run Try.prog w = .ok (some false) w := by kernel_rfl
theorem metW (A : Option Addr) (n c : Nat) (w : World) : (method 206 80 (.agg #[.slice A n c]) "scantling/disk.do").run Try.prog w = .ok (60, .agg #[.slice A n c]) w := by kernel_rfl
theorem metC (k : Int) (w : World) : (method 206 85 (.agg #[.int .i64 k]) "scantling/disk.do").run Try.prog w = .ok (63, .agg #[.int .i64 k]) w := by kernel_rfl
/-- What a file of the disk at d leaves. -/
structure Fil (w0 : World) (P : Nat → Prop) (w : World) (d o : Nat) (T : TypeId) (cur : List Value) (S : Fl) (sz : Int) (W : World) : Prop where
  ex : ∃ vs vl, FlAt w0 (Gr P w W) vs vl S W ∧ Ro W d T (((cur.set o vs).set (o + 1) vl).set (o + 2) (.int .i64 sz))
  kept : Kept (fun b => ¬ P b ∧ b ≠ d) w W

theorem Gr.step {P : Nat → Prop} {w w1 w2 : World} (h1 : w.heap.size ≤ w1.heap.size) (h2 : w1.heap.size ≤ w2.heap.size) : ∀ k, Gr (Gr P w w1) w1 w2 k → Gr P w w2 k := fun k h => by
  rcases h with (h | h) | h
  · exact .inl h
  · exact .inr ⟨h.1, by omega⟩
  · exact .inr ⟨by omega, h.2⟩
/-- What the rounds hand on: k changes are sure. -/
def SetAt (w0 : World) (P : Nat → Prop) (w : World) (d o : Nat) (T : TypeId) (cur : List Value) (vl : Value) (S : Fl) (k : Nat) (wr : World) : Prop :=
  ∃ v, FlAt w0 (Gr P w wr) v vl ⟨appl S.sure (S.loose.take k), S.loose⟩ wr ∧ Ro wr d T (cur.set o v) ∧ Kept (fun b => ¬ P b ∧ b ≠ d) w wr
theorem SetAt.start {w0 w : World} {P : Nat → Prop} {vs vl : Value} {S : Fl} {d o : Nat} {T : TypeId} {cur : List Value} (F : FlAt w0 P vs vl S w) (R : Ro w d T cur) (c0 : cur[o]? = some vs) : SetAt w0 P w d o T cur vl S 0 w :=
  ⟨vs, F.more (fun k h => .inl h) (Gr.lt F F.sure.bel (Nat.le_refl _)), by
    have : cur.set o vs = cur := by
      apply List.ext_getElem? 
      intro j
      rw [List.getElem?_set]
      split
      · next h => subst h; rw [c0]; simp [(List.getElem?_eq_some_iff.1 c0).1]
      · rfl
    rw [this]; exact R, Nat.le_refl _, fun _ _ _ => rfl⟩

theorem Gr.not {P : Nat → Prop} {w w' : World} {d : Nat} (h : ¬ P d) (hl : d < w.heap.size) : ¬ Gr P w w' d := fun q => by
  rcases q with q | q
  · exact h q
  · omega
theorem kept_set (w : World) (d o : Nat) (v : Value) {P : Nat → Prop} (h : ¬ P d) : Kept P w (w.setCell ⟨d, o, none⟩ v) := ⟨by simp, fun b hb _ => Below.heap_setCell _ _ _ _ fun e => h (by
  have e' : b = d := e
  rw [← e']; exact hb)⟩
theorem Kept.weak {P Q : Nat → Prop} {w w' : World} (g : Kept P w w') (h : ∀ b, Q b → b < w.heap.size → P b) : Kept Q w w' := ⟨g.size, fun b hb hl => g.blk b (h b hb hl) hl⟩
theorem SetAt.next {w0 w wr w' : World} {P : Nat → Prop} {v v' vl : Value} {S : Fl} {d o n k : Nat} {T : TypeId} {cur : List Value} {x : Chg} (F : FlAt w0 (Gr P w wr) v vl ⟨appl S.sure (S.loose.take k), S.loose⟩ wr) (R : Ro wr d T (cur.set o v))
    (K : Kept (fun b => ¬ P b ∧ b ≠ d) w wr) (hd : ¬ P d) (hw : w0.heap.size ≤ d) (hl : d < w.heap.size) (hx : S.loose[k]? = some x) (O : Own w0 v' n (doC (appl S.sure (S.loose.take k)) x) w') (G : Grew wr w' v v') :
    SetAt w0 P w d o T cur vl S (k + 1) (w'.setCell ⟨d, o, none⟩ v') := by
  have nd : some d ≠ v.ownBlock := fun e => Gr.not hd hl (F.ps d e.symm)
  have gs := G.g.size
  have s1 := K.size
  have e1 : appl S.sure (S.loose.take (k + 1)) = doC (appl S.sure (S.loose.take k)) x := by
    rw [List.take_add_one, hx, appl_app]
    rfl
  have sz : (w'.setCell ⟨d, o, none⟩ v').heap.size = w'.heap.size := by simp
  refine ⟨v', ?_, ?_, ?_⟩
  · rw [e1]
    have F1 := (F.turn G O).keep (kept_set w' d o v' (Gr.not (Gr.not hd hl) (by omega))) (O.bel.setCell hw v')
    refine F1.more (fun q h => ?_) (fun q h => ?_)
    · have := Gr.step s1 gs q h
      rcases this with h | h
      · exact .inl h
      · exact .inr ⟨h.1, by rw [sz]; exact h.2⟩
    · rcases h with h | h
      · have := F.lt q (.inl h)
        exact ⟨this.1, by rw [sz]; omega⟩
      · exact ⟨by
          have := F.sure.bel.size
          rcases Nat.lt_or_ge q wr.heap.size with h2 | h2
          · exact (F.lt q (.inr ⟨h.1, h2⟩)).1
          · omega, h.2⟩
  · have := (R.far G.g nd).set o v'
    rwa [List.set_set] at this
  · refine ⟨by rw [sz]; omega, fun b hb hb2 => ?_⟩
    rw [Below.heap_setCell _ _ _ _ (show b ≠ d from hb.2), G.g.block b (by omega) fun e => ?_, K.blk b hb hb2]
    rcases F.ps b e.symm with q | q
    · exact hb.1 q
    · omega
theorem FlAt.empty {w0 w : World} {P : Nat → Prop} {vs vl : Value} {S : Fl} (F : FlAt w0 P vs vl S w) : FlAt w0 P vs (.slice none 0 0) ⟨S.sure, []⟩ w :=
  ⟨F.sure, OwnRw.none_ F.sure.bel, F.ps, fun k e => (by cases e), F.lt⟩
/-- Stores into the disk itself turn nothing of its files. -/
theorem FlAt.set {w0 w wr : World} {P : Nat → Prop} {vs vl : Value} {S : Fl} {d : Nat} (F : FlAt w0 (Gr P w wr) vs vl S wr) (hd : ¬ P d) (hl : d < w.heap.size) (hw : w0.heap.size ≤ d) (o : Nat) (v : Value) : FlAt w0 (Gr P w (wr.setCell ⟨d, o, none⟩ v)) vs vl S (wr.setCell ⟨d, o, none⟩ v) := by
  have sz : (wr.setCell ⟨d, o, none⟩ v).heap.size = wr.heap.size := by simp
  have e : Gr P w (wr.setCell ⟨d, o, none⟩ v) = Gr P w wr := by
    funext b
    unfold Gr
    rw [sz]
  rw [e]
  exact F.keep (kept_set wr d o v (Gr.not hd hl)) (F.sure.bel.setCell hw v)
theorem kept_step {P : Nat → Prop} {w wr : World} {d : Nat} (K : Kept (fun b => ¬ P b ∧ b ≠ d) w wr) (o : Nat) (v : Value) : Kept (fun b => ¬ P b ∧ b ≠ d) w (wr.setCell ⟨d, o, none⟩ v) :=
  ⟨by simpa using K.size, fun b hb hl => by rw [Below.heap_setCell _ _ _ _ (show b ≠ d from hb.2)]; exact K.blk b hb hl⟩
theorem Fil.done {w0 w wr : World} {P : Nat → Prop} {v vl : Value} {M : List Nat} {l : List Chg} {d o : Nat} {T : TypeId} {cur : List Value} (F : FlAt w0 (Gr P w wr) v vl ⟨M, l⟩ wr) (R : Ro wr d T (cur.set o v)) (K : Kept (fun b => ¬ P b ∧ b ≠ d) w wr)
    (hd : ¬ P d) (hw : w0.heap.size ≤ d) (hl : d < w.heap.size) : Fil w0 P w d o T cur ⟨M, []⟩ (M.length : Nat) ((wr.setCell ⟨d, o + 1, none⟩ (.slice none 0 0)).setCell ⟨d, o + 2, none⟩ (.int .i64 (M.length : Nat))) :=
  ⟨⟨v, .slice none 0 0, (F.empty.set hd hl hw _ _).set hd hl hw _ _, (R.set _ _).set _ _⟩, kept_step (kept_step K _ _) _ _⟩
theorem Fits.at_ {M : Nat} : ∀ {l : List Chg} {b : List Nat} {k : Nat} {x : Chg}, Fits M b l → l[k]? = some x → (appl b (l.take k)).length ≤ M ∧ (match x with | .c n => n ≤ (appl b (l.take k)).length | .w _ => True) ∧ (doC (appl b (l.take k)) x).length ≤ M
  | [], _, _, _, _, h => by simp at h
  | c :: l, b, 0, x, h, e => by
    obtain rfl : c = x := by simpa using e
    exact ⟨h.1, h.2.1, Fits.start h.2.2⟩
  | c :: l, b, k + 1, x, h, e => by
    have := Fits.at_ (k := k) (x := x) h.2.2 (by simpa using e)
    simpa [appl_cons] using this

set_option maxRecDepth 100000 in
set_option maxHeartbeats 4000000 in
theorem settle_any {w0 w : World} {P : Nat → Prop} {vs vl : Value} {S : Fl} {d o : Nat} {T : TypeId} {cur : List Value} (F : FlAt w0 P vs vl S w) (R : Ro w d T cur) (hd : ¬ P d) (hw : w0.heap.size ≤ d)
    (c0 : cur[o]? = some vs) (c1 : cur[o + 1]? = some vl) (hl : o + 2 < cur.length) (hf : Fits 4194304 S.sure S.loose) (hn : S.loose.length ≤ 1073741824) :
    Calls Try.prog 34 #[.pointer (some ⟨d, o, none⟩)] w fun e W => e = .returned (.tuple #[]) ∧ Fil w0 P w d o T cur ⟨S.at, []⟩ (S.at.length : Nat) W := by
  have RC1 := R.cell c1
  obtain ⟨A, c, rfl, hc⟩ := F.loose.shape
  have HF := Lib.hid F
  have HR := Lib.hid R
  clear F R
  go_enter Try.func34, Try.ntmps34
  go_wp2_with fail
  go_loopw [9] (fun i wr => ∃ k : Nat, k ≤ S.loose.length ∧ i = .int .i64 (k : Nat) ∧ SetAt w0 P w d o T cur (.slice A S.loose.length c) S k wr) (fun i _ => S.loose.length - (intOf i).toNat)
  case atStart => exact ⟨0, Nat.zero_le _, rfl, SetAt.start HF.out HR.out c0⟩
  case round =>
    obtain ⟨k, hk, rfl, J⟩ := hrel
    have HJ := Lib.hid J
    clear J
    by_cases hlt : k < S.loose.length
    · obtain ⟨v, F, R, K⟩ := HJ.out
      obtain ⟨g, c', V, e1, hc', CV, RV⟩ := F.at_ (i := k) hlt
      injection e1 with e1 _ e2
      subst e1 e2
      obtain ⟨x, hx⟩ : ∃ x, S.loose[k]? = some x := ⟨_, List.getElem?_eq_getElem hlt⟩
      have hx' : S.loose[k] = x := by simpa [hlt] using hx
      have ft := Fits.at_ hf hx
      have hs1 := F.sure
      have NX : Hid (∀ v' w' n, Own w0 v' n (doC (appl S.sure (S.loose.take k)) x) w' → Grew wr w' v v' → SetAt w0 P w d o T cur (.slice (some ⟨g, 0, none⟩) S.loose.length c) S (k + 1) (w'.setCell ⟨d, o, none⟩ v') ∧ w'.cell? ⟨d, o, none⟩ = some v ∧ w'.frozen? ⟨d, o, none⟩ = false) := Lib.hid fun v' w' n O G => by
        have R' := R.far G.g fun e => Gr.not hd HR.out.lt (F.ps d e.symm)
        exact ⟨SetAt.next F R K hd hw HR.out.lt hx O G, R'.cell (List.getElem?_set_self (by omega)), R'.free o⟩
      have RC0 := R.cell (k := o) (v := v) (List.getElem?_set_self (by omega))
      obtain ⟨M, hM⟩ : ∃ M, appl S.sure (S.loose.take k) = M := ⟨_, rfl⟩
      dsimp only at RV
      rw [hx'] at RV
      simp only at hs1 ft
      rw [hM] at ft hs1 NX
      have hs2 := hs1.later (w1 := wr.drew) (Below.refl _ _).drew
      clear F R K hM hs1
      have GD : Hid (∀ v' w', Grew wr.drew w' v v' → Grew wr w' v v') := Lib.hid fun v' w' G => (Grew.below v (Below.refl _ _).drew).trans G
      cases x with
      | w L =>
        obtain ⟨A', c', e2, hL, hc2, hc3, _⟩ := RV
        obtain rfl : V = wV A' L.length c' := by simpa using e2
        have C : Hid (Calls Try.prog 60 #[.agg #[.slice A' L.length c'], v] wr.drew fun e w' => ∃ A1 n1 c1, e = .returned (.slice A1 n1 c1) ∧ SetAt w0 P w d o T cur (.slice (some ⟨g, 0, none⟩) S.loose.length c) S (k + 1) (w'.setCell ⟨d, o, none⟩ (.slice A1 n1 c1)) ∧ w'.cell? ⟨d, o, none⟩ = some v ∧ w'.frozen? ⟨d, o, none⟩ = false) :=
          Lib.hid ((writeDo_any (c := c') hs2 (hL.bs.later (Below.refl _ _).drew) (by have := ft.2.2; simp only [doC, List.length_append] at this; omega)).mono fun e w' ⟨A1, N1, c1, h1, _, h2, h3⟩ => ⟨_, _, _, h1, NX.out _ _ _ h2 (GD.out _ _ h3)⟩)
        clear hs2 hL e2 ft NX GD
        unfold wV at *
        go_wp2_with fail
        have nw := nilW A' L.length c' wr.drew
        have mw := metW A' L.length c' wr.drew
        go_region_law (first | (go_simp; (with_reducible refine (C.out).mono ?_); rintro e w' ⟨A1, n1, c1', rfl, j1, j2, j3⟩; go_simp))
        all_goals go_wp2_with fail
        all_goals go_roundw
        all_goals first
          | exact ⟨k + 1, by omega, by go_num, j1⟩
          | (simp [intOf]; omega)
      | c q =>
        obtain ⟨rfl⟩ : V = cV q := by simpa using RV.1
        obtain ⟨A2, c2, rfl, hc2⟩ := hs2.shape
        have C : Hid (Calls Try.prog 63 #[.agg #[.int .i64 (q : Nat)], .slice A2 M.length c2] wr.drew fun e w' => ∃ A1 n1 c1, e = .returned (.slice A1 n1 c1) ∧ SetAt w0 P w d o T cur (.slice (some ⟨g, 0, none⟩) S.loose.length c) S (k + 1) (w'.setCell ⟨d, o, none⟩ (.slice A1 n1 c1)) ∧ w'.cell? ⟨d, o, none⟩ = some (.slice A2 M.length c2) ∧ w'.frozen? ⟨d, o, none⟩ = false) :=
          Lib.hid ((cutDo_any ft.2.1 hc2).mono fun e w' ⟨h1, h2⟩ => ⟨_, _, _, h1, NX.out _ _ _ ((hs2.later h2).short ft.2.1) (GD.out _ _ ⟨⟨h2.os, h2.tape, h2.output, h2.size, fun b hb _ => h2.block b hb⟩, .inl (by cases A2 <;> rfl)⟩)⟩)
        have nw := nilC q wr.drew
        have mw := metC q wr.drew
        clear hs2 ft NX GD RV
        unfold cV at *
        go_wp2_with fail
        go_region_law (first | (go_simp; (with_reducible refine (C.out).mono ?_); rintro e w' ⟨A1, n1, c1', rfl, j1, j2, j3⟩; go_simp))
        all_goals go_wp2_with fail
        all_goals go_roundw
        all_goals first
          | exact ⟨k + 1, by omega, by go_num, j1⟩
          | (simp [intOf]; omega)
    · obtain rfl : k = S.loose.length := by omega
      obtain ⟨v, F, R, K⟩ := HJ.out
      rw [List.take_length] at F
      have HE : Hid (S.at = appl S.sure S.loose) := Lib.hid rfl
      obtain ⟨M, hM⟩ : ∃ M, S.at = M := ⟨_, rfl⟩
      rw [← HE.out, hM] at F
      have HM := Lib.hid hM
      obtain ⟨A2, c2, rfl, hc2⟩ := F.sure.shape
      dsimp only at R hc2
      have r0 := R.cell (k := o) (List.getElem?_set_self (by omega))
      have f1 := R.free (o + 1)
      have R1 := R.set (o + 1) (.slice none 0 0)
      have f2 := R1.free (o + 2)
      have FF := Lib.hid (Fil.done F R K hd hw HR.out.lt)
      have RL := R.lt
      have q1 := R.cell (k := o + 1) (by rw [List.getElem?_set_ne (by omega)]; exact c1)
      obtain ⟨x2, hx2⟩ : ∃ x, cur[o + 2]? = some x := ⟨_, List.getElem?_eq_getElem hl⟩
      have q2 := R1.cell (k := o + 2) (by rw [List.getElem?_set_ne (by omega), List.getElem?_set_ne (by omega)]; exact hx2)
      clear F R K R1 hM
      go_wp2_with fail
      go_returns
      rw [HM.out]
      exact ⟨rfl, FF.out⟩
end Go.Proofs.Ytgnomopiofpknaa
