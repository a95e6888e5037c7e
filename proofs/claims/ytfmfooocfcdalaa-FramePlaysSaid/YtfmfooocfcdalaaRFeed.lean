/- The reference's framer: Feed and Held. No condition but bounds on the lengths. -/
import Derived.Test.YtfmfooocfcdalaaLines
namespace Go.Proofs.Ytfmfooocfcdalaa
open Go.RowKit

theorem LinesV.drop {W : World} {ok : Nat → Prop} {us : List Value} {K : List (List Nat)} (h : LinesV W ok us K) : ∀ Ls ks, K = Ls ++ ks → LinesV W ok (us.drop Ls.length) ks := by
  induction h with
  | nil =>
    intro Ls ks e
    obtain ⟨rfl, rfl⟩ := List.append_eq_nil_iff.1 e.symm
    exact .nil
  | @snoc us K u L h hu ih =>
    intro Ls ks e
    have hl := h.len
    rcases List.eq_nil_or_concat ks with rfl | ⟨ks', l, rfl⟩
    · have e2 := congrArg List.length e
      simp at e2
      rw [List.drop_of_length_le (by simp; omega)]
      exact .nil
    · rw [List.concat_eq_append, ← List.append_assoc] at e
      obtain ⟨e1, e2⟩ := List.append_inj' e rfl
      injection e2 with e2
      subst e2
      have hle : Ls.length ≤ us.length := by
        have := congrArg List.length e1
        simp at this
        omega
      rw [List.concat_eq_append, List.drop_append_of_le_length hle]
      exact .snoc (ih Ls ks' e1) hu

/-- The reference's framer in memory. -/
def RB (W : World) (r : Nat) (v : Value) (ov : Bool) : Prop := W.heap[r]? = some (.cells #[v, .bool ov] 29 (0, 0))
section
variable {W W' : World} {r : Nat} {v : Value} {ov : Bool}
theorem RB.lt (h : RB W r v ov) : r < W.heap.size := (Array.getElem?_eq_some_iff.1 h).1
theorem RB.c0 (h : RB W r v ov) : W.cell? ⟨r, 0, none⟩ = some v := by simp [World.cell?, show W.heap[r]? = _ from h]
theorem RB.c1 (h : RB W r v ov) : W.cell? ⟨r, 1, none⟩ = some (.bool ov) := by simp [World.cell?, show W.heap[r]? = _ from h]
theorem RB.z0 (h : RB W r v ov) : W.frozen? ⟨r, 0, none⟩ = false := by simp [World.frozen?, show W.heap[r]? = _ from h]
theorem RB.z1 (h : RB W r v ov) : W.frozen? ⟨r, 1, none⟩ = false := by simp [World.frozen?, show W.heap[r]? = _ from h]
theorem RB.same (h : RB W r v ov) (e : W'.heap[r]? = W.heap[r]?) : RB W' r v ov := e.trans h
theorem RB.later (h : RB W r v ov) (g : Below W.heap.size W W') : RB W' r v ov := h.same (g.block r h.lt)
theorem RB.set0 (v' : Value) (h : RB W r v ov) : RB (W.setCell ⟨r, 0, none⟩ v') r v' ov := by
  obtain ⟨hlt, hk⟩ := Array.getElem?_eq_some_iff.1 h
  show (W.heap.modify r _)[r]? = _
  rw [Array.getElem?_eq_getElem (by rw [Array.size_modify]; exact hlt), Array.getElem_modify_self, hk]
  rfl
theorem RB.set1 (b : Bool) (h : RB W r v ov) : RB (W.setCell ⟨r, 1, none⟩ (.bool b)) r v b := by
  obtain ⟨hlt, hk⟩ := Array.getElem?_eq_some_iff.1 h
  show (W.heap.modify r _)[r]? = _
  rw [Array.getElem?_eq_getElem (by rw [Array.size_modify]; exact hlt), Array.getElem_modify_self, hk]
  rfl
end
theorem feedS_ov_held : ∀ (L : List Nat) (st : St), (st.2.2 = true → st.2.1 = []) → (feedS st L).2.2 = true → (feedS st L).2.1 = []
  | [], st, h, e => h e
  | x :: l, st, h, e => by
    refine feedS_ov_held l (stepB st x) ?_ e
    intro e2
    unfold stepB at e2 ⊢
    split
    · rename_i h1; exact h h1
    · split
      · rfl
      · split
        · rfl
        · rename_i h1 h2 h3
          rw [if_neg h1, if_neg h2, if_neg h3] at e2
          cases e2

set_option maxRecDepth 100000 in
set_option maxHeartbeats 4000000 in
theorem rheld_any {r n c : Nat} {A : Option Addr} {L : List Nat} {ov : Bool} {Ls : List (List Nat)} {M : List Nat} {o : Bool} (W : World) (h : RB W r (.slice A n c) ov) (hL : Bs W A n L) (hnc : n ≤ c) (hn : n ≤ 549755813888) (hf : feedS ([], [], false) L = (Ls, M, o)) :
    Calls Try.prog 14 #[.pointer (some ⟨r, 0, none⟩)] W fun e w' => e = .returned (.int .i64 (M.length : Nat)) ∧ Below W.heap.size W w' := by
  have c0 := h.c0
  have HL := Lib.hid hL
  have HF := Lib.hid hf
  clear hL hf
  go_enter Try.func14, Try.ntmps14
  go_wp2_with fail
  refine (lines_any W HL.out hnc hn).mono ?_
  rintro e w1 ⟨lv, us, Ls', M', ov', A', n', c', hf', rfl, tx, O⟩
  rw [HF.out] at hf'
  simp only [Prod.mk.injEq] at hf'
  obtain ⟨rfl, rfl, rfl⟩ := hf'
  have B := Lib.hid O.bel
  have e := O.len
  subst e
  clear O tx
  go_wp2_with fail
  go_ret
  exact ⟨rfl, B.out⟩

set_option maxRecDepth 100000 in
set_option maxHeartbeats 4000000 in
theorem rfeed_over {r : Nat} {v : Value} {A : Option Addr} {n c : Nat} (W : World) (h : RB W r v true) :
    Calls Try.prog 12 #[.pointer (some ⟨r, 0, none⟩), .slice A n c] W fun e w' => e = .returned (.tuple #[.slice none 0 0, .int .i64 6]) ∧ w' = W := by
  have c1 := h.c1
  go_enter Try.func12, Try.ntmps12
  go_wp2_with fail
  go_ret2
  exact ⟨rfl, rfl⟩

/-- What the reference's Feed leaves. -/
structure RFed (W : World) (r : Nat) (L : List Nat) (ov : Bool) (yA : Option Addr) (m : Nat) (ks : List (List Nat)) (W' : World) : Prop where
  ex : ∃ vs A n c, vs.length = m ∧ (∀ a, yA = some a → ∀ j u, vs[j]? = some u → W'.cell? (a.add j) = some u ∧ W.heap.size ≤ a.block ∧ a.block < W'.heap.size) ∧ (yA = none → m = 0) ∧ LinesV W' (fun k => W.heap.size ≤ k) vs ks
    ∧ RB W' r (.slice A n c) ov ∧ n ≤ c ∧ Bs W' A n L ∧ (∀ a, A = some a → W.heap.size ≤ a.block)
  size : W.heap.size ≤ W'.heap.size
  old : ∀ k, k < W.heap.size → k ≠ r → W'.heap[k]? = W.heap[k]?
  bel : Below r W W'
def RFedE (W : World) (r : Nat) (L : List Nat) (ov : Bool) (ks : List (List Nat)) (e : Ending) (W' : World) : Prop :=
  ∃ yA m c, e = .returned (.tuple #[.slice yA m c, .int .i64 (if ov then 6 else 0)]) ∧ RFed W r L ov yA m ks W'

theorem rfed_end {W w1 w3 w5 : World} {r k d3 c2 : Nat} {A3 B2 : Option Addr} {L : List Nat} {us2 : List Value} {Ls ks : List (List Nat)} {ov o : Bool} {v0 : Value} (b1 : Below W.heap.size W w1) (h0 : RB w1 r v0 o) (hr : r < W.heap.size) (O3 : Own w1 (.slice A3 k d3) k L w3) (hk : k ≤ d3)
    (tx : Tx (fun j => w3.heap.size ≤ j) w3.heap.size (.slice B2 us2.length c2) us2 (Ls ++ ks) w5) (g5 : Below w3.heap.size (w3.setCell ⟨r, 0, none⟩ (.slice A3 k d3)) w5) (B3 : Option Addr) (hB : us2.length = Ls.length ∨ B3 = B2.map (·.add Ls.length)) (hB2 : B3 = none → us2.length = Ls.length) :
    RFed W r L ov B3 (us2.length - Ls.length) ks (w5.setCell ⟨r, 1, none⟩ (.bool ov)) := by
  have s1 := b1.size
  have s3 := O3.bel.size
  have s5 : w3.heap.size ≤ w5.heap.size := by have := g5.size; simp [World.setCell] at this; omega
  have R3 : RB w3 r v0 o := h0.later O3.bel
  have R4 : RB (w3.setCell ⟨r, 0, none⟩ (.slice A3 k d3)) r (.slice A3 k d3) o := R3.set0 _
  have R5 : RB w5 r (.slice A3 k d3) o := R4.same (g5.block r (by omega))
  have q3 : ∀ j, j < w3.heap.size → j ≠ r → w5.heap[j]? = w3.heap[j]? := fun j h1 h2 => (g5.block j h1).trans (Below.heap_setCell w3 ⟨r, 0, none⟩ _ j h2)
  have q6 : ∀ j, j ≠ r → (w5.setCell ⟨r, 1, none⟩ (.bool ov)).heap[j]? = w5.heap[j]? := fun j h2 => Below.heap_setCell w5 ⟨r, 1, none⟩ _ j h2
  have z6 : (w5.setCell ⟨r, 1, none⟩ (.bool ov)).heap.size = w5.heap.size := by simp [World.setCell]
  refine ⟨⟨us2.drop Ls.length, A3, k, d3, by simp, fun a e j u hj => ?_, fun e => by have := hB2 e; omega, ?_, R5.set1 ov, hk, ?_, fun a e => ?_⟩, by omega, fun j h1 h2 => ?_, ?_⟩
  · rw [List.getElem?_drop] at hj
    have hlt : Ls.length + j < us2.length := (List.getElem?_eq_some_iff.1 hj).1
    rcases hB with h | h
    · omega
    · rcases tx.row.2 with ⟨e2, e3⟩ | ⟨g, cap, cur, e2, hb, hh, _⟩
      · omega
      · have e4 : B2 = some ⟨g, 0, none⟩ := by injection e2
        rw [h, e4] at e
        injection e with e
        subst e
        have := tx.row.cells (g := g) (by rw [e4]; rfl) _ _ hj
        refine ⟨?_, by rw [add_block]; show W.heap.size ≤ g; omega, by rw [add_block]; have := (tx.lt g (by rw [e4]; rfl)).2; show g < _; omega⟩
        rw [add_add']
        rw [← this]
        exact World.cell?_of_block (by rw [add_block]; exact q6 g (by omega))
  · refine (tx.lines.drop Ls ks rfl).imp (fun A n L b hb => b.kept fun _ a e => q6 _ (by have := (hb a e).1; omega)) (fun j h1 h2 => by have := h2.1; omega) (by omega)
  · exact O3.reads.kept fun _ a e => by
      have := O3.new a.block (by rw [e]; rfl)
      exact (q6 _ (by omega)).trans (q3 _ (by omega) (by omega))
  · have := (O3.new a.block (by rw [e]; rfl)).1
    omega
  · exact (q6 j h2).trans ((q3 j (by omega) h2).trans ((O3.bel.block j (by omega)).trans (b1.block j h1)))
  · have h1 := (b1.mono (Nat.le_of_lt hr)).trans (O3.bel.mono (by omega : r ≤ w1.heap.size))
    have h2 := (h1.setCell (p := ⟨r, 0, none⟩) (Nat.le_refl _) (.slice A3 k d3)).trans (g5.mono (by omega : r ≤ w3.heap.size))
    exact h2.setCell (p := ⟨r, 1, none⟩) (Nat.le_refl _) _

set_option maxRecDepth 100000 in
set_option maxHeartbeats 8000000 in
theorem rfeed_any {r n c m d : Nat} {A B : Option Addr} {L X : List Nat} {Ls ks : List (List Nat)} {M N : List Nat} {ov : Bool} (W : World) (h : RB W r (.slice A n c) false) (hL : Bs W A n L) (hnc : n ≤ c) (hn : n ≤ 274877906944)
    (hX : Bs W B m X) (hm : m ≤ 274877906944) (hf : feedS ([], [], false) L = (Ls, M, false)) (hg : feedS ([], [], false) (L ++ X) = (Ls ++ ks, N, ov)) :
    Calls Try.prog 12 #[.pointer (some ⟨r, 0, none⟩), .slice B m d] W (RFedE W r (L ++ X) ov ks) := by
  have HL := Lib.hid hL
  have HX := Lib.hid hX
  have HR := Lib.hid h
  have HF := Lib.hid hf
  have HG := Lib.hid hg
  have hr := h.lt
  clear hL hX hf hg
  have c0 := h.c0
  have c1 := h.c1
  have z0 := h.z0
  have z1 := h.z1
  clear h
  go_enter Try.func12, Try.ntmps12
  go_wp2_with fail
  refine (lines_any W HL.out hnc (by omega)).mono ?_
  rintro e w1 ⟨lv, us, Ls', M', ov', A', n', c', hf', rfl, tx, O⟩
  rw [HF.out] at hf'
  simp only [Prod.mk.injEq] at hf'
  obtain ⟨rfl, rfl, rfl⟩ := hf'
  have B1 := Lib.hid O.bel
  have hs1 := O.bel.size
  obtain ⟨lA, lc, rfl, _⟩ := row_shape tx.row
  have hul : us.length = Ls.length := tx.lines.len
  rw [hul]
  clear O tx hul c0 c1 z0 z1
  have R1 := Lib.hid (HR.out.later B1.out)
  have c0 := R1.out.c0
  have z0 := R1.out.z0
  have g0 : Below w1.heap.size w1 (w1.alloc (.cells #[] 5)) := (Below.refl _ _).alloc (Nat.le_refl _) _
  have hr1 : r < w1.heap.size := R1.out.lt
  go_wp2_with (at_builtin; refine wpList_app rfl _ _ rfl rfl (Own.made (Below.refl _ _) _ _ ?c1 ?c2) rfl ((HL.out.later B1.out).later g0) ?c3 ?_)
  case c1 => decide
  case c2 => rfl
  case c3 => omega
  intro A2 d2 w2 h2 O2 g2
  have O2 := Lib.hid O2
  clear g2
  go_wp2_with (at_builtin; refine wpList_app rfl _ _ rfl rfl O2.out rfl ((HX.out.later B1.out).later O2.out.bel) ?c4 ?_)
  case c4 => omega
  intro A3 d3 w3 h3 O3 g3
  have O3 := Lib.hid O3
  have R3 := Lib.hid (R1.out.later O3.out.bel)
  clear g3 c0 z0
  have c0 := R3.out.c0
  have z0 := R3.out.z0
  have s3 : w1.heap.size ≤ w3.heap.size := O3.out.bel.size
  have RD : Hid (Bs (w3.setCell ⟨r, 0, none⟩ (.slice A3 (n + m) d3)) A3 (n + m) (L ++ X)) := Lib.hid (O3.out.reads.kept fun _ a e => Below.heap_setCell w3 ⟨r, 0, none⟩ _ _ (by have := (O3.out.new a.block (by rw [e]; rfl)).1; show a.block ≠ r; omega))
  go_wp2_with fail
  refine (lines_any _ RD.out h3 (by omega)).mono ?_
  rintro e w5 ⟨lv2, us2, Ls2, M2, ov2, A5, n5, c5, hf', rfl, tx, O5⟩
  rw [HG.out] at hf'
  simp only [Prod.mk.injEq] at hf'
  obtain ⟨rfl, rfl, rfl⟩ := hf'
  obtain ⟨lB, lc2, rfl, hlc⟩ := row_shape tx.row
  have hlen2 : us2.length = Ls.length + ks.length := by have := tx.lines.len; simpa using this
  have TX := Lib.hid tx
  have G5 := Lib.hid O5.bel
  have R5 : Hid (RB w5 r (.slice A3 (n + m) d3) false) := Lib.hid ((R3.out.set0 _).later O5.bel)
  have HL2 := Lib.hid hlen2
  clear tx O5 c0 z0
  rw [hlen2] at hlc
  rw [hlen2]
  clear hlen2
  have c1 := R5.out.c1
  have z1 := R5.out.z1
  have s5 : w3.heap.size ≤ w5.heap.size := by have := G5.out.size; simp [World.setCell] at this; omega
  have hr5 : r < w5.heap.size := R5.out.lt
  have GG : Below w3.heap.size (w3.setCell ⟨r, 0, none⟩ (.slice A3 (n + m) d3)) w5 := G5.out.mono (by simp [World.setCell])
  have TT : Tx (fun j => w3.heap.size ≤ j) w3.heap.size (.slice lB us2.length lc2) us2 (Ls ++ ks) w5 := by
    have h := TX.out
    have e : (w3.setCell ⟨r, 0, none⟩ (.slice A3 (n + m) d3)).heap.size = w3.heap.size := by simp [World.setCell]
    rw [e] at h
    exact h
  have hN : lB = none → us2.length = 0 := fun e => by
    rcases TT.row.2 with ⟨_, e3⟩ | ⟨g, cap, cur, e2, _⟩
    · exact e3
    · rw [e] at e2
      injection e2 with e2
      cases e2
  by_cases hcp : lc2 = Ls.length
  · have hk0 : ks = [] := List.eq_nil_of_length_eq_zero (by omega)
    subst hk0
    subst hcp
    have E := Lib.hid (rfed_end (ov := ov) B1.out R1.out hr O3.out h3 TT GG lB (.inl (by have := HL2.out; simpa using this)) (fun _ => by have := HL2.out; simpa using this))
    have e0 : us2.length - Ls.length = 0 := by have := HL2.out; simp at this; omega
    rw [e0] at E
    clear GG TT hN e0
    cases ov
    · go_wp2_with fail
      go_ret2
      exact ⟨_, _, _, rfl, E.out⟩
    · go_wp2_with fail
      go_ret2
      exact ⟨_, _, _, rfl, E.out⟩
  · have E := Lib.hid (rfed_end (ov := ov) B1.out R1.out hr O3.out h3 TT GG (lB.map (·.add Ls.length)) (.inr rfl) (fun e => by
      have := hN (by cases lB with | none => rfl | some a => cases e)
      have := HL2.out
      omega))
    have e0 : us2.length - Ls.length = ks.length := by have := HL2.out; omega
    rw [e0] at E
    clear GG TT hN e0
    cases ov
    · go_wp2_with fail
      go_ret2
      exact ⟨_, _, _, rfl, E.out⟩
    · go_wp2_with fail
      go_ret2
      exact ⟨_, _, _, rfl, E.out⟩
end Go.Proofs.Ytfmfooocfcdalaa
