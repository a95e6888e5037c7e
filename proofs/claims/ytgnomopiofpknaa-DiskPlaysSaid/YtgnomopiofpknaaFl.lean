/- A file of a disk in memory: what is sure, and the row of what is loose. No condition. -/
import Derived.Test.YtgnomopiofpknaaChg
namespace Go.Proofs.Ytgnomopiofpknaa
open Go.RowKit

theorem OwnRw.kept {α : Type} {T : TypeId} {sz : Nat} {R : Reads α} {w0 w w' : World} {Q : Nat → Prop} {v : Value} {n : Nat} {l : List α} (M : Mono R) (h : OwnRw T sz R w0 Q v n l w)
    (hs : w.heap.size ≤ w'.heap.size) (hk : ∀ b, Q b ∨ v.ownBlock = some b → b < w.heap.size → w'.heap[b]? = w.heap[b]?) (hb : Below w0.heap.size w0 w') : OwnRw T sz R w0 Q v n l w' := by
  obtain ⟨cs, h1, h2, h3⟩ := h.row
  refine ⟨⟨cs, ⟨h1.1, ?_⟩, h2.imp fun V x hx => M.keep hx ⟨hs, fun b hq hl => hk b (.inl hq.1) hl⟩, h3⟩, h.len, hb⟩
  rcases h1.2 with e | ⟨g, cap, cur, e, hg, hh, r⟩
  · exact .inl e
  · refine .inr ⟨g, cap, cur, e, hg, ?_, r⟩
    rw [hk g (.inr (by rw [e]; rfl)) (Array.getElem?_eq_some_iff.1 hh).1]
    exact hh
theorem Own.kept {w0 w w' : World} {v : Value} {n : Nat} {L : List Nat} (h : Own w0 v n L w) (hk : ∀ b, v.ownBlock = some b → w'.heap[b]? = w.heap[b]?) (hb : Below w0.heap.size w0 w') : Own w0 v n L w' := by
  refine ⟨⟨h.row.1, ?_⟩, h.byt, hb⟩
  rcases h.row.2 with e | ⟨g, cap, cur, e, hg, hh, r⟩
  · exact .inl e
  · refine .inr ⟨g, cap, cur, e, hg, ?_, r⟩
    rw [hk g (by rw [e]; rfl)]
    exact hh
theorem OwnRw.short {α : Type} {T : TypeId} {R : Reads α} {w0 w : World} {Q : Nat → Prop} {A : Option Addr} {n c : Nat} {l : List α} (h : OwnRw T 1 R w0 Q (.slice A n c) n l w) {k : Nat} (hk : k ≤ n) : OwnRw T 1 R w0 Q (.slice A k c) k (l.take k) w := by
  obtain ⟨cs, h1, h2, h3⟩ := h.row
  have hl := h.len
  refine ⟨⟨cs.take k, by have := ownsRow_short h1 hk; rwa [Nat.mul_one] at this, ?_, fun u hu => h3 u (List.mem_of_mem_take hu)⟩, by rw [List.length_take]; omega, h.bel⟩
  have e : (Value.slice A k c).ownBlock = (Value.slice A n c).ownBlock := by cases A <;> rfl
  rw [e]
  rcases Nat.lt_or_ge k l.length with hlt | hge
  · obtain ⟨X, V, Z, rfl, hX, _, _, hE, _⟩ := h2.at_ hlt
    rw [Nat.mul_one] at hX
    rw [← hX, List.take_left]
    rw [hX]
    exact hE
  · rw [List.take_of_length_le hge, List.take_of_length_le (by rw [h2.len]; omega)]
    exact h2

/-- P and what is new. -/
def Gr (P : Nat → Prop) (w w' : World) : Nat → Prop := fun b => P b ∨ (w.heap.size ≤ b ∧ b < w'.heap.size)
structure FlAt (w0 : World) (P : Nat → Prop) (vs vl : Value) (S : Fl) (w : World) : Prop where
  sure : Own w0 vs S.sure.length S.sure w
  loose : OwnRw 83 1 ChgR w0 (fun b => P b ∧ some b ≠ vs.ownBlock) vl S.loose.length S.loose w
  ps : ∀ k, vs.ownBlock = some k → P k
  pl : ∀ k, vl.ownBlock = some k → P k ∧ vs.ownBlock ≠ some k
  lt : ∀ k, P k → w0.heap.size ≤ k ∧ k < w.heap.size
section
variable {w0 w w' : World} {P : Nat → Prop} {vs vl vs' vl' : Value} {S : Fl}
/-- What is in P lies as it lay. -/
theorem FlAt.keep (F : FlAt w0 P vs vl S w) (g : Kept P w w') (hb : Below w0.heap.size w0 w') : FlAt w0 P vs vl S w' where
  sure := F.sure.kept (fun b e => g.blk b (F.ps b e) (F.lt b (F.ps b e)).2) hb
  loose := F.loose.kept chgM g.size (fun b h hl => by
    rcases h with h | h
    · exact g.blk b h.1 hl
    · exact g.blk b (F.pl b h).1 hl) hb
  ps := F.ps
  pl := F.pl
  lt := fun k h => ⟨(F.lt k h).1, Nat.lt_of_lt_of_le (F.lt k h).2 g.size⟩
theorem FlAt.more {Q : Nat → Prop} (F : FlAt w0 P vs vl S w) (h1 : ∀ k, P k → Q k) (h2 : ∀ k, Q k → w0.heap.size ≤ k ∧ k < w.heap.size) : FlAt w0 Q vs vl S w where
  sure := F.sure
  loose := F.loose.weak chgM fun b hb _ => ⟨h1 b hb.1, hb.2⟩
  ps := fun k e => h1 k (F.ps k e)
  pl := fun k e => ⟨h1 k (F.pl k e).1, (F.pl k e).2⟩
  lt := h2
theorem Gr.lt (F : FlAt w0 P vs vl S w) (hb : Below w0.heap.size w0 w) (hs : w.heap.size ≤ w'.heap.size) : ∀ k, Gr P w w' k → w0.heap.size ≤ k ∧ k < w'.heap.size := fun k h => by
  rcases h with h | h
  · exact ⟨(F.lt k h).1, Nat.lt_of_lt_of_le (F.lt k h).2 hs⟩
  · exact ⟨Nat.le_trans hb.size h.1, h.2⟩
/-- Another sure row. -/
theorem FlAt.turn {n : Nat} {M : List Nat} (F : FlAt w0 P vs vl S w) (G : Grew w w' vs vs') (O : Own w0 vs' n M w') : FlAt w0 (Gr P w w') vs' vl ⟨M, S.loose⟩ w' := by
  have hs := G.g.size
  have gl := Gr.lt F F.sure.bel hs
  have ne : ∀ b, some b ≠ vs.ownBlock → b < w.heap.size → some b ≠ vs'.ownBlock := fun b h hl => by
    rcases G.ne with e | e
    · rw [e]; exact h
    · intro q
      have := e b q.symm
      omega
  have hn : M.length = n := O.len
  subst hn
  refine ⟨O, ?_, fun k e => ?_, fun k e => ?_, gl⟩
  · have x := F.loose.kept chgM hs (w' := w') (fun b h hl => by
      rcases h with h | h
      · exact G.g.block b hl h.2
      · exact G.g.block b hl fun e => (F.pl b h).2 e.symm) O.bel
    have h0 := F.loose.new
    obtain ⟨cs, h1, h2, h3⟩ := F.loose.row
    obtain ⟨cs', y1, y2, y3⟩ := x.row
    have hk : Kept (fun b => (P b ∧ some b ≠ vs.ownBlock) ∧ some b ≠ vl.ownBlock) w w' := ⟨hs, fun b hb hl => G.g.block b hl hb.1.2⟩
    refine ⟨⟨cs, ?_, h2.imp fun V c hc => ?_, h3⟩, F.loose.len, O.bel⟩
    · refine ⟨h1.1, ?_⟩
      rcases h1.2 with e | ⟨g, cap, cur, e, hg, hh, r⟩
      · exact .inl e
      · refine .inr ⟨g, cap, cur, e, hg, ?_, r⟩
        have q : vl.ownBlock = some g := by rw [e]; rfl
        rw [G.g.block g (Array.getElem?_eq_some_iff.1 hh).1 fun e2 => (F.pl g q).2 e2.symm]
        exact hh
    · have y := chgM.weak hc (Q := fun b => ((P b ∧ some b ≠ vs.ownBlock) ∧ some b ≠ vl.ownBlock) ∧ b < w.heap.size) fun b hb hl => ⟨hb, hl⟩
      have z := chgM.keep y (w' := w') ⟨hs, fun b hb hl => G.g.block b hl hb.1.1.2⟩
      exact chgM.weak z fun b hb _ => ⟨⟨.inl hb.1.1.1, ne b hb.1.1.2 hb.2⟩, hb.1.2⟩
  · rcases G.ne with q | q
    · exact .inl (F.ps k (by rw [← q]; exact e))
    · exact .inr ⟨q k e, (O.new k e).2⟩
  · refine ⟨.inl (F.pl k e).1, fun q => ?_⟩
    have hl := (F.lt k (F.pl k e).1).2
    exact ne k (fun z => (F.pl k e).2 z.symm) hl q.symm
/-- An element of the loose row. -/
theorem FlAt.at_ (F : FlAt w0 P vs vl S w) {i : Nat} (hi : i < S.loose.length) : ∃ g c V, vl = .slice (some ⟨g, 0, none⟩) S.loose.length c ∧ S.loose.length ≤ c ∧ w.cell? ⟨g, i, none⟩ = some V ∧ ChgR w (fun b => P b ∧ some b ≠ vs.ownBlock ∧ some b ≠ vl.ownBlock) [V] S.loose[i] := by
  obtain ⟨cs, h1, h2, h3⟩ := F.loose.row
  obtain ⟨g, cap, hv, _, _⟩ := h1.form (by omega)
  obtain ⟨A, c, e, hc⟩ := F.loose.shape
  obtain ⟨X, V, Z, rfl, hX, hV, hR, _, _⟩ := h2.at_ hi
  obtain ⟨u, rfl⟩ : ∃ u, V = [u] := by
    match V, hV with
    | [u], _ => exact ⟨u, rfl⟩
  rw [hv] at e
  injection e with e1 e2 e3
  subst e3
  refine ⟨g, cap, u, hv, hc, ?_, chgM.weak hR fun b hb _ => ⟨hb.1.1, hb.1.2, hb.2⟩⟩
  have ea : (⟨g, i, none⟩ : Addr) = (⟨g, 0, none⟩ : Addr).add i := by unfold Addr.add; split <;> simp_all
  rw [ea]
  exact h1.cells (g := g) (by rw [hv]; rfl) i u (by
    rw [Nat.mul_one] at hX
    rw [List.getElem?_append_right (by omega), hX, Nat.sub_self]
    rfl)
end
end Go.Proofs.Ytgnomopiofpknaa
