/- What holds between two parts that are fed: the boxes of Feed, the framer, the bytes that are held, the lines so far. No condition. -/
import Derived.Test.YtfmfooocfcdalaaFeed0
import Derived.Test.YtfmfooocfcdalaaFeedS
namespace Go.Proofs.Ytfmfooocfcdalaa
open Go.RowKit

/-- Blocks of cells, but for one, lie as they lay; and so do all below s. -/
structure Keeps (s Bx : Nat) (W W' : World) : Prop where
  size : W.heap.size ≤ W'.heap.size
  cells : ∀ k o, k ≠ Bx → W.heap[k]? = some o → o.isCells = true → W'.heap[k]? = some o
  low : ∀ k, k < s → W'.heap[k]? = W.heap[k]?
  os : W'.os = W.os
  tape : W'.tape = W.tape
  output : W'.output = W.output
theorem Keeps.below {s Bx : Nat} {W W' : World} (h : Keeps s Bx W W') {B : Nat} (hB : B ≤ s) : Below B W W' := ⟨h.os, h.tape, h.output, h.size, fun k hk => h.low k (by omega)⟩
theorem Keeps.of_grown {s Bx : Nat} {W W' : World} {row : Option Nat} (hs : s ≤ W.heap.size) (hg : W.grownBy W' row) (hr : ∀ r, row = some r → s ≤ r ∧ ∃ o : Obj, W.heap[r]? = some o ∧ o.isCells = false) : Keeps s Bx W W' :=
  ⟨hg.size, fun k o _ hk hc => by rw [grownBy_keeps_cells hg (fun r e => (hr r e).2) hk hc, hk], fun k hk => hg.block k (by omega) (fun e => by have := (hr k e.symm).1; omega), hg.os, hg.tape, hg.output⟩
theorem Keeps.of_box {s Bx : Nat} {W W' : World} (hs : s ≤ Bx) (h : Tb Bx W W') : Keeps s Bx W W' := by
  obtain ⟨v, rfl⟩ := h
  exact ⟨by simp [World.setCell], fun k o hk ho _ => (Below.heap_setCell W ⟨Bx, 0, none⟩ v k hk).trans ho, fun k hk => Below.heap_setCell W ⟨Bx, 0, none⟩ v k (by show k ≠ Bx; omega), rfl, rfl, rfl⟩
section
variable {s Bx : Nat} {W W' : World}
theorem Keeps.boxed (h : Keeps s Bx W W') {B : Nat} {t : TypeId} {v : Value} (b : Boxed W B t v) (hne : B ≠ Bx) : Boxed W' B t v := h.cells B _ hne b rfl
theorem Keeps.frB (h : Keeps s Bx W W') {f : Nat} {v : Value} {ov : Bool} (b : FrB W f v ov) (hne : f ≠ Bx) : FrB W' f v ov := h.cells f _ hne b rfl
theorem Keeps.row (h : Keeps s Bx W W') {base : Nat} {e : TypeId} {size : Nat} {v : Value} {n : Nat} {xs : List Value} (b : W.ownsRow base e size v n xs) (hne : v.ownBlock ≠ some Bx) : W'.ownsRow base e size v n xs := by
  refine ⟨b.1, ?_⟩
  rcases b.2 with h2 | ⟨g, cap, cur, hv, hb, hh, r⟩
  · exact .inl h2
  · exact .inr ⟨g, cap, cur, hv, hb, h.cells g _ (fun e => hne (by rw [hv, ← e]; rfl)) hh rfl, r⟩
theorem Keeps.own (h : Keeps s Bx W W') {w0 : World} {v : Value} {n : Nat} {L : List Nat} (b : Own w0 v n L W) (hne : v.ownBlock ≠ some Bx) (hs : w0.heap.size ≤ s) : Own w0 v n L W' := ⟨h.row b.row hne, b.byt, b.bel.trans (h.below hs)⟩
theorem Keeps.bs (h : Keeps s Bx W W') {A : Option Addr} {n : Nat} {L : List Nat} (b : Bs W A n L) (hne : ∀ a, A = some a → a.block ≠ Bx) : Bs W' A n L :=
  ⟨b.len, b.byt, fun hn => by
    obtain ⟨a, e, hb, hc⟩ := b.cel hn
    obtain ⟨o, ho, hoc⟩ := cells_of_cell (hc 0 hn)
    rw [add_block] at ho
    have h2 := h.cells _ o (hne a e) ho hoc
    refine ⟨a, e, (Array.getElem?_eq_some_iff.1 h2).1, fun k hk => ?_⟩
    rw [← hc k hk]
    exact World.cell?_of_block (by rw [add_block, h2, ho])⟩
end

/-- A line that was told: a slice that reads as its bytes, in a block of its own. -/
def LineV (W : World) (ok : Nat → Prop) (u : Value) (L : List Nat) : Prop := ∃ A n c, u = .slice A n c ∧ n ≤ c ∧ Bs W A n L ∧ ∀ a, A = some a → ok a.block ∧ a.block < W.heap.size
/-- Lines, one by one. -/
inductive LinesV (W : World) (ok : Nat → Prop) : List Value → List (List Nat) → Prop
  | nil : LinesV W ok [] []
  | snoc {us : List Value} {Ls : List (List Nat)} {u : Value} {L : List Nat} : LinesV W ok us Ls → LineV W ok u L → LinesV W ok (us ++ [u]) (Ls ++ [L])
theorem LineV.imp {W W' : World} {ok ok' : Nat → Prop} {u : Value} {L : List Nat} (h : LineV W ok u L) (hb : ∀ A n L, Bs W A n L → (∀ a, A = some a → ok a.block) → Bs W' A n L) (hk : ∀ k, k < W.heap.size → ok k → ok' k) (hs : W.heap.size ≤ W'.heap.size) : LineV W' ok' u L := by
  obtain ⟨A, n, c, e, hc, b, a⟩ := h
  exact ⟨A, n, c, e, hc, hb A n L b fun x hx => (a x hx).1, fun x hx => ⟨hk _ (a x hx).2 (a x hx).1, Nat.lt_of_lt_of_le (a x hx).2 hs⟩⟩
theorem LinesV.imp {W W' : World} {ok ok' : Nat → Prop} {us : List Value} {Ls : List (List Nat)} (h : LinesV W ok us Ls) (hb : ∀ A n L, Bs W A n L → (∀ a, A = some a → ok a.block) → Bs W' A n L) (hk : ∀ k, k < W.heap.size → ok k → ok' k) (hs : W.heap.size ≤ W'.heap.size) : LinesV W' ok' us Ls := by
  induction h with
  | nil => exact .nil
  | snoc _ hu ih => exact .snoc ih (hu.imp hb hk hs)
theorem LinesV.len {W : World} {ok : Nat → Prop} {us : List Value} {Ls : List (List Nat)} (h : LinesV W ok us Ls) : us.length = Ls.length := by
  induction h with
  | nil => rfl
  | snoc _ _ ih => simp [ih]

/-- Where a line may lie. -/
def lineOk (s f : Nat) (k0 : Option Nat) (v lv : Value) (k : Nat) : Prop := (k0 = some k ∨ s + 4 ≤ k) ∧ k ≠ f ∧ v.ownBlock ≠ some k ∧ lv.ownBlock ≠ some k

structure FJ (w0 w : World) (f : Nat) (k0 : Option Nat) (ls : List (List Nat)) (M : List Nat) (er : Int) (v lv : Value) (vs : List Value) (W : World) : Prop where
  b2 : Boxed W w.heap.size 24 (.pointer (some ⟨f, 0, none⟩))
  b4 : Boxed W (w.heap.size + 1) 30 lv
  b5 : Boxed W (w.heap.size + 2) 36 (.int .i64 er)
  held : Own w0 v M.length M W
  hb : ∀ k, v.ownBlock = some k → (k0 = some k ∨ w.heap.size + 4 ≤ k) ∧ k ≠ f ∧ lv.ownBlock ≠ some k
  row : W.ownsRow (w.heap.size + 4) 27 1 lv vs.length vs
  lines : LinesV W (lineOk w.heap.size f k0 v lv) vs ls
  old : ∀ k, k < w.heap.size → k ≠ f → k0 ≠ some k → W.heap[k]? = w.heap[k]?
  size : w.heap.size + 4 ≤ W.heap.size
  fl : f < w.heap.size
  kl : ∀ k, k0 = some k → k < w.heap.size
  wl : w0.heap.size ≤ w.heap.size
  fw : w0.heap.size ≤ f

section
variable {w0 w : World} {f : Nat} {k0 : Option Nat} {ls : List (List Nat)} {M : List Nat} {er : Int} {v lv : Value} {vs : List Value} {W W' : World}
theorem FJ.keep (h : FJ w0 w f k0 ls M er v lv vs W) (g : Keeps w.heap.size (w.heap.size + 3) W W') : FJ w0 w f k0 ls M er v lv vs W' := by
  have hr := h.row.lt
  have hf := h.fl
  have hw := h.wl
  refine ⟨g.boxed h.b2 (by omega), g.boxed h.b4 (by omega), g.boxed h.b5 (by omega), g.own h.held (fun e => ?_) hw, h.hb, g.row h.row (fun e => by have := (hr _ e).1; omega), ?_, fun k h1 h2 h3 => (g.low k h1).trans (h.old k h1 h2 h3), Nat.le_trans h.size g.size, h.fl, h.kl, h.wl, h.fw⟩
  · rcases (h.hb _ e).1 with e2 | e2
    · have := h.kl _ e2; omega
    · omega
  · refine h.lines.imp (fun A n L b ha => g.bs b fun a e => ?_) (fun k _ hk => hk) g.size
    rcases (ha a e).1 with e2 | e2
    · have := h.kl _ e2; omega
    · omega

/-- Bytes more are held. -/
theorem FJ.app (h : FJ w0 w f k0 ls M er v lv vs W) {v' : Value} {P : List Nat} (ho : Own w0 v' (M.length + P.length) (M ++ P) W') (hg : W.grownBy W' v.ownBlock) (hl : v'.ownBlock = v.ownBlock ∨ v'.ownBlock = some W.heap.size) : FJ w0 w f k0 ls (M ++ P) er v' lv vs W' := by
  have hr := h.row.lt
  have hs := h.size
  have hf := h.fl
  have hv : ∀ k, v.ownBlock = some k → k < w.heap.size ∨ w.heap.size + 4 ≤ k := fun k e => (h.hb k e).1.imp (fun e2 => h.kl k e2) id
  have bx : ∀ B, w.heap.size ≤ B → B < w.heap.size + 4 → some B ≠ v.ownBlock := fun B h1 h2 e => by
    rcases hv B e.symm with h3 | h3 <;> omega
  refine ⟨h.b2.kept hg (bx _ (by omega) (by omega)), h.b4.kept hg (bx _ (by omega) (by omega)), h.b5.kept hg (bx _ (by omega) (by omega)), by rw [List.length_append]; exact ho, fun k e => ?_, h.row.kept hg ?_, ?_, fun k h1 h2 h3 => ?_, Nat.le_trans hs hg.size, h.fl, h.kl, h.wl, h.fw⟩
  · rcases hl with e2 | e2
    · exact h.hb k (by rw [← e2]; exact e)
    · rw [e2] at e
      injection e with e
      refine ⟨.inr (by omega), by omega, fun e3 => ?_⟩
      have := (hr _ e3).2
      omega
  · cases hlv : lv.ownBlock with
    | none => exact .inl rfl
    | some g => exact .inr fun e => (h.hb g e.symm).2.2 hlv
  · refine h.lines.imp (fun A n L b ha => b.far hg fun a e e2 => (ha a e).2.2.1 e2.symm) (fun k hk hok => ⟨hok.1, hok.2.1, fun e => ?_, hok.2.2.2⟩) hg.size
    rcases hl with e2 | e2
    · exact hok.2.2.1 (by rw [← e2]; exact e)
    · rw [e2] at e
      injection e with e
      omega
  · have : W'.heap[k]? = W.heap[k]? := hg.block k (by omega) (fun e => by
      rcases (h.hb k e.symm).1 with e2 | e2
      · exact h3 e2
      · omega)
    exact this.trans (h.old k h1 h2 h3)

/-- A store into the framer. -/
theorem FJ.store (h : FJ w0 w f k0 ls M er v lv vs W) (i : Nat) (x : Value) : FJ w0 w f k0 ls M er v lv vs (W.setCell ⟨f, i, none⟩ x) := by
  have hr := h.row.lt
  have hf := h.fl
  have g := grownBy_setCell' W f x
  have g : W.grownBy (W.setCell ⟨f, i, none⟩ x) (some f) := ⟨rfl, rfl, rfl, by simp [World.setCell], fun k _ hk => Below.heap_setCell W ⟨f, i, none⟩ x k (fun e => hk (by rw [e]))⟩
  have hne : ∀ {z : Value}, (∀ k, z.ownBlock = some k → k ≠ f) → z.ownBlock = none ∨ z.ownBlock ≠ some f := fun {z} hz => by
    cases hzz : z.ownBlock with
    | none => exact .inl rfl
    | some k => exact .inr fun e => by injection e with e; exact hz k hzz e
  refine ⟨h.b2.kept g (fun e => by injection e; omega), h.b4.kept g (fun e => by injection e; omega), h.b5.kept g (fun e => by injection e; omega), ⟨h.held.row.kept g (hne fun k e => (h.hb k e).2.1), h.held.byt, h.held.bel.setCell h.fw x⟩, h.hb, h.row.kept g (hne fun k e => by have := (hr k e).1; omega), ?_, fun k h1 h2 h3 => ?_, by have := h.size; have := g.size; omega, h.fl, h.kl, h.wl, h.fw⟩
  · exact h.lines.imp (fun A n L b ha => b.far g fun a e e2 => by injection e2 with e2; exact (ha a e).2.1 e2) (fun _ _ hk => hk) g.size
  · exact (g.block k (by have := h.size; omega) (fun e => by injection e with e; exact h2 e)).trans (h.old k h1 h2 h3)

/-- A store into a box of Feed's own. -/
theorem FJ.err (h : FJ w0 w f k0 ls M er v lv vs W) (e2 : Int) : FJ w0 w f k0 ls M e2 v lv vs (W.setCell ⟨w.heap.size + 2, 0, none⟩ (.int .i64 e2)) := by
  have hr := h.row.lt
  have hf := h.fl
  have g : W.grownBy (W.setCell ⟨w.heap.size + 2, 0, none⟩ (.int .i64 e2)) (some (w.heap.size + 2)) := grownBy_setCell' W _ _
  have hv : ∀ k, v.ownBlock = some k → k ≠ w.heap.size + 2 := fun k e => by
    rcases (h.hb k e).1 with e2 | e2
    · have := h.kl k e2; omega
    · omega
  have hne : ∀ {z : Value}, (∀ k, z.ownBlock = some k → k ≠ w.heap.size + 2) → z.ownBlock = none ∨ z.ownBlock ≠ some (w.heap.size + 2) := fun {z} hz => by
    cases hzz : z.ownBlock with
    | none => exact .inl rfl
    | some k => exact .inr fun e => by injection e with e; exact hz k hzz e
  refine ⟨h.b2.kept g (fun e => by injection e; omega), h.b4.kept g (fun e => by injection e; omega), h.b5.set _, ⟨h.held.row.kept g (hne hv), h.held.byt, h.held.bel.setCell (by have := h.wl; show w0.heap.size ≤ w.heap.size + 2; omega) _⟩, h.hb, h.row.kept g (hne fun k e => by have := (hr k e).1; omega), ?_, fun k h1 h2 h3 => ?_, by have := h.size; have := g.size; omega, h.fl, h.kl, h.wl, h.fw⟩
  · refine h.lines.imp (fun A n L b ha => b.far g fun a e e2 => ?_) (fun _ _ hk => hk) g.size
    injection e2 with e2
    rcases (ha a e).1 with e3 | e3
    · have := h.kl _ e3; omega
    · omega
  · exact (g.block k (by have := h.size; omega) (fun e => by injection e; omega)).trans (h.old k h1 h2 h3)

/-- What is held is told as a line. -/
theorem FJ.line (h : FJ w0 w f k0 ls M er v lv vs W) {lv' : Value} (ho : W'.ownsRow (w.heap.size + 4) 27 1 lv' (vs.length + 1) (vs ++ [v])) (hg : W.grownBy W' lv.ownBlock) (hl : lv'.ownBlock = lv.ownBlock ∨ ∃ k, lv'.ownBlock = some k ∧ W.heap.size ≤ k) :
    FJ w0 w f k0 (ls ++ [M]) [] er (.slice none 0 0) lv' (vs ++ [v]) (W'.setCell ⟨w.heap.size + 1, 0, none⟩ lv') := by
  have hr := h.row.lt
  have hr' := ho.lt
  have hs := h.size
  have hf := h.fl
  have hwl := h.wl
  have g : W'.grownBy (W'.setCell ⟨w.heap.size + 1, 0, none⟩ lv') (some (w.heap.size + 1)) := grownBy_setCell' W' _ _
  have bx : ∀ B, B < w.heap.size + 4 → some B ≠ lv.ownBlock := fun B h2 e => by have := (hr B e.symm).1; omega
  have b4 : Boxed W' (w.heap.size + 1) 30 lv := h.b4.kept hg (bx _ (by omega))
  have far : ∀ A n L, Bs W A n L → (∀ a, A = some a → (k0 = some a.block ∨ w.heap.size + 4 ≤ a.block) ∧ lv.ownBlock ≠ some a.block) → Bs (W'.setCell ⟨w.heap.size + 1, 0, none⟩ lv') A n L := fun A n L b ha =>
    (b.far hg fun a e e2 => (ha a e).2 e2.symm).far g fun a e e2 => by
      injection e2 with e2
      rcases (ha a e).1 with e3 | e3
      · have := h.kl _ e3; omega
      · omega
  have nok : ∀ k, k < W.heap.size → lv.ownBlock ≠ some k → lv'.ownBlock ≠ some k := fun k hk hne e => by
    rcases hl with e2 | ⟨q, e2, hq⟩
    · exact hne (by rw [← e2]; exact e)
    · rw [e2] at e
      injection e with e
      omega
  refine ⟨(h.b2.kept hg (bx _ (by omega))).kept g (fun e => by injection e; omega), b4.set _, (h.b5.kept hg (bx _ (by omega))).kept g (fun e => by injection e; omega), ⟨World.ownsRow_nil _ _ _ _, allB_nil, ?_⟩, (fun k e => by cases e), ?_, .snoc ?_ ?_, fun k h1 h2 h3 => ?_, by have := hg.size; have := g.size; omega, h.fl, h.kl, h.wl, h.fw⟩
  · exact (h.held.bel.grown hg h.held.bel.size (fun k e => by have := (hr k e).1; omega)).grown g (by have := h.held.bel.size; have := hg.size; omega) (fun k e => by cases e; omega)
  · have e1 : (vs ++ [v]).length = vs.length + 1 := by simp
    rw [e1]
    refine ho.kept g ?_
    cases hlv : lv'.ownBlock with
    | none => exact .inl rfl
    | some k => exact .inr fun e => by injection e with e; have := (hr' k hlv).1; omega
  · exact h.lines.imp (fun A n L b ha => far A n L b fun a e => ⟨(ha a e).1, (ha a e).2.2.2⟩) (fun k hk hok => ⟨hok.1, hok.2.1, (fun e => by cases e), nok k hk hok.2.2.2⟩) (by have := hg.size; have := g.size; omega)
  · obtain ⟨A, c, rfl, hc⟩ := h.held.shape
    refine ⟨A, _, c, rfl, hc, far _ _ _ h.held.reads fun a e => ?_, fun a e => ?_⟩
    · have := h.hb a.block (by rw [e]; rfl)
      exact ⟨this.1, this.2.2⟩
    · have h1 := h.hb a.block (by rw [e]; rfl)
      have h2 := (h.held.new a.block (by rw [e]; rfl)).2
      exact ⟨⟨h1.1, h1.2.1, (fun e => by cases e), nok _ h2 h1.2.2⟩, by have := hg.size; have := g.size; omega⟩
  · exact (g.block k (by have := hg.size; omega) (fun e => by injection e; omega)).trans ((hg.block k (by omega) (bx _ (by omega))).trans (h.old k h1 h2 h3))

/-- What is held is put off. -/
theorem FJ.none (h : FJ w0 w f k0 ls M er v lv vs W) : FJ w0 w f k0 ls [] er (.slice none 0 0) lv vs W :=
  ⟨h.b2, h.b4, h.b5, ⟨World.ownsRow_nil _ _ _ _, allB_nil, h.held.bel⟩, (fun k e => by cases e), h.row, h.lines.imp (fun _ _ _ b _ => b) (fun k _ hok => ⟨hok.1, hok.2.1, (fun e => by cases e), hok.2.2.2⟩) (Nat.le_refl _), h.old, h.size, h.fl, h.kl, h.wl, h.fw⟩
end
end Go.Proofs.Ytfmfooocfcdalaa
