/- DiskEnds: the law's boxes, and a disk behind changes. No condition. -/
import Derived.Test.YtgnomopiofpknaaLd
namespace Go.Proofs.Ytgnomopiofpknaa
open Go.RowKit

/-- The two boxes of the law. -/
structure Bx (w : World) (g : Nat) (a0 a1 b0 b1 : ByteArray) (wr : World) : Prop where
  bel : Below w.heap.size w wr
  lo : w.heap.size ≤ g
  a : Ro wr g 41 [.string a0, .string a1]
  b : Ro wr (g + 1) 41 [.string b0, .string b1]
def XB (g : Nat) : Nat → Prop := fun b => b = g ∨ b = g + 1
theorem Bx.lt {w wr : World} {g : Nat} {a0 a1 b0 b1 : ByteArray} (h : Bx w g a0 a1 b0 b1 wr) : ∀ b, XB g b → b < wr.heap.size := fun b hb => by
  rcases hb with rfl | rfl
  · exact h.a.lt
  · exact h.b.lt
theorem Bx.keep {w wr w1 : World} {g : Nat} {a0 a1 b0 b1 : ByteArray} (h : Bx w g a0 a1 b0 b1 wr) (k : Kept (XB g) wr w1) (hb : Below w.heap.size w w1) : Bx w g a0 a1 b0 b1 w1 :=
  ⟨hb, h.lo, h.a.same (k.blk _ (.inl rfl) h.a.lt), h.b.same (k.blk _ (.inr rfl) h.b.lt)⟩
theorem live_new (m : Nat) : Live (newD m) := ⟨rfl, rfl⟩
/-- Behind j changes. -/
def ChAt (w : World) (d g : Nat) (a0 a1 b0 b1 : ByteArray) (S0 : Dk) (l : List StepD) (j : Nat) (wr : World) : Prop := ∃ S, Dp w d (XB g) S wr ∧ Chgd S0 (wts (l.take j)) S ∧ S = (l.take j).foldl Dk.change S0 ∧ Bx w g a0 a1 b0 b1 wr
theorem foldl_next {l : List StepD} {j : Nat} (h : j < l.length) (S0 : Dk) : (l.take (j + 1)).foldl Dk.change S0 = ((l.take j).foldl Dk.change S0).change l[j] := by
  rw [List.take_add_one, List.getElem?_eq_getElem h, List.foldl_append]
  rfl
theorem ChAt.step {w wr : World} {d g n : Nat} {a0 a1 b0 b1 : ByteArray} {S0 : Dk} {l : List StepD} {j b o : Nat} (H : ChAt w d g a0 a1 b0 b1 S0 l j wr) (hL : Rows w anyP 5 StepR (some ⟨b, o, none⟩) n l) (hj : j < l.length) (hw : wts l ≤ 8192) (hc : S0.cnt ≤ 8192) :
    ∃ V, V.length = 5 ∧ wr.rangeAt b (o + j * 5) V ∧ Calls Try.prog 20 #[.pointer (some ⟨d, 0, none⟩), .agg V.toArray] wr fun e W => e = .returned (.tuple #[]) ∧ ChAt w d g a0 a1 b0 b1 S0 l (j + 1) W := by
  obtain ⟨S, D, C, hS, X⟩ := H
  obtain ⟨B, cb, Q, cq, hr, ok, h1, h2, h3, h4, h5, h6⟩ := step_whole hL hj
  have hbb := (hL.at_ hj).1
  have := wts_take l j
  refine ⟨_, rfl, fun q v hq => (X.bel.cell (p := ⟨b, o + j * 5 + q, none⟩) hbb).trans (hr q v hq), (change_p D (by have := C.cnt; omega) (h3.later X.bel) (fun h0 a e => by
    obtain ⟨a', e', hb', _⟩ := h3.cel h0
    rw [e] at e'
    injection e' with e'
    subst e'
    exact hb') h1 h2 ok.k).mono fun e W ⟨e1, D', K⟩ => ⟨e1, _, D', ?_, ?_, X.keep K D'.bel⟩⟩
  · rw [wts_next hj]
    exact C.change _
  · rw [foldl_next hj, hS]

/-- A box's string is another. -/
theorem Dp.box {w wr : World} {d g : Nat} {S : Dk} (D : Dp w d (XB g) S wr) {q : Nat} (hq : XB g q) (hl : w.heap.size ≤ g) (o : Nat) (v : Value) : Dp w d (XB g) S (wr.setCell ⟨q, o, none⟩ v) := by
  refine D.keep (kept_set wr q o v (P := fun b => ¬ XB g b) fun h => h hq) (D.bel.setCell ?_ v)
  rcases hq with rfl | rfl
  · exact hl
  · exact Nat.le_succ_of_le hl
theorem Bx.set {w wr : World} {g : Nat} {a0 a1 b0 b1 : ByteArray} (h : Bx w g a0 a1 b0 b1 wr) (v : ByteArray) :
    Bx w g a0 a1 v b1 (wr.setCell ⟨g + 1, 0, none⟩ (.string v)) ∧ Bx w g a0 a1 b0 v (wr.setCell ⟨g + 1, 1, none⟩ (.string v)) ∧ Bx w g v a1 b0 b1 (wr.setCell ⟨g, 0, none⟩ (.string v)) ∧ Bx w g a0 v b0 b1 (wr.setCell ⟨g, 1, none⟩ (.string v)) := by
  have l1 : w.heap.size ≤ g + 1 := Nat.le_succ_of_le h.lo
  exact ⟨⟨h.bel.setCell l1 _, h.lo, h.a.other (by omega) _, h.b.set 0 _⟩, ⟨h.bel.setCell l1 _, h.lo, h.a.other (by omega) _, h.b.set 1 _⟩, ⟨h.bel.setCell h.lo _, h.lo, h.a.set 0 _, h.b.other (by omega) _⟩, ⟨h.bel.setCell h.lo _, h.lo, h.a.set 1 _, h.b.other (by omega) _⟩⟩
/-- f files are settled. -/
def Sy (S : Dk) : Nat → Dk
  | 0 => S
  | f + 1 => (Sy S f).put f ((Sy S f).at f).settle
theorem Live.sy {S : Dk} (h : Live S) : ∀ f, Live (Sy S f)
  | 0 => h
  | f + 1 => (h.sy f).put _ _
theorem sy_cnt (S : Dk) : (Sy S 0).cnt ≤ S.cnt ∧ (Sy S 1).cnt ≤ S.cnt ∧ (Sy S 2).cnt = 0 := by
  refine ⟨Nat.le_refl _, ?_, rfl⟩
  show 0 + S.g.loose.length ≤ _
  unfold Dk.cnt
  omega
/-- What the rounds of the syncs hand on. -/
def SyAt (w : World) (d g : Nat) (a0 a1 : ByteArray) (S : Dk) (f : Nat) (wr : World) : Prop := ∃ b0 b1, Dp w d (XB g) (Sy S f) wr ∧ Bx w g a0 a1 b0 b1 wr ∧ (0 < f → b0 = strB S.f.at) ∧ (1 < f → b1 = strB S.g.at)
/-- What the rounds of the reads hand on. -/
def RdAt (w : World) (d g : Nat) (b0 b1 : ByteArray) (S : Dk) (f : Nat) (wr : World) : Prop := ∃ a0 a1, Dp w d (XB g) S wr ∧ Bx w g a0 a1 b0 b1 wr ∧ (0 < f → a0 = strB S.f.at) ∧ (1 < f → a1 = strB S.g.at)
end Go.Proofs.Ytgnomopiofpknaa
