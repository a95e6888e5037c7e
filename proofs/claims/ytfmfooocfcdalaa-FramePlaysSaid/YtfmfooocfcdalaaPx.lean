/- FramePlays: from one part to the next, outside of the walk. No condition but bounds on the lengths. -/
import Derived.Test.YtfmfooocfcdalaaPw
namespace Go.Proofs.Ytfmfooocfcdalaa
open Go.RowKit

def PX (w : World) (f r tot : Nat) (tv wv : Value) (W : World) : Prop := ∃ v All Ls M ov us ws A n c, PW w f r tot tv wv v All Ls M ov us ws A n c W
theorem PX.start {w W : World} {f r : Nat} (b : Below w.heap.size w W) (h1 : FrB W f (.slice none 0 0) false) (h2 : RB W r (.slice none 0 0) false) (ne : f ≠ r) (wf : w.heap.size ≤ f) (wr : w.heap.size ≤ r) : PX w f r 0 (.slice none 0 0) (.slice none 0 0) W :=
  ⟨.slice none 0 0, [], [], [], false, [], [], none, 0, 0, rfl, Nat.le_refl _, by omega, by simp, h1, ⟨World.ownsRow_nil _ _ _ _, allB_nil, b⟩, h2, Nat.le_refl _, Bs.nil _ _, (fun a e => by cases e), Tx.nil _ _ _, Tx.nil _ _ _, (fun k e => by cases e), ne, wf, wr⟩
theorem PX.bel {w W : World} {f r tot : Nat} {tv wv : Value} (h : PX w f r tot tv wv W) : Below w.heap.size w W := by
  obtain ⟨v, All, Ls, M, ov, us, ws, A, n, c, h⟩ := h
  exact h.held.bel
theorem PX.later {w W W' : World} {f r tot : Nat} {tv wv : Value} (h : PX w f r tot tv wv W) (g : Below W.heap.size W W') : PX w f r tot tv wv W' := by
  obtain ⟨v, All, Ls, M, ov, us, ws, A, n, c, h⟩ := h
  exact ⟨v, All, Ls, M, ov, us, ws, A, n, c, h.later g⟩
/-- A step of memory that turns only blocks from a on, below b. -/
structure Dk (w : World) (a b : Nat) (W W' : World) : Prop where
  size : W.heap.size ≤ W'.heap.size
  old : ∀ k, k < W.heap.size → (k < a ∨ b ≤ k) → W'.heap[k]? = W.heap[k]?
  os : W'.os = W.os
  tape : W'.tape = W.tape
  output : W'.output = W.output
theorem Dk.bel {w W W' : World} {a b : Nat} (h : Dk w a b W W') {B : Nat} (hB : B ≤ a) (hs : B ≤ W.heap.size) : Below B W W' := ⟨h.os, h.tape, h.output, h.size, fun k hk => h.old k (by omega) (.inl (by omega))⟩

theorem plays_mid {w W0 W1 W2 W3 W4 : World} {f r tot tot' n c lm lc ym : Nat} {tv wv v0 v' : Value} {All X : List Nat} {Ls ks : List (List Nat)} {M N : List Nat} {ov : Bool} {er : Int} {us ws vs : List Value} {A lA yA : Option Addr}
    (P : PW w f r tot tv wv v0 All Ls M false us ws A n c W0) (b01 : Below W0.heap.size W0 W1) (J : FJ w W1 f v0.ownBlock ks N er v' (.slice lA lm lc) vs W2) (F : FrB W2 f v' ov) (hN : N.length ≤ 65536)
    (hfed : feedS ([], [], false) (All ++ X) = (Ls ++ ks, N, ov)) (ht : All.length + X.length ≤ tot') (ht2 : tot' ≤ 200000) (R : RFed W2 r (All ++ X) ov yA ym ks W3) (D : Dk w W0.heap.size W1.heap.size W3 W4) :
    ∃ ys A' n' c', PM2 w f r tot' tv wv v' (All ++ X) Ls ks N ov us ws vs ys A' n' c' lA yA lm ym W4 := by
  obtain ⟨ys, A', n', c', y1, y2, y3, y4, rb, nc, bs, hA'⟩ := R.ex
  have s01 := b01.size
  have s12 := J.size
  have s23 := R.size
  have s34 := D.size
  have hf := P.fr.lt
  have hr := P.rb.lt
  have hv0 : ∀ k, v0.ownBlock = some k → k < W0.heap.size := fun k e => (P.held.new k e).2
  have htl : ∀ k, tv.ownBlock = some k → k < W0.heap.size := fun k e => (P.td.lt k e).2
  have hwl : ∀ k, wv.ownBlock = some k → k < W0.heap.size := fun k e => (P.wt.lt k e).2
  -- where the held row lies now
  have hv' : ∀ k, v'.ownBlock = some k → v0.ownBlock = some k ∨ W1.heap.size + 4 ≤ k := fun k e => (J.hb k e).1
  have hvr : ∀ k, v'.ownBlock = some k → k ≠ f ∧ k ≠ r := fun k e => by
    refine ⟨(J.hb k e).2.1, ?_⟩
    rcases hv' k e with h | h
    · exact (P.vf k h).2
    · omega
  have nv : ∀ k, k < W0.heap.size → v0.ownBlock ≠ some k → v'.ownBlock ≠ some k := fun k hk hne e => by
    rcases hv' k e with h | h
    · exact hne h
    · omega
  -- blocks that none of the steps turns
  have ag : ∀ k, k < W0.heap.size → k ≠ f → k ≠ r → v0.ownBlock ≠ some k → W4.heap[k]? = W0.heap[k]? := fun k hk h1 h2 h3 =>
    (D.old k (by omega) (.inl hk)).trans ((R.old k (by omega) h2).trans ((J.old k (by omega) h1 h3).trans (b01.block k hk)))
  -- blocks of W2 that are the held row or new
  have ag2 : ∀ k, k < W2.heap.size → k ≠ r → (v0.ownBlock = some k ∨ W1.heap.size ≤ k) → W4.heap[k]? = W2.heap[k]? := fun k hk h1 h2 => by
    refine (D.old k (by omega) ?_).trans (R.old k hk h1)
    rcases h2 with h2 | h2
    · exact .inl (hv0 k h2)
    · exact .inr h2
  have ag3 : ∀ k, k < W3.heap.size → W2.heap.size ≤ k → W4.heap[k]? = W3.heap[k]? := fun k hk h1 => D.old k hk (.inr (by omega))
  have tdok : ∀ k, k < W0.heap.size → okP f r v0 wv k → okP f r v' wv k := fun k hk h => ⟨h.1, h.2.1, nv k hk h.2.2.1, h.2.2.2⟩
  have wtok : ∀ k, k < W0.heap.size → okP f r v0 tv k → okP f r v' tv k := fun k hk h => ⟨h.1, h.2.1, nv k hk h.2.2.1, h.2.2.2⟩
  have lok : ∀ k, k < W2.heap.size → lineOk W1.heap.size f v0.ownBlock v' (.slice lA lm lc) k → okP f r v' wv k ∧ tv.ownBlock ≠ some k := fun k hk h => by
    have hkr : k ≠ r := by
      rcases h.1 with h1 | h1
      · exact (P.vf k h1).2
      · omega
    refine ⟨⟨h.2.1, hkr, h.2.2.1, fun e => ?_⟩, fun e => ?_⟩
    · rcases h.1 with h1 | h1
      · exact (P.wt.apart k e).2.2.1 h1
      · have := hwl k e; omega
    · rcases h.1 with h1 | h1
      · exact (P.td.apart k e).2.2.1 h1
      · have := htl k e; omega
  refine ⟨ys, A', n', c', hfed, by rw [List.length_append]; exact ht, ht2, hN, ?_, ⟨?_, J.held.byt, ?_⟩, ?_, nc, ?_, fun a e h0 => ?_, P.td.agree (by omega) (fun k hk h => ag k hk h.1 h.2.1 h.2.2.1) tdok, P.wt.agree (by omega) (fun k hk h => ag k hk h.1 h.2.1 h.2.2.1) wtok, ?_, fun a e j u hj => ?_, fun e => ?_, ?_, y1, fun a e j u hj => ?_, y3, ?_, hvr, P.ne, P.wf, P.wr⟩
  · exact (D.old f (by omega) (.inl hf)).trans ((R.old f (by omega) P.ne).trans F)
  · refine ⟨J.held.row.1, ?_⟩
    rcases J.held.row.2 with h2 | ⟨g, cap, cur, hv, hb, hh, rr⟩
    · exact .inl h2
    · have e : v'.ownBlock = some g := by rw [hv]; rfl
      refine .inr ⟨g, cap, cur, hv, hb, (ag2 g (J.held.new g e).2 (hvr g e).2 ?_).trans hh, rr⟩
      rcases hv' g e with h | h
      · exact .inl h
      · exact .inr (by omega)
  · have h1 := J.held.bel.trans (R.bel.mono P.wr)
    exact h1.trans (D.bel P.held.bel.size h1.size)
  · exact (D.old r (by omega) (.inl hr)).trans rb
  · refine bs.kept fun h0 a e => ?_
    obtain ⟨a2, e2, hb, _⟩ := bs.cel h0
    rw [e] at e2
    injection e2 with e2
    subst e2
    exact ag3 _ hb (hA' a e)
  · have h1 := hA' a e
    obtain ⟨a2, e2, hb, _⟩ := bs.cel h0
    refine ⟨by omega, by omega, fun e3 => ?_, fun e3 => by have := htl _ e3; omega, fun e3 => by have := hwl _ e3; omega⟩
    have := (J.held.new _ e3).2
    omega
  · obtain ⟨B, cc, e, _⟩ := row_shape J.row
    injection e with _ e2 _
    exact e2.symm
  · rcases J.row.2 with ⟨e1, e2⟩ | ⟨g, cap, cur, e1, hb, hh, _⟩
    · injection e1 with e1
      rw [e1] at e
      cases e
    · have e4 : lA = some ⟨g, 0, Option.none⟩ := by injection e1
      rw [e4] at e
      injection e with e
      subst e
      have h5 := J.row.lt g (by rw [e4]; rfl)
      rw [← J.row.cells (g := g) (by rw [e4]; rfl) j u hj]
      exact World.cell?_of_block (by rw [add_block]; exact ag2 g h5.2 (by omega) (.inr (by omega)))
  · rcases J.row.2 with ⟨e1, e2⟩ | ⟨g, cap, cur, e1, hb, hh, _⟩
    · obtain ⟨B, cc, e3, _⟩ := row_shape J.row
      injection e3 with _ e4 _
      omega
    · injection e1 with e1
      rw [e] at e1
      cases e1
  · refine J.lines.imp' (fun A2 n2 L b ha => b.kept fun _ a e => ?_) lok (by omega)
    have h1 := ha a e
    have h2 := lok _ h1.2 h1.1
    refine ag2 _ h1.2 h2.1.2.1 ?_
    rcases h1.1.1 with h3 | h3
    · exact .inl h3
    · exact .inr (by omega)
  · obtain ⟨q1, q2, q3⟩ := y2 a e j u hj
    refine ⟨?_, fun e3 => by have := htl _ e3; omega, by omega⟩
    rw [← q1]
    exact World.cell?_of_block (by rw [add_block]; exact ag3 _ q3 q2)
  · refine y4.imp' (fun A2 n2 L b ha => b.kept fun _ a e => ag3 _ (ha a e).2 (ha a e).1) (fun k hk h => ⟨⟨by omega, by omega, fun e => ?_, fun e => by have := htl _ e; omega⟩, fun e => by have := hwl _ e; omega⟩) (by omega)
    have := (J.held.new _ e).2
    omega

theorem plays_mid_over {w W0 W4 : World} {f r tot tot' n c : Nat} {tv wv v0 : Value} {All : List Nat} {Ls : List (List Nat)} {M : List Nat} {us ws : List Value} {A : Option Addr}
    (P : PW w f r tot tv wv v0 All Ls M true us ws A n c W0) (b : Below W0.heap.size W0 W4) (ht : tot ≤ tot') (ht2 : tot' ≤ 200000) :
    PM2 w f r tot' tv wv v0 All Ls [] M true us ws [] [] A n c none none 0 0 W4 := by
  have h := P.later b
  exact ⟨by rw [List.append_nil]; exact h.fed, Nat.le_trans h.tt ht, ht2, h.m2, h.fr, h.held, h.rb, h.nc, h.all, h.allA, h.td, h.wt, rfl, (fun a e => by cases e), fun _ => rfl, .nil, rfl, (fun a e => by cases e), fun _ => rfl, .nil, h.vf, h.ne, h.wf, h.wr⟩

/-- The row that is turned byte by byte: from the k-th on it is as it was. -/
structure XG (w : World) (a b : Nat) (W3 : World) (A : Option Addr) (n k : Nat) (wr : World) : Prop where
  dk : Dk w a b W3 wr
  blk : 0 < n → ∃ (g : Nat) (cur : Array Value), A = some ⟨g, 0, none⟩ ∧ a ≤ g ∧ g < b ∧ wr.heap[g]? = some (.cells cur 5 (0, 0)) ∧ n ≤ cur.size ∧ ∀ j, k ≤ j → j < n → ∃ x : Nat, x < 256 ∧ cur[j]? = some (.int .u8 (x : Nat))
theorem XG.start {w W0 W1 W3 : World} {A : Option Addr} {n c : Nat} {X : List Nat} (O : Own W0 (.slice A n c) n X W1) (hk : ∀ g, A = some ⟨g, 0, none⟩ → W3.heap[g]? = W1.heap[g]?) : XG w W0.heap.size W1.heap.size W3 A n 0 W3 := by
  refine ⟨⟨Nat.le_refl _, fun _ _ _ => rfl, rfl, rfl, rfl⟩, fun h0 => ?_⟩
  have hl := O.len
  rcases O.row.2 with ⟨_, e2⟩ | ⟨g, cap, cur, e1, hb, hh, h1, _, h3, h4⟩
  · omega
  · have e : A = some ⟨g, 0, none⟩ := by injection e1
    have h5 := (O.new g (by rw [e]; rfl)).2
    refine ⟨g, cur, e, hb, h5, (hk g e).trans hh, by omega, fun j _ hj => ⟨nth X j, nth_lt O.byt j, ?_⟩⟩
    have h6 := vals_get X j (by omega)
    rw [← h4, Nat.mul_one, List.getElem?_take, if_pos hj] at h6
    simpa using h6
theorem XG.set {w W3 wr : World} {a b n k g : Nat} {A : Option Addr} (h : XG w a b W3 A n k wr) (hg : A = some ⟨g, 0, none⟩) (hk : k < n) (v : Value) : XG w a b W3 A n (k + 1) (wr.setCell ⟨g, k, none⟩ v) := by
  obtain ⟨g', cur, e, h1, h2, h3, h4, h5⟩ := h.blk (by omega)
  rw [hg] at e
  injection e with e
  obtain rfl : g = g' := by injection e
  obtain ⟨hlt, hgg⟩ := Array.getElem?_eq_some_iff.1 h3
  refine ⟨⟨by have := h.dk.size; simp [World.setCell]; exact this, fun j hj hj2 => ?_, h.dk.os, h.dk.tape, h.dk.output⟩, fun _ => ⟨g, cur.setIfInBounds k v, hg, h1, h2, ?_, by simpa using h4, fun j hj hj2 => ?_⟩⟩
  · exact (Below.heap_setCell wr ⟨g, k, none⟩ v j (by show j ≠ g; omega)).trans (h.dk.old j hj hj2)
  · show (wr.heap.modify g _)[g]? = _
    rw [Array.getElem?_eq_getElem (by rw [Array.size_modify]; exact hlt), Array.getElem_modify_self, hgg]
    rfl
  · obtain ⟨x, hx, hc⟩ := h5 j (by omega) hj2
    refine ⟨x, hx, ?_⟩
    rw [Array.getElem?_setIfInBounds, if_neg (by omega)]
    exact hc
theorem XG.at_ {w W3 wr : World} {a b n k : Nat} {A : Option Addr} (h : XG w a b W3 A n k wr) (hk : k < n) : ∃ (g x : Nat), A = some ⟨g, 0, none⟩ ∧ x < 256 ∧ wr.cell? ⟨g, k, none⟩ = some (.int .u8 (x : Nat)) ∧ wr.frozen? ⟨g, k, none⟩ = false := by
  obtain ⟨g, cur, e, h1, h2, h3, h4, h5⟩ := h.blk (by omega)
  obtain ⟨x, hx, hc⟩ := h5 k (Nat.le_refl _) hk
  exact ⟨g, x, e, hx, by simp [World.cell?, h3, hc], by simp [World.frozen?, h3]⟩
end Go.Proofs.Ytfmfooocfcdalaa
