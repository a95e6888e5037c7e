/- FramePlays: what holds between two parts, for the framer, the reference, and the lines that both told. No condition but bounds on the lengths. -/
import Derived.Test.YtfmfooocfcdalaaPl
namespace Go.Proofs.Ytfmfooocfcdalaa
open Go.RowKit

/-- Where the lines of one side may lie: apart from the framer f, the reference r, what is held, and the other side's row. -/
def okP (f r : Nat) (v ov : Value) (k : Nat) : Prop := k ≠ f ∧ k ≠ r ∧ v.ownBlock ≠ some k ∧ ov.ownBlock ≠ some k
structure PW (w : World) (f r tot : Nat) (tv wv v : Value) (All : List Nat) (Ls : List (List Nat)) (M : List Nat) (ov : Bool) (us ws : List Value) (A : Option Addr) (n c : Nat) (W : World) : Prop where
  fed : feedS ([], [], false) All = (Ls, M, ov)
  tt : All.length ≤ tot
  t2 : tot ≤ 200000
  m2 : M.length ≤ 65536
  fr : FrB W f v ov
  held : Own w v M.length M W
  rb : RB W r (.slice A n c) ov
  nc : n ≤ c
  all : Bs W A n All
  allA : ∀ a, A = some a → 0 < n → a.block ≠ f ∧ a.block ≠ r ∧ v.ownBlock ≠ some a.block ∧ tv.ownBlock ≠ some a.block ∧ wv.ownBlock ≠ some a.block
  td : Tx (okP f r v wv) w.heap.size tv us Ls W
  wt : Tx (okP f r v tv) w.heap.size wv ws Ls W
  vf : ∀ k, v.ownBlock = some k → k ≠ f ∧ k ≠ r
  ne : f ≠ r
  wf : w.heap.size ≤ f
  wr : w.heap.size ≤ r
section
variable {w : World} {f r tot : Nat} {tv wv v : Value} {All : List Nat} {Ls : List (List Nat)} {M : List Nat} {ov : Bool} {us ws : List Value} {A : Option Addr} {n c : Nat} {W W' : World}
theorem PW.later (h : PW w f r tot tv wv v All Ls M ov us ws A n c W) (g : Below W.heap.size W W') : PW w f r tot tv wv v All Ls M ov us ws A n c W' :=
  ⟨h.fed, h.tt, h.t2, h.m2, frB_later h.fr g, h.held.later g, h.rb.later g, h.nc, h.all.later g, h.allA, h.td.later g (fun _ _ h => h), h.wt.later g (fun _ _ h => h), h.vf, h.ne, h.wf, h.wr⟩
theorem PW.few (h : PW w f r tot tv wv v All Ls M ov us ws A n c W) : (∀ l ∈ Ls, l.length ≤ 65536) ∧ Ls.length ≤ 200000 ∧ us.length = Ls.length ∧ ws.length = Ls.length := by
  have h1 := feedS_small All ([], [], false) (by simp) (by simp)
  rw [h.fed] at h1
  have h2 := h1.2
  have h3 := h.tt
  have h4 := h.t2
  refine ⟨h1.1, ?_, h.td.lines.len, h.wt.lines.len⟩
  simp at h2
  omega
end
/-- Between: both were fed, their lines not yet added. -/
structure PM2 (w : World) (f r tot : Nat) (tv wv v : Value) (All : List Nat) (Ls ks : List (List Nat)) (M : List Nat) (ov : Bool) (us ws vs ys : List Value) (A : Option Addr) (n c : Nat) (lA yA : Option Addr) (lm ym : Nat) (W : World) : Prop where
  fed : feedS ([], [], false) All = (Ls ++ ks, M, ov)
  tt : All.length ≤ tot
  t2 : tot ≤ 200000
  m2 : M.length ≤ 65536
  fr : FrB W f v ov
  held : Own w v M.length M W
  rb : RB W r (.slice A n c) ov
  nc : n ≤ c
  all : Bs W A n All
  allA : ∀ a, A = some a → 0 < n → a.block ≠ f ∧ a.block ≠ r ∧ v.ownBlock ≠ some a.block ∧ tv.ownBlock ≠ some a.block ∧ wv.ownBlock ≠ some a.block
  td : Tx (okP f r v wv) w.heap.size tv us Ls W
  wt : Tx (okP f r v tv) w.heap.size wv ws Ls W
  l1 : vs.length = lm
  l2 : ∀ a, lA = some a → ∀ j u, vs[j]? = some u → W.cell? (a.add j) = some u
  l3 : lA = none → lm = 0
  l4 : LinesV W (fun k => okP f r v wv k ∧ tv.ownBlock ≠ some k) vs ks
  y1 : ys.length = ym
  y2 : ∀ a, yA = some a → ∀ j u, ys[j]? = some u → W.cell? (a.add j) = some u ∧ tv.ownBlock ≠ some a.block ∧ a.block < W.heap.size
  y3 : yA = none → ym = 0
  y4 : LinesV W (fun k => okP f r v tv k ∧ wv.ownBlock ≠ some k) ys ks
  vf : ∀ k, v.ownBlock = some k → k ≠ f ∧ k ≠ r
  ne : f ≠ r
  wf : w.heap.size ≤ f
  wr : w.heap.size ≤ r
section
variable {w : World} {f r tot : Nat} {tv wv v : Value} {All : List Nat} {Ls ks : List (List Nat)} {M : List Nat} {ov : Bool} {us ws vs ys : List Value} {A : Option Addr} {n c : Nat} {lA yA : Option Addr} {lm ym : Nat} {W : World}
theorem PM2.few (h : PM2 w f r tot tv wv v All Ls ks M ov us ws vs ys A n c lA yA lm ym W) : us.length + vs.length ≤ 200000 ∧ ws.length + ys.length ≤ 200000 ∧ lm = ks.length ∧ ym = ks.length := by
  have h1 := feedS_small All ([], [], false) (by simp) (by simp)
  rw [h.fed] at h1
  have h2 := h1.2
  have h3 := h.tt
  have h4 := h.t2
  have h5 := h.td.lines.len
  have h6 := h.wt.lines.len
  have h7 := h.l4.len
  have h8 := h.y4.len
  have h9 := h.l1
  have h0 := h.y1
  simp at h2
  omega
theorem PM2.add (h : PM2 w f r tot tv wv v All Ls ks M ov us ws vs ys A n c lA yA lm ym W) (lc yc : Nat) (ty : TypeId) :
    ∃ tv' W1, (Builtin.append_ #[30, 30] ty #[tv, .slice lA lm lc]).run Try.prog W = .ok tv' W1 ∧
      ∃ wv' W2, (Builtin.append_ #[30, 30] ty #[wv, .slice yA ym yc]).run Try.prog W1 = .ok wv' W2 ∧ PW w f r tot tv' wv' v All (Ls ++ ks) M ov (us ++ vs) (ws ++ ys) A n c W2 := by
  have few := h.few
  have bs := h.held.bel.size
  have hf := h.fr.lt
  have hr := h.rb.lt
  have hv : ∀ k, v.ownBlock = some k → k < W.heap.size := fun k e => (h.held.new k e).2
  have htl := h.td.lt
  have hwl := h.wt.lt
  obtain ⟨tv', W1, a1, a2, a3, a4⟩ := h.td.add (c := lc) ty bs h.l1 h.l2 h.l3 h.l4 (fun _ _ hk => hk) ⟨by omega, by omega, fun e => by have := hv _ e; omega, fun e => by have := (hwl _ e).2; omega⟩ (by omega)
  have nt : ∀ k, k < W.heap.size → tv.ownBlock ≠ some k → tv'.ownBlock ≠ some k := fun k hk hne e => by
    rcases a4 with e2 | e2
    · exact hne (by rw [← e2]; exact e)
    · rw [e2] at e
      injection e with e
      omega
  have s1 := a3.size
  have ag1 : ∀ k, k < W.heap.size → tv.ownBlock ≠ some k → W1.heap[k]? = W.heap[k]? := fun k hk hne => a3.block k hk (fun e => hne e.symm)
  have wt1 : Tx (okP f r v tv') w.heap.size wv ws Ls W1 := h.wt.agree s1 (fun k hk hok => ag1 k hk hok.2.2.2) (fun k hk hok => ⟨hok.1, hok.2.1, hok.2.2.1, nt k hk hok.2.2.2⟩)
  have yl1 : LinesV W1 (fun k => okP f r v tv' k ∧ wv.ownBlock ≠ some k) ys ks := h.y4.imp' (fun A' n' L b ha => b.kept fun _ a e => ag1 _ (ha a e).2 (ha a e).1.1.2.2.2) (fun k hk hok => ⟨⟨hok.1.1, hok.1.2.1, hok.1.2.2.1, nt k hk hok.1.2.2.2⟩, hok.2⟩) s1
  have yc1 : ∀ a, yA = some a → ∀ j u, ys[j]? = some u → W1.cell? (a.add j) = some u := fun a e j u hj => by
    obtain ⟨b1, b2, b3⟩ := h.y2 a e j u hj
    exact (World.cell?_of_block (by rw [add_block]; exact ag1 _ b3 b2)).trans b1
  have htl1 : ∀ k, tv'.ownBlock = some k → k < W1.heap.size := fun k e => (a2.lt k e).2
  obtain ⟨wv', W2, c1, c2, c3, c4⟩ := wt1.add (c := yc) ty (by omega) h.y1 yc1 h.y3 yl1 (fun _ _ hk => hk) ⟨by omega, by omega, fun e => by have := hv _ e; omega, fun e => by have := htl1 _ e; omega⟩ (by omega)
  have nw : ∀ k, k < W1.heap.size → wv.ownBlock ≠ some k → wv'.ownBlock ≠ some k := fun k hk hne e => by
    rcases c4 with e2 | e2
    · exact hne (by rw [← e2]; exact e)
    · rw [e2] at e
      injection e with e
      omega
  have s2 := c3.size
  have ag2 : ∀ k, k < W1.heap.size → wv.ownBlock ≠ some k → W2.heap[k]? = W1.heap[k]? := fun k hk hne => c3.block k hk (fun e => hne e.symm)
  have tf : tv.ownBlock ≠ some f := fun e => (h.td.apart f e).1 rfl
  have tr : tv.ownBlock ≠ some r := fun e => (h.td.apart r e).2.1 rfl
  have wf : wv.ownBlock ≠ some f := fun e => (h.wt.apart f e).1 rfl
  have wr : wv.ownBlock ≠ some r := fun e => (h.wt.apart r e).2.1 rfl
  have allT : ∀ a, A = some a → 0 < n → a.block < W.heap.size := fun a e h0 => by
    obtain ⟨b, e2, hb, _⟩ := h.all.cel h0
    rw [e] at e2
    injection e2 with e2
    rw [e2]
    exact hb
  refine ⟨tv', W1, a1, wv', W2, c1, h.fed, h.tt, h.t2, h.m2, ?_, ⟨(h.held.row.kept a3 ?_).kept c3 ?_, h.held.byt, ?_⟩, ?_, h.nc, ?_, ?_, ?_, c2, h.vf, h.ne, h.wf, h.wr⟩
  · exact (ag2 f (by omega) wf).trans ((ag1 f hf tf).trans h.fr)
  · cases e : v.ownBlock with
    | none => exact .inl rfl
    | some k => exact .inr fun e2 => (h.td.apart k e2.symm).2.2.1 e
  · cases e : v.ownBlock with
    | none => exact .inl rfl
    | some k => exact .inr fun e2 => (h.wt.apart k e2.symm).2.2.1 e
  · have g1 := h.held.bel.grown a3 bs (fun k e => (htl k e).1)
    exact g1.grown c3 (by omega) (fun k e => (hwl k e).1)
  · exact (ag2 r (by omega) wr).trans ((ag1 r hr tr).trans h.rb)
  · exact h.all.kept fun h0 a e => by
      have h1 := h.allA a e h0
      have h2 := allT a e h0
      exact (ag2 _ (by omega) h1.2.2.2.2).trans (ag1 _ h2 h1.2.2.2.1)
  · intro a e h0
    have h1 := h.allA a e h0
    have h2 := allT a e h0
    exact ⟨h1.1, h1.2.1, h1.2.2.1, nt _ h2 h1.2.2.2.1, nw _ (by omega) h1.2.2.2.2⟩
  · exact a2.agree s2 (fun k hk hok => ag2 k hk hok.2.2.2) (fun k hk hok => ⟨hok.1, hok.2.1, hok.2.2.1, nw k hk hok.2.2.2⟩)
end
end Go.Proofs.Ytfmfooocfcdalaa
