/- What Write and Cut do to their file. No condition but bounds. -/
import Derived.Test.YtgnomopiofpknaaAdd
import Derived.Test.YtgnomopiofpknaaCl
namespace Go.Proofs.Ytgnomopiofpknaa
open Go.RowKit

theorem FlAt.step {w0 w w1 W : World} {P : Nat → Prop} {vs vl : Value} {S : Fl} (F : FlAt w0 (Gr (Gr P w w1) w1 W) vs vl S W) (h1 : w.heap.size ≤ w1.heap.size) (h2 : w1.heap.size ≤ W.heap.size) : FlAt w0 (Gr P w W) vs vl S W :=
  F.more (Gr.step h1 h2) fun k h => by
    rcases h with h | h
    · exact F.lt k (.inl (.inl h))
    · rcases Nat.lt_or_ge k w1.heap.size with h3 | h3
      · exact F.lt k (.inl (.inr ⟨h.1, h3⟩))
      · exact F.lt k (.inr ⟨h3, h.2⟩)
/-- New memory beside a file. -/
theorem FlAt.grow {w0 w w1 : World} {P : Nat → Prop} {vs vl : Value} {S : Fl} (F : FlAt w0 P vs vl S w) (g : Below w.heap.size w w1) : FlAt w0 (Gr P w w1) vs vl S w1 := by
  have hb : Below w0.heap.size w0 w1 := F.sure.bel.trans (g.mono F.sure.bel.size)
  exact (F.keep (Kept.of_below g) hb).more (fun k h => .inl h) (Gr.lt F F.sure.bel g.size)
theorem kept_two {w w1 W : World} {P : Nat → Prop} {d : Nat} (g : Below w.heap.size w w1) (K : Kept (fun b => ¬ Gr P w w1 b ∧ b ≠ d) w1 W) : Kept (fun b => ¬ P b ∧ b ≠ d) w W :=
  ⟨Nat.le_trans g.size K.size, fun b hb hl => by rw [K.blk b ⟨Gr.not hb.1 hl, hb.2⟩ (Nat.lt_of_lt_of_le hl g.size), g.block b hl]⟩
theorem set_same {cur : List Value} {o : Nat} {v : Value} (c0 : cur[o]? = some v) : cur.set o v = cur := by
  apply List.ext_getElem?
  intro j
  rw [List.getElem?_set]
  split
  · next h => subst h; rw [c0]; simp [(List.getElem?_eq_some_iff.1 c0).1]
  · rfl
/-- A clone is an element for a write. -/
theorem clone_chg {w0 w w1 : World} {P : Nat → Prop} {vs vl : Value} {S : Fl} {A : Option Addr} {L : List Nat} {c : Nat} (F : FlAt w0 P vs vl S w) (hO : Own w (.slice A L.length c) L.length L w1) (hc : L.length ≤ c) (hl : L.length ≤ 4194304) :
    ChgR w1 (fun b => Gr P w w1 b ∧ some b ≠ vs.ownBlock ∧ some b ≠ vl.ownBlock) [wV A L.length c] (.w L) := by
  refine ⟨A, c, rfl, ⟨hO.reads, fun _ a e => ?_⟩, hc, hl, ?_⟩
  · subst e
    have h := hO.new a.block rfl
    exact ⟨.inr h, fun e => by have := (F.lt _ (F.ps _ e.symm)).2; omega, fun e => by have := (F.lt _ (F.pl _ e.symm).1).2; omega⟩
  · rcases hO.row.2 with ⟨e, _⟩ | ⟨g, cap, cur, e, _, _, _, h, _⟩
    · injection e with _ _ e; omega
    · injection e with _ _ e
      unfold maxLen at h
      omega

set_option maxRecDepth 100000 in
set_option maxHeartbeats 4000000 in
theorem write1_any {w0 w : World} {P : Nat → Prop} {vs vl : Value} {S : Fl} {d o bx : Nat} {T TB : TypeId} {cur : List Value} {A : Option Addr} {c sz : Nat} {L : List Nat} (F : FlAt w0 P vs vl S w) (R : Ro w d T cur) (hd : ¬ P d) (hw : w0.heap.size ≤ d)
    (c0 : cur[o]? = some vs) (c1 : cur[o + 1]? = some vl) (c2 : cur[o + 2]? = some (.int .i64 (sz : Nat))) (hn : S.loose.length ≤ 1073741823) (hsz : sz ≤ 1099511627776) (hb : Ro w bx TB [.slice A L.length c]) (hL : Bs w A L.length L) (hl : L.length ≤ 4194304) (hc : L.length ≤ c) :
    Calls Try.prog 35 #[.pointer (some ⟨d, o, none⟩), .pointer (some ⟨bx, 0, none⟩)] w fun e W => e = .returned (.tuple #[]) ∧ Fil w0 P w d o T cur (S.add (.w L)) ((sz + L.length : Nat) : Int) W := by
  have hlen : o + 2 < cur.length := (List.getElem?_eq_some_iff.1 c2).1
  have bd : Below w.heap.size w w.drew := (Below.refl _ _).drew
  have C1 : Hid (Calls Try.prog 37 #[.slice A L.length c] w.drew fun e w1 => ∃ A1 c1, e = .returned (.slice A1 L.length c1) ∧ w1.cell? ⟨bx, 0, none⟩ = some (.slice A L.length c) ∧ w1.cell? ⟨d, o + 2, none⟩ = some (.int .i64 (sz : Nat)) ∧
      Hid (Calls Try.prog 36 #[.pointer (some ⟨d, o, none⟩), .iface 80 (.agg #[.slice A1 L.length c1]), .int .i64 (IntKind.i64.wrap ((sz : Int) + (L.length : Int)))] w1 fun e W => e = .returned (.tuple #[]) ∧ Fil w0 P w d o T cur (S.add (.w L)) ((sz + L.length : Nat) : Int) W)) :=
    Lib.hid ((clone_any (hL.later bd) (by omega) hc).mono fun e w1 ⟨A1, n1, c1', e1, hc1, hO1⟩ => by
      have hO : Own w (.slice A1 n1 c1') n1 L w1 := hO1.weaken bd
      have hn1 : L.length = n1 := hO.len
      subst hn1
      have g1 := hO.bel
      have R1 := R.later g1
      refine ⟨A1, c1', e1, (hb.later g1).cell rfl, R1.cell c2, Lib.hid ?_⟩
      have ew : IntKind.i64.wrap ((sz : Int) + (L.length : Int)) = ((sz + L.length : Nat) : Int) := by rw [IntKind.wrap_i64]; omega
      rw [ew]
      refine (add_any (F.grow g1) R1 (Gr.not hd R.lt) hw c1 hlen hn (clone_chg F hO hc1 hl)).mono fun e W ⟨h1, vl', h2, h3, h4⟩ => ⟨h1, ⟨vs, vl', h2.step g1.size h4.size, ?_⟩, kept_two g1 h4⟩
      rw [set_same c0]
      exact h3)
  have q1 := (hb.later bd).cell (k := 0) rfl
  have q2 := (R.later bd).cell c2
  clear F R hd hw c0 c1 c2 hn hb hL hlen bd
  go_enter Try.func35, Try.ntmps35
  go_wp2_with fail
  go_region_law (first
    | (go_simp; (with_reducible refine (C1.out).mono ?_); rintro e w1 ⟨A1, c1, rfl, p1, p2, C2⟩; go_simp)
    | (go_simp; (with_reducible refine (C2.out).mono ?_); rintro e W ⟨rfl, G⟩; go_simp))
  all_goals go_wp2_with fail
  all_goals go_returns
  all_goals exact ⟨rfl, G⟩
end Go.Proofs.Ytgnomopiofpknaa
