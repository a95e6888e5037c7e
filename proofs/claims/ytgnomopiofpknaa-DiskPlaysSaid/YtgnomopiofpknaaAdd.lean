/- add: a change put behind what is loose; and the two functions that do it for Write and Cut. No condition but bounds. -/
import Derived.Test.YtgnomopiofpknaaSet
import Derived.Great.BuildSlice
namespace Go.Proofs.Ytgnomopiofpknaa
open Go.RowKit

/-- Another loose row. -/
theorem FlAt.added {w0 w w' : World} {P : Nat → Prop} {vs vl vl' : Value} {S : Fl} {x : Chg} {n : Nat} (F : FlAt w0 P vs vl S w) (G : w.grownBy w' vl.ownBlock) (ne : vl'.ownBlock = vl.ownBlock ∨ ∀ b, vl'.ownBlock = some b → w.heap.size ≤ b)
    (O : OwnRw 83 1 ChgR w0 (fun b => P b ∧ some b ≠ vs.ownBlock) vl' n (S.loose ++ [x]) w') : FlAt w0 (Gr P w w') vs vl' (S.add x) w' := by
  have hs := G.size
  have hn : (S.loose ++ [x]).length = n := O.len
  subst hn
  have sk : ∀ b, vs.ownBlock = some b → some b ≠ vl.ownBlock := fun b e e2 => (F.pl b e2.symm).2 e
  refine ⟨F.sure.kept (fun b e => G.block b (F.lt b (F.ps b e)).2 (sk b e)) O.bel, O.weak chgM (fun b hb _ => ⟨.inl hb.1, hb.2⟩), fun k e => .inl (F.ps k e), fun k e => ?_, Gr.lt F F.sure.bel hs⟩
  rcases ne with q | q
  · rw [q] at e
    exact ⟨.inl (F.pl k e).1, (F.pl k e).2⟩
  · have h1 := q k e
    exact ⟨.inr ⟨h1, (O.new k e).2⟩, fun e2 => by have := (F.lt k (F.ps k e2)).2; omega⟩

set_option maxRecDepth 100000 in
set_option maxHeartbeats 4000000 in
theorem add_any {w0 w : World} {P : Nat → Prop} {vs vl : Value} {S : Fl} {d o : Nat} {T : TypeId} {cur : List Value} {x : Chg} {ty : TypeId} {u : Value} {sz : Int} (F : FlAt w0 P vs vl S w) (R : Ro w d T cur) (hd : ¬ P d) (hw : w0.heap.size ≤ d)
    (c1 : cur[o + 1]? = some vl) (hl : o + 2 < cur.length) (hn : S.loose.length ≤ 1073741823) (hV : ChgR w (fun b => P b ∧ some b ≠ vs.ownBlock ∧ some b ≠ vl.ownBlock) [.iface ty u] x) :
    Calls Try.prog 36 #[.pointer (some ⟨d, o, none⟩), .iface ty u, .int .i64 sz] w fun e W => e = .returned (.tuple #[]) ∧
      ∃ vl', FlAt w0 (Gr P w W) vs vl' (S.add x) W ∧ Ro W d T ((cur.set (o + 1) vl').set (o + 2) (.int .i64 sz)) ∧ Kept (fun b => ¬ P b ∧ b ≠ d) w W := by
  have RC1 := R.cell c1
  obtain ⟨A, c, rfl, hc⟩ := F.loose.shape
  have HF := Lib.hid F
  have HR := Lib.hid R
  have HV := Lib.hid hV
  have b1 : Below w.heap.size w (w.alloc (.cells #[.iface ty u] 83)) := (Below.refl _ _).alloc (Nat.le_refl _) _
  have B1 := Lib.hid b1
  have OL := Lib.hid (F.loose.later chgM b1)
  have EV : Hid (Each 1 (ChgR (w.alloc (.cells #[.iface ty u] 83)) fun b => (P b ∧ some b ≠ vs.ownBlock) ∧ some b ≠ (Value.slice A S.loose.length c).ownBlock ∧ b < (w.alloc (.cells #[.iface ty u] 83)).heap.size) [.iface ty u] [x]) :=
    Lib.hid (Each.one rfl (chgM.weak (chgM.keep hV (Kept.of_below b1)) fun b hb hl => ⟨⟨hb.1, hb.2.1⟩, hb.2.2, hl⟩))
  have RV : Hid (∀ (_ : 0 < 1), ∃ b o, (some ⟨w.heap.size, 0, none⟩ : Option Addr) = some ⟨b, o, none⟩ ∧ (w.alloc (.cells #[.iface ty u] 83)).rangeAt b o [.iface ty u]) := Lib.hid fun _ => ⟨_, _, rfl, fun j q hj => by
    have := (Ro.new w 83 [.iface ty u]).cell (k := j) hj
    rwa [Nat.zero_add]⟩
  clear F R hV b1
  go_enter Try.func36, Try.ntmps36
  go_wp2_with (at_builtin; refine wpList_appRw (m := 1) (c := 1) (k := [x]) (cs := [.iface ty u]) (N := S.loose.length + 1) elemChg chgM rfl _ _ rfl rfl OL.out rfl rfl RV.out EV.out ?e1 rfl ?e2 ?e3 ?_)
  case e1 => intro y hy; simp at hy; rw [hy]; rfl
  case e2 => omega
  case e3 => omega
  intro A' c' w' j1 j2 j3 j4
  have nd : some d ≠ (Value.slice A S.loose.length c).ownBlock := fun e => hd (HF.out.pl d e.symm).1
  have g : w.grownBy w' (Value.slice A S.loose.length c).ownBlock := by
    have s0 : w.heap.size ≤ (w.alloc (.cells #[.iface ty u] 83)).heap.size := B1.out.size
    exact ⟨j3.os.trans B1.out.os, j3.tape.trans B1.out.tape, j3.output.trans B1.out.output, Nat.le_trans s0 j3.size, fun k hk hne => by rw [j3.block k (by omega) hne, B1.out.block k hk]⟩
  have F2 : FlAt w0 (Gr P w w') vs (.slice A' (S.loose.length + 1) c') (S.add x) w' := HF.out.added g (by
    rcases j4 with q | q
    · exact .inl q
    · refine .inr fun b e => ?_
      rw [q] at e
      injection e with e
      have := B1.out.size
      omega) j2
  have R2 := HR.out.far g nd
  have f1 := R2.free (o + 1)
  have q1 := R2.cell (k := o + 1) c1
  have R3 := R2.set (o + 1) (.slice A' (S.loose.length + 1) c')
  have f2 := R3.free (o + 2)
  obtain ⟨x2, hx2⟩ : ∃ x, cur[o + 2]? = some x := ⟨_, List.getElem?_eq_getElem hl⟩
  have q2 := R3.cell (k := o + 2) (by rw [List.getElem?_set_ne (by omega)]; exact hx2)
  have K2 : Kept (fun b => ¬ P b ∧ b ≠ d) w w' := ⟨g.size, fun b hb hlt => g.block b hlt fun e => hb.1 (HF.out.pl b e.symm).1⟩
  have FF := Lib.hid (show ∃ vl', FlAt w0 (Gr P w ((w'.setCell ⟨d, o + 1, none⟩ (.slice A' (S.loose.length + 1) c')).setCell ⟨d, o + 2, none⟩ (.int .i64 sz))) vs vl' (S.add x) ((w'.setCell ⟨d, o + 1, none⟩ (.slice A' (S.loose.length + 1) c')).setCell ⟨d, o + 2, none⟩ (.int .i64 sz)) ∧ Ro ((w'.setCell ⟨d, o + 1, none⟩ (.slice A' (S.loose.length + 1) c')).setCell ⟨d, o + 2, none⟩ (.int .i64 sz)) d T ((cur.set (o + 1) vl').set (o + 2) (.int .i64 sz)) ∧ Kept (fun b => ¬ P b ∧ b ≠ d) w ((w'.setCell ⟨d, o + 1, none⟩ (.slice A' (S.loose.length + 1) c')).setCell ⟨d, o + 2, none⟩ (.int .i64 sz)) from
    ⟨_, (F2.set hd HR.out.lt hw _ _).set hd HR.out.lt hw _ _, R3.set _ _, kept_step (kept_step K2 _ _) _ _⟩)
  clear F2 R2 R3 K2 g nd j1 j2 j3 j4
  go_wp2_with fail
  go_returns
  exact ⟨rfl, FF.out⟩
end Go.Proofs.Ytgnomopiofpknaa
