/- Literals of two elements; the example with two outputs as it lies. No condition. -/
import Derived.Test.YtbdjcbdnhaddoaaDoorLawS
import Derived.Test.YtbdjcbdnhaddoaaDoorWorks
namespace Go.Proofs.YtbdjcbdnhaddoaaDoor
open Go.RowKit

section
variable {S T : TypeId} {sz by_ : Nat} {Z : Value} {w : World} {o : Oper} {a : Act} {Q : Exit → Act → World → Prop} {K : Act → World → Prop} {d : Option Tmp}
theorem wp_lit2 (E : ElemT S T sz by_ Z) (hsz : sz ≤ 64) (hd : o.dst = d) (x y : Operand) (ho : o.op = .buildSlice S 2 #[(0, x), (1, y)]) {V U : List Value} (hx : a.eval x = .agg V.toArray) (hy : a.eval y = .agg U.toArray) (hl : V.length = sz) (hk : U.length = sz)
    (h : K (a.put d (.slice (some ⟨w.heap.size, 0, none⟩) 2 2)) (w.alloc (.cells (V ++ U).toArray T))) : o.wp Tryd.prog a w K Q := by
  rw [← hd] at h
  obtain ⟨i0, hi, hz0, hz1, hz2⟩ := info_parts E.info
  have hp := E.pos
  refine wp_buildSlice S T 2 _ ho (V ++ U).toArray i0 _ E.und hi hz0 (by rw [hz1]; omega) (by rw [hz1]; omega) ?_ h
  rw [hz1]
  have e : (#[((0 : Nat), x), (1, y)].map fun (y : Nat × Operand) => (y.1, a.eval y.2)).toList = [(0, .agg V.toArray), (1, .agg U.toArray)] := by simp [hx, hy]
  refine (congrArg _ e).trans ?_
  subst hl
  have h := Go.Great.fill_whole (s := V.length) hp [.agg V.toArray, .agg U.toArray] (Array.map (fun x => Z.cells[x % Z.cells.size]!) (Array.range (2 * V.length))) (by simp [Value.cells, hk]) (by simp)
  simpa [Value.cells] using h
end
theorem wrapN_lt (z : Int) : (IntKind.u64.wrap z).toNat < 18446744073709551616 := by rw [IntKind.wrap_u64]; omega
theorem wrapN (z : Int) : IntKind.u64.wrap z = ((IntKind.u64.wrap z).toNat : Int) := by rw [IntKind.wrap_u64]; omega
theorem buildO0 (v : Nat) (w : World) : (Instr.build 46 #[(0, .int .u64 (v : Int))]).run Tryd.prog w = .ok (.agg (outV v none 0 0).toArray) w := by kernel_rfl
theorem money_tx {w1 : World} {lo g1 x a b : Nat} (hi : Ro w1 g1 56 (inV z32 4294967295 none 0 0 4294967295 none 0 0)) (hl : lo ≤ g1) (ho : Ro w1 x 46 (outV a none 0 0 ++ outV b none 0 0)) (hx : lo ≤ x) (ha : a < 18446744073709551616) (hb : b < 18446744073709551616) :
    TxG w1 (fun b => lo ≤ b) (moneyT a b) (some ⟨g1, 0, none⟩) 1 1 (some ⟨x, 0, none⟩) 2 2 :=
  ⟨(by decide : 1 < 4294967296), (by decide : 0 < 4294967296), Nat.le_refl _, by decide,
   ⟨rfl, fun _ => ⟨g1, 0, _, rfl, hi.lt, hl, hi.whole, Each.one (inV_len rfl _ _ _ _ _ _ _ _) ⟨none, 0, 0, none, 0, 0, rfl, ⟨smallI_ok.h, smallI_ok.hb, smallI_ok.n, smallI_ok.s, smallI_ok.q, fun x hx => by cases hx⟩, Nat.le_refl _, by decide, BsP.nil _ _ _, Nat.le_refl _, by decide, Rows.nil _ _ _ _ _⟩⟩⟩, Nat.le_refl _, by decide,
   ⟨rfl, fun _ => ⟨x, 0, _, rfl, ho.lt, hx, ho.whole, .cons rfl ⟨none, 0, 0, rfl, ⟨ha, allB_nil⟩, Nat.le_refl _, by decide, BsP.nil _ _ _⟩ (Each.one rfl ⟨none, 0, 0, rfl, ⟨hb, allB_nil⟩, Nat.le_refl _, by decide, BsP.nil _ _ _⟩)⟩⟩⟩
theorem run_make_bytes (n c : Nat) (l k : Int) (hl : l = n) (hk : k = c) (hnc : n ≤ c) (hc : c ≤ 1099511627776) (W : World) :
    (Instr.makeSlice 29 (.int .i64 l) (.int .i64 k)).run Tryd.prog W = .ok (.slice (some ⟨W.heap.size, 0, none⟩) n c) (W.alloc (.cells (vals (List.replicate c 0)).toArray 5)) := by
  obtain ⟨i0, hi, hz0, hz1, hz2⟩ := info_parts Tryd.infoByte
  subst hl hk
  rw [run_make (P := Tryd.prog) W 29 5 i0 (.int .u8 0) Tryd.underlying29 hi hz0 .i64 .i64 (n : Int) (c : Int) (by omega) (by omega) (by rw [hz2]; omega) (by omega), hz1]
  have e : (madeCells (Value.int .u8 0).cells c) = (vals (List.replicate c 0)).toArray := by
    apply Array.toList_inj.1
    show (madeCells #[Value.int .u8 0] c).toList = _
    rw [toList_madeCells_one, vals, List.map_replicate]; rfl
  rw [Int.toNat_natCast, Int.toNat_natCast, Nat.mul_one, e]
/-- The example with a script of its own, as it lies behind a store. -/
structure LongB (w wx : World) (p g1 g2 N : Nat) : Prop where
  p : Ro wx p 26 (txV 1 (some ⟨g1, 0, none⟩) 1 1 (some ⟨g2, 0, none⟩) 1 1 0)
  t : TxG wx (fun b => w.heap.size ≤ b) (smallT (List.replicate N 0)) (some ⟨g1, 0, none⟩) 1 1 (some ⟨g2, 0, none⟩) 1 1
  bel : Below w.heap.size w wx
theorem long_box {w w2 w3 : World} {p g1 g2 g3 N : Nat} (S2 : SmallM w2 w.heap.size g1 g2 none 0 0 (some ⟨g3, 0, none⟩) 1 1) (P2 : Ro w2 p 26 (txV 1 (some ⟨g1, 0, none⟩) 1 1 (some ⟨g2, 0, none⟩) 1 1 0)) (gp : g1 < p ∧ g2 < p ∧ w.heap.size ≤ p) (W2 : Below w.heap.size w w2) (hN : N ≤ 1000000)
    (b3 : Below (w2.alloc (.cells (vals (List.replicate N 0)).toArray 5)).heap.size (w2.alloc (.cells (vals (List.replicate N 0)).toArray 5)) w3) : LongB w (w3.setCell ⟨g2, 1, none⟩ (.slice (some ⟨w2.heap.size, 0, none⟩) N N)) p g1 g2 N := by
  have b2 := (Below.refl w2.heap.size w2).alloc (Nat.le_refl _) (.cells (vals (List.replicate N 0)).toArray 5)
  have bb := b2.trans (b3.mono b2.size)
  have r2 := Bs.lit w2 (List.replicate N 0) (zeros_byt N)
  rw [List.length_replicate] at r2
  have r3 := r2.later b3
  have G4 := gr_set w3 g2 1 (.slice (some ⟨w2.heap.size, 0, none⟩) N N)
  have i4 := (S2.i.later bb).far G4 (fun e => S2.ne (by injection e))
  have o4 := (S2.o.later bb).set 1 (.slice (some ⟨w2.heap.size, 0, none⟩) N N)
  change Ro _ g2 _ (outV 5 (some ⟨w2.heap.size, 0, none⟩) N N) at o4
  have q4 := r3.off G4 (by have := S2.o.lt; omega)
  have S4 : SmallM (w3.setCell ⟨g2, 1, none⟩ (.slice (some ⟨w2.heap.size, 0, none⟩) N N)) w.heap.size g1 g2 none 0 0 (some ⟨w2.heap.size, 0, none⟩) N N := ⟨i4, o4, S2.l1, S2.l2, S2.ne⟩
  exact ⟨(P2.later bb).far G4 (fun e => by injection e; omega), S4.tx (ws := []) (Rows.nil _ _ _ _ _) (Nat.le_refl _) (by decide) (fun x hx => by cases hx) (q4.inp W2.size) (Nat.le_refl _) (by omega),
    (W2.trans (bb.mono W2.size)).setCell (p := ⟨g2, 1, none⟩) S2.l2 _⟩
end Go.Proofs.YtbdjcbdnhaddoaaDoor
