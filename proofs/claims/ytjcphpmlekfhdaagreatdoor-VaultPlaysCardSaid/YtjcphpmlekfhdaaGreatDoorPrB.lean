/- The pair: what a call of both vaults, and a step of both disks, leaves. Condition: the tables lie as laid. -/
import Derived.Test.YtjcphpmlekfhdaaGreatDoorPrL
import Derived.Test.YtjcphpmlekfhdaaGreatDoorRvU
import Derived.Test.YtjcphpmlekfhdaaGreatDoorDo2
import Derived.Test.YtjcphpmlekfhdaaGreatDoorGi
namespace Go.Proofs.YtjcphpmlekfhdaaGreatDoor
open Go.RowKit

def PdQ (w : World) (d r p : Nat) (S : Dk) (n : Nat) (W : World) : Prop := ∃ S2 a y f g n2 b X, PrJ w d r p S2 a y f g n2 b X W ∧ n2 ≤ n + 65536 ∧ S2.cnt ≤ S.cnt + 20000 ∧ S2.uses ≤ S.uses + 400000 ∧ S2.most = S.most
section
variable {w wr : World} {d r p f g n v x c : Nat} {b : Bool} {S S2 : Dk} {a y : Value} {X : Nat → Prop} {A : Option Addr} {l : List (List Nat)}
theorem PrJ.moved {W : World} (J : PrJ w d r p S a y f g n b X wr) (T : Two w d r X S2 S2 W) (K : Kept X wr W) : PrJ w d r p S2 a y f g n b X W := by
  obtain ⟨h1, h2, h3, h4, h5, h6, h7⟩ := J
  refine ⟨T, (K.blk p h3 h2.lt).trans h2, h3, h4, ?_, h6, h7⟩
  rcases h5 with h | ⟨v, x, e1, e2, V1, V2, hX, h⟩
  · exact .inl h
  · exact .inr ⟨v, x, e1, e2, (K.blk v hX.1 V1.lt).trans V1, (K.blk x hX.2 V2.lt).trans V2, hX, h⟩
theorem PrJ.wide {W : World} (J : PrJ w d r p S a y f g n b X wr) (b4 : Below wr.heap.size wr W) : PrJ w d r p S a y f g n b (fun k => X k ∨ (wr.heap.size ≤ k ∧ k < W.heap.size)) W := by
  obtain ⟨h1, h2, h3, h4, h5, h6, h7⟩ := J
  refine ⟨h1.wide b4, h2.later b4, .inl h3, h4, ?_, h6, fun k hk => .inl (h7 k hk)⟩
  rcases h5 with h | ⟨v, x, e1, e2, V1, V2, hX, h⟩
  · exact .inl h
  · exact .inr ⟨v, x, e1, e2, V1.later b4, V2.later b4, ⟨.inl hX.1, .inl hX.2⟩, h⟩
/-- A vault and the reference's at the same state. -/
structure PrV (w : World) (d r p v x f g n : Nat) (b : Bool) (X : Nat → Prop) (wr : World) : Prop where
  v1 : Ro wr v 90 (vtV d f g n b)
  v2 : Ro wr x 78 (rvV r f g n b)
  xs : X v ∧ X x
  lo : w.heap.size ≤ v ∧ w.heap.size ≤ x
  ne : v ≠ x ∧ v ≠ p ∧ x ≠ p
def BothQ (w : World) (d r p x n : Nat) (S : Dk) (X : Nat → Prop) (v : Nat) (wr : World) (fn : Nat) (args : Array Value) (q : Int) (e : Ending) (u : World) : Prop :=
  e = .returned (.int .i64 q) ∧ Ro u p 37 [.pointer (some ⟨d, 0, none⟩), .pointer (some ⟨r, 0, none⟩), .pointer (some ⟨v, 0, none⟩), .pointer (some ⟨x, 0, none⟩)] ∧ Kept (fun b => X b ∧ b ≠ v) wr u ∧ Hid (Calls Tryz.prog fn args u fun e W => e = .returned (.int .i64 q) ∧ Hid (PdQ w d r p S n W))
theorem add_both (hLd : Laid w) (J : PrJ w d r p S (.pointer (some ⟨v, 0, none⟩)) (.pointer (some ⟨x, 0, none⟩)) f g n b X wr) (V : PrV w d r p v x f g n b X wr) (hR : Rows wr (fun b => b < w.heap.size) 1 ByR A l.length l) (hn : l.length ≤ 16384) (hw : wideS l ≤ 1048576) (h1 : S.cnt ≤ 900000000) (h2 : S.uses ≤ 800000000) (h3 : S.most ≤ 65535) (h4 : n ≤ 1000000000) :
    Calls Tryz.prog 14 #[.pointer (some ⟨v, 0, none⟩), .slice A l.length c] wr (BothQ w d r p x n S X v wr 28 #[.pointer (some ⟨x, 0, none⟩), .slice A l.length c] (addT b f g n l S).1) := by
  obtain ⟨T, B, xp, low, _, bf, xo⟩ := J
  obtain ⟨V1, V2, xs, lo, ne⟩ := V
  refine (vadd_two (c := c) hLd T xs.1 lo.1 V1 (Rows.weak byM hR fun _ _ _ => trivial) (by omega) (by omega) (by omega) (by omega) (by omega)).mono ?_
  rintro e u ⟨e1, T2, V1', K⟩
  have B2 : Ro u p 37 _ := (K.blk p ⟨xp, fun e => ne.2.1 e.symm⟩ B.lt).trans B
  have V2' : Ro u x 78 _ := (K.blk x ⟨xs.2, fun e => ne.1 e.symm⟩ V2.lt).trans V2
  refine ⟨e1, B2, K, Lib.hid ?_⟩
  have lt : Ltk 0 S := ⟨by omega, by omega, by omega⟩
  refine (radd_two (c := c) T2 lt (by omega) xs.2 lo.2 V2' (Rows.weak byM (Rows.keep byM hR (K.narrow fun b hb => ⟨xo b hb, by omega⟩)) fun _ _ _ => trivial) hn hw (by omega) (by omega)).mono ?_
  rintro e W ⟨e2, T3, V2'', K3⟩
  have V1'' : Ro W v 90 _ := (K3.blk v ⟨xs.1, ne.1⟩ V1'.lt).trans V1'
  have B3 : Ro W p 37 _ := (K3.blk p ⟨xp, fun e => ne.2.2 e.symm⟩ B2.lt).trans B2
  have I := inc_add b f g n l S
  have hm := I.most
  have hu := I.uses
  have hc := I.cnt
  have hnn := add_num (failed := b) (file := f) (gen := g) (count := n) (l := l) (S := S)
  exact ⟨e2, Lib.hid ⟨_, _, _, f, g, _, _, X, ⟨T3, B3, xp, low, .inr ⟨v, x, rfl, rfl, V1'', V2'', xs, lo, ne⟩, bf, xo⟩, by omega, by omega, by omega, hm⟩⟩
theorem compact_both (hLd : Laid w) (J : PrJ w d r p S (.pointer (some ⟨v, 0, none⟩)) (.pointer (some ⟨x, 0, none⟩)) f g n b X wr) (V : PrV w d r p v x f g n b X wr) (hR : Rows wr (fun b => b < w.heap.size) 1 ByR A l.length l) (hn : l.length ≤ 16384) (hw : wideS l ≤ 1048576) (h1 : S.cnt ≤ 900000000) (h2 : S.uses ≤ 800000000) (h3 : S.most ≤ 65535) (h4 : n ≤ 1000000000) :
    Calls Tryz.prog 20 #[.pointer (some ⟨v, 0, none⟩), .slice A l.length c] wr (BothQ w d r p x n S X v wr 27 #[.pointer (some ⟨x, 0, none⟩), .slice A l.length c] (compactT b f g n l S).1) := by
  obtain ⟨T, B, xp, low, _, bf, xo⟩ := J
  obtain ⟨V1, V2, xs, lo, ne⟩ := V
  refine (vcompact_two (c := c) hLd T xs.1 lo.1 V1 (Rows.weak byM hR fun b hb _ => ⟨xo b hb, by omega⟩) (by omega) bf.1 (by omega) (by omega) (by omega)).mono ?_
  rintro e u ⟨e1, T2, V1', K⟩
  have B2 : Ro u p 37 _ := (K.blk p ⟨xp, fun e => ne.2.1 e.symm⟩ B.lt).trans B
  have V2' : Ro u x 78 _ := (K.blk x ⟨xs.2, fun e => ne.1 e.symm⟩ V2.lt).trans V2
  refine ⟨e1, B2, K, Lib.hid ?_⟩
  have lt : Ltk 0 S := ⟨by omega, by omega, by omega⟩
  refine (rcompact_two (c := c) T2 lt (by omega) xs.2 lo.2 V2' (Rows.weak byM (Rows.keep byM hR (K.narrow fun b hb => ⟨xo b hb, by omega⟩)) fun _ _ _ => trivial) hn hw (by omega) bf.1).mono ?_
  rintro e W ⟨e2, T3, V2'', K3⟩
  have V1'' : Ro W v 90 _ := (K3.blk v ⟨xs.1, ne.1⟩ V1'.lt).trans V1'
  have B3 : Ro W p 37 _ := (K3.blk p ⟨xp, fun e => ne.2.2 e.symm⟩ B2.lt).trans B2
  have I := inc_compact b f g n l S
  have hm := I.most
  have hu := I.uses
  have hc := I.cnt
  obtain ⟨n1, n2, n3, n4⟩ := compact_num (failed := b) (count := n) (l := l) (S := S) bf.1 bf.2.1 bf.2.2
  exact ⟨e2, Lib.hid ⟨_, _, _, _, _, _, _, X, ⟨T3, B3, xp, low, .inr ⟨v, x, rfl, rfl, V1'', V2'', xs, lo, ne⟩, ⟨n1, n2, n3⟩, xo⟩, by omega, by omega, by omega, hm⟩⟩
theorem PrJ.pd (J : PrJ w d r p S a y f g n b X wr) : PdQ w d r p S n wr := ⟨S, a, y, f, g, n, b, X, J, by omega, by omega, by omega, rfl⟩
end
end Go.Proofs.YtjcphpmlekfhdaaGreatDoor
