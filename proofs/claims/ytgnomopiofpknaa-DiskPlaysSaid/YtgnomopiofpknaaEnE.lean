/- DiskEnds: the disk behind On, beside the law's boxes and the copy. No condition. -/
import Derived.Test.YtgnomopiofpknaaEnL
namespace Go.Proofs.Ytgnomopiofpknaa
open Go.RowKit

def XC (g s z : Nat) : Nat → Prop := fun b => XB g b ∨ (s ≤ b ∧ b ≤ s + z)
/-- A disk, the two boxes and the copy at s. -/
structure Wt (w : World) (d g s z : Nat) (a0 a1 b0 b1 c0 c1 : ByteArray) (S : Dk) (wr : World) : Prop where
  D : Dp w d (XC g s z) S wr
  X : Bx w g a0 a1 b0 b1 wr
  lo : w.heap.size ≤ s
  c : Ro wr s 41 [.string c0, .string c1]
section
variable {w wr w1 : World} {d g s z : Nat} {a0 a1 b0 b1 c0 c1 : ByteArray} {S S' : Dk}
theorem Wt.step (h : Wt w d g s z a0 a1 b0 b1 c0 c1 S wr) (D' : Dp w d (XC g s z) S' w1) (K : Kept (XC g s z) wr w1) : Wt w d g s z a0 a1 b0 b1 c0 c1 S' w1 :=
  ⟨D', h.X.keep (K.weak fun b hb _ => .inl hb) D'.bel, h.lo, h.c.same (K.blk _ (.inr ⟨Nat.le_refl _, Nat.le_add_right _ _⟩) h.c.lt)⟩
theorem Wt.start1 (D : Dp w d (XB g) S wr) (X : Bx w g a0 a1 b0 b1 wr) (c0 c1 : ByteArray) : Wt w d g wr.heap.size 0 a0 a1 b0 b1 c0 c1 S (wr.alloc (.cells #[.string c0, .string c1] 41)) := by
  have B1 := (Below.refl _ wr).alloc (Nat.le_refl _) (.cells #[.string c0, .string c1] 41)
  have B2 := D.bel.trans (B1.mono D.bel.size)
  refine ⟨D.wide (Kept.of_below B1) B2 fun b hb => ?_, X.keep (Kept.of_below B1) B2, D.bel.size, Ro.new wr 41 [.string c0, .string c1]⟩
  rw [World.size_alloc]
  rcases hb with hb | hb
  · exact .inl hb
  · exact .inr ⟨by omega, by omega⟩
theorem Wt.start (D : Dp w d (XB g) S wr) (X : Bx w g a0 a1 b0 b1 wr) (o : Obj) (c0 c1 : ByteArray) : Wt w d g wr.heap.size 1 a0 a1 b0 b1 c0 c1 S ((wr.alloc (.cells #[.string c0, .string c1] 41)).alloc o) := by
  have B1 := ((Below.refl _ wr).alloc (Nat.le_refl _) (.cells #[.string c0, .string c1] 41)).alloc (by rw [World.size_alloc]; omega) o
  have B2 := D.bel.trans (B1.mono D.bel.size)
  refine ⟨D.wide (Kept.of_below B1) B2 fun b hb => ?_, X.keep (Kept.of_below B1) B2, D.bel.size, (Ro.new wr 41 [.string c0, .string c1]).alloc o⟩
  rw [World.size_alloc, World.size_alloc]
  rcases hb with hb | hb
  · exact .inl hb
  · exact .inr ⟨by omega, by omega⟩
theorem Wt.put (h : Wt w d g s z a0 a1 b0 b1 c0 c1 S wr) {x y : ByteArray} (R : Ro w1 s 41 [.string x, .string y]) (G : wr.grownBy w1 (some s)) (hg : g + 1 < s) : Wt w d g s z a0 a1 b0 b1 x y S w1 := by
  have B2 : Below w.heap.size w w1 := h.D.bel.grown G h.D.bel.size fun k e => by injection e with e; have := h.lo; omega
  refine ⟨h.D.keep (Kept.of_grown G fun b hb e => ?_) B2, h.X.keep (Kept.of_grown G fun b hb e => ?_) B2, h.lo, R⟩
  · injection e with e
    exact hb (.inr ⟨by omega, by omega⟩)
  · injection e with e
    rcases hb with rfl | rfl <;> omega
theorem zs_two {b : Nat} {T : TypeId} {x y : Int} (h : Ro w b T [.int .i64 x, .int .i64 y]) (hx : -9223372036854775808 ≤ x ∧ x ≤ 9223372036854775807) (hy : -9223372036854775808 ≤ y ∧ y ≤ 9223372036854775807) : Zs w (some ⟨b, 0, none⟩) 2 [x, y] := by
  refine ⟨rfl, fun z hz => ?_, fun k hk => ⟨_, rfl, h.lt, ?_⟩⟩
  · simp only [List.mem_cons, List.not_mem_nil, or_false] at hz
    rcases hz with rfl | rfl
    · exact hx
    · exact hy
  · have ea : (⟨b, 0, none⟩ : Addr).add k = ⟨b, k, none⟩ := by unfold Addr.add; split <;> simp_all
    rw [ea]
    rcases (by omega : k = 0 ∨ k = 1) with rfl | rfl
    · exact h.cell rfl
    · exact h.cell rfl
end
/-- What On leaves of a disk that was off. -/
theorem on_great {S0 T : Dk} {k : Nat} (C : Chgd S0 k T) (h0 : usum S0.f.loose = 0) (h1 : usum S0.g.loose = 0) (hk : k ≤ 8192) :
    ∃ S', ({ T with off := true } : Dk).goOn [1073741824, 1073741824] = (0, S') ∧ Live S' ∧ S'.cnt = 0 ∧ S'.f.at = T.f.at ∧ S'.g.at = T.g.at :=
  ⟨_, rfl, ⟨rfl, rfl⟩, rfl, lose_great (k := 1073741824) (by have := C.uf; show (usum T.f.loose : Int) ≤ 1073741824; omega), lose_great (k := 1073741824) (by have := C.ug; show (usum T.g.loose : Int) ≤ 1073741824; omega)⟩
theorem on_none {S0 T : Dk} {k : Nat} (C : Chgd S0 k T) :
    ∃ S', ({ T with off := true } : Dk).goOn [] = (0, S') ∧ Live S' ∧ S'.cnt = 0 ∧ S'.f.at = S0.f.sure ∧ S'.g.at = S0.g.sure :=
  ⟨_, rfl, ⟨rfl, rfl⟩, rfl, (lose_none T.f).trans C.f, (lose_none T.g).trans C.g⟩
theorem Dk.Ok.at_f {S : Dk} (h : S.Ok) : AllB S.f.at ∧ AllB S.g.at := ⟨allB_appl h.bf.1 h.bf.2, allB_appl h.bg.1 h.bg.2⟩
end Go.Proofs.Ytgnomopiofpknaa
