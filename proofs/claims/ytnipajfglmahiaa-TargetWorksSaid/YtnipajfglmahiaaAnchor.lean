/- The anchor of the package big's statements is true: it returns true, and nothing that was there has turned. -/
import Derived.Test.YtnipajfglmahiaaDivLit
import Derived.Deep.RegionHeld3
namespace Go.Proofs.Ytnipajfglmahiaa
open Go.RowKit

/-- Block b holds a number of four words. -/
def Box (w : World) (b : Nat) (x0 x1 x2 x3 : Int) : Prop :=
  w.cell? ⟨b, 0, none⟩ = some (.int .u64 x0) ∧ w.cell? ⟨b, 1, none⟩ = some (.int .u64 x1) ∧ w.cell? ⟨b, 2, none⟩ = some (.int .u64 x2) ∧ w.cell? ⟨b, 3, none⟩ = some (.int .u64 x3)
theorem Box.later {w wx : World} {b : Nat} {x0 x1 x2 x3 : Int} (h : Box w b x0 x1 x2 x3) (hb : Below w.heap.size w wx) : Box wx b x0 x1 x2 x3 :=
  ⟨cell_later hb h.1, cell_later hb h.2.1, cell_later hb h.2.2.1, cell_later hb h.2.2.2⟩
theorem Box.alloc {w : World} {b : Nat} {x0 x1 x2 x3 : Int} (h : Box w b x0 x1 x2 x3) (o : Obj) : Box (w.alloc o) b x0 x1 x2 x3 := h.later ((Below.refl _ _).alloc (Nat.le_refl _) o)
theorem Box.new (w : World) (x0 x1 x2 x3 : Int) (t : TypeId) : Box (w.alloc (.cells #[.int .u64 x0, .int .u64 x1, .int .u64 x2, .int .u64 x3] t)) w.heap.size x0 x1 x2 x3 := by
  refine ⟨?_, ?_, ?_, ?_⟩ <;> simp [go_sem]
theorem below_step {w w1 w2 : World} (h : Below w.heap.size w w1) (k : Below w1.heap.size w1 w2) : Below w.heap.size w w2 := h.trans (k.mono h.size)
theorem below_alloc {w w1 : World} (h : Below w.heap.size w w1) (o : Obj) : Below w.heap.size w (w1.alloc o) := h.alloc h.size o

end Go.Proofs.Ytnipajfglmahiaa
