/- What the functions of the package big return at the numbers of the anchor 'works', and that the anchor is true. -/
import Derived.Test.YtimjmmiajgfblaaGreatDoorGan
import Derived.BigQuiet
import Derived.BigGuardPart
import Derived.Deep.QuietTactic
import Derived.Deep.RegionHeld3
import Derived.Deep.RegionWith
import Derived.BigRegion
import Derived.ChangeKeysEq
import Derived.Laws.StructEq

namespace Go.Proofs.YtimjmmiajgfblaaGreatDoor.Bg
open Go.RowKit

set_option maxHeartbeats 1000000 in
theorem of_int (n : Int) (w : World) : Calls Tryz.prog 57 #[.int .u64 n] w fun e w' => e = .returned (.agg #[.int .u64 n, .int .u64 0, .int .u64 0, .int .u64 0]) ∧ Below w.heap.size w w' := by
  go_enter Tryz.func57, Tryz.ntmps57
  go_wp2_with fail
  go_returns
  refine ⟨rfl, ?_⟩
  go_grown
/-- Len64 at a word. -/
theorem lenIs (x l : Nat) (hx : x < 18446744073709551616) (hl : Lib.bitLen x = l) : LenIs x l := by
  intro w
  have h := Tryz.bits_Len64 (x : Int) w (by omega) (by omega)
  rw [Int.toNat_natCast, hl] at h
  exact h
end Go.Proofs.YtimjmmiajgfblaaGreatDoor.Bg

/- What Div and OfHash of the package big return at the numbers of the anchor 'works'. -/
namespace Go.Proofs.YtimjmmiajgfblaaGreatDoor.Bg
set_option maxRecDepth 100000
open Go.RowKit

theorem bcell {W w1 : World} (hb : Below W.heap.size W w1) : (∀ b o, b < W.heap.size → w1.cell? ⟨b, o, none⟩ = W.cell? ⟨b, o, none⟩) ∧ (∀ b o, b < W.heap.size → w1.frozen? ⟨b, o, none⟩ = W.frozen? ⟨b, o, none⟩) :=
  ⟨fun b o h => hb.cell (p := ⟨b, o, none⟩) h, fun b o h => hb.frozen (p := ⟨b, o, none⟩) h⟩


/-- '==' between two numbers of four words. -/
theorem eq_big (x0 x1 x2 x3 y0 y1 y2 y3 : Int) (w : World) :
    (Op.equalIn 10000 51 (.agg #[.int .u64 x0, .int .u64 x1, .int .u64 x2, .int .u64 x3]) (.agg #[.int .u64 y0, .int .u64 y1, .int .u64 y2, .int .u64 y3])).run Tryz.prog w = .ok (x0 == y0 && (x1 == y1 && (x2 == y2 && x3 == y3))) w := by
  obtain ⟨i, hi⟩ : ∃ i, Tryz.prog.info? 49 = some i := Option.isSome_iff_exists.1 (by kernel_rfl)
  rw [run_equalIn_array w 9999 (e := 49) (n := 4) _ _ Tryz.underlying51 hi]
  rw [show Tryz.prog.cellsOf 49 = 1 from by kernel_rfl]
  simp only [List.range, List.range.loop, Op.eqItems, Sem.run_bind]
  have pt : ∀ (a b c d : Int) (w : World), (part 49 #[.int .u64 a, .int .u64 b, .int .u64 c, .int .u64 d] 0).run Tryz.prog w = .ok (.int .u64 a) w ∧ (part 49 #[.int .u64 a, .int .u64 b, .int .u64 c, .int .u64 d] 1).run Tryz.prog w = .ok (.int .u64 b) w ∧ (part 49 #[.int .u64 a, .int .u64 b, .int .u64 c, .int .u64 d] 2).run Tryz.prog w = .ok (.int .u64 c) w ∧ (part 49 #[.int .u64 a, .int .u64 b, .int .u64 c, .int .u64 d] 3).run Tryz.prog w = .ok (.int .u64 d) w := by
    intro a b c d w
    refine ⟨?_, ?_, ?_, ?_⟩ <;> simp [part, isAgg, run_underlying Tryz.underlying49]
  simp [(pt _ _ _ _ _).1, (pt _ _ _ _ _).2.1, (pt _ _ _ _ _).2.2.1, (pt _ _ _ _ _).2.2.2, run_equalIn_int w _ _ _ _ _ _ Tryz.underlying49]
  by_cases h0 : x0 = y0 <;> by_cases h1 : x1 = y1 <;> by_cases h2 : x2 = y2 <;> by_cases h3 : x3 = y3 <;> simp [h0, h1, h2, h3]

end Go.Proofs.YtimjmmiajgfblaaGreatDoor.Bg

/- The anchor of the package big's statements is true: it returns true, and nothing that was there has turned. -/
namespace Go.Proofs.YtimjmmiajgfblaaGreatDoor.Bg
set_option maxRecDepth 100000
open Go.RowKit

/-- Block b holds a number of four words. -/
def Box (w : World) (b : Nat) (x0 x1 x2 x3 : Int) : Prop :=
  w.cell? ⟨b, 0, none⟩ = some (.int .u64 x0) ∧ w.cell? ⟨b, 1, none⟩ = some (.int .u64 x1) ∧ w.cell? ⟨b, 2, none⟩ = some (.int .u64 x2) ∧ w.cell? ⟨b, 3, none⟩ = some (.int .u64 x3)
theorem Box.later {w wx : World} {b : Nat} {x0 x1 x2 x3 : Int} (h : Box w b x0 x1 x2 x3) (hb : Below w.heap.size w wx) : Box wx b x0 x1 x2 x3 :=
  ⟨cell_later hb h.1, cell_later hb h.2.1, cell_later hb h.2.2.1, cell_later hb h.2.2.2⟩
theorem Box.alloc {w : World} {b : Nat} {x0 x1 x2 x3 : Int} (h : Box w b x0 x1 x2 x3) (o : Obj) : Box (w.alloc o) b x0 x1 x2 x3 := h.later ((Below.refl _ _).alloc (Nat.le_refl _) o)
theorem Box.new (w : World) (x0 x1 x2 x3 : Int) (t : TypeId) : Box (w.alloc (.cells #[.int .u64 x0, .int .u64 x1, .int .u64 x2, .int .u64 x3] t)) w.heap.size x0 x1 x2 x3 := by
  refine ⟨?_, ?_, ?_, ?_⟩ <;> simp [go_sem]
theorem below_step {w w1 w2 : World} (h : Below w.heap.size w w1) (k : Below w1.heap.size w1 w2) : Below w.heap.size w w2 := h.trans (k.mono h.size)
theorem below_alloc {w w1 : World} (h : Below w.heap.size w w1) (o : Obj) : Below w.heap.size w (w1.alloc o) := h.alloc h.size o

end Go.Proofs.YtimjmmiajgfblaaGreatDoor.Bg
