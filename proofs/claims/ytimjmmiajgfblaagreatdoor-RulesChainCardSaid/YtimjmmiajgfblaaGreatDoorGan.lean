/- What the functions of the package big return, word by word: sums, differences and products of four words of 64 bits. No condition but that each word is below 2^64. -/
import Derived.Test.YtimjmmiajgfblaaGreatDoorQShelf
import Derived.Lib.Hide
import Derived.Laws.Externs
import Derived.Shelf.Spec.BitsCarry
import Derived.WalkKit
import Derived.WalkSpells
import Derived.WalkLawsBesides
import Derived.Handy
import Derived.RegionTactic

namespace Go.Proofs.YtimjmmiajgfblaaGreatDoor.Bg
open Go.RowKit

theorem call_add64 (x y c : Nat) (hc : c ≤ 1) (w : World) :
    (callFunc 78 #[.int .u64 x, .int .u64 y, .int .u64 c]).run Tryz.prog w = .ok (.value (.tuple #[.int .u64 (((x + y + c) % 18446744073709551616 : Nat) : Int), .int .u64 (((x + y + c) / 18446744073709551616 : Nat) : Int)])) w := by
  rw [run_callFunc_extern Tryz.func78 (by kernel_rfl) (by kernel_rfl) (by kernel_rfl) (e := add64Entry) (by kernel_rfl), run_add64 x y c (by omega) (by omega) (by omega) (by omega)]
  simp only [Result.andThen]
  congr 5 <;> omega

theorem call_sub64 (x y b : Nat) (hb : b ≤ 1) (w : World) :
    (callFunc 99 #[.int .u64 x, .int .u64 y, .int .u64 b]).run Tryz.prog w = .ok (.value (.tuple #[.int .u64 (((x + 18446744073709551616 - y - b) % 18446744073709551616 : Nat) : Int), .int .u64 ((if x < y + b then 1 else 0 : Nat) : Int)])) w := by
  rw [run_callFunc_extern Tryz.func99 (by kernel_rfl) (by kernel_rfl) (by kernel_rfl) (e := sub64Entry) (by kernel_rfl), run_sub64 x y b hb]
  rfl

/-- A call of Add64 or Sub64 at these words gives these words. -/
def Gives (f : FuncId) (x y c s d : Nat) : Prop := ∀ w : World, (callFunc f #[.int .u64 (x : Nat), .int .u64 (y : Nat), .int .u64 (c : Nat)]).run Tryz.prog w = .ok (.value (.tuple #[.int .u64 (s : Nat), .int .u64 (d : Nat)])) w
theorem gives_add (x y c s d : Nat) (hc : c ≤ 1) (hs : s = (x + y + c) % 18446744073709551616) (hd : d = (x + y + c) / 18446744073709551616) : Gives 78 x y c s d := by
  subst hs hd; exact call_add64 x y c hc
theorem gives_sub (x y c s d : Nat) (hc : c ≤ 1) (hs : s = (x + 18446744073709551616 - y - c) % 18446744073709551616) (hd : d = if x < y + c then 1 else 0) : Gives 99 x y c s d := by
  subst hs hd; exact call_sub64 x y c hc
theorem Gives.at0 {f : FuncId} {x y s d : Nat} (h : Gives f x y 0 s d) (w : World) : (callFunc f #[.int .u64 (x : Nat), .int .u64 (y : Nat), .int .u64 0]).run Tryz.prog w = .ok (.value (.tuple #[.int .u64 (s : Nat), .int .u64 (d : Nat)])) w := h w
theorem Gives.at00 {f : FuncId} {x s d : Nat} (h : Gives f x 0 0 s d) (w : World) : (callFunc f #[.int .u64 (x : Nat), .int .u64 0, .int .u64 0]).run Tryz.prog w = .ok (.value (.tuple #[.int .u64 (s : Nat), .int .u64 (d : Nat)])) w := h w
theorem Gives.at {f : FuncId} {x y c s d : Nat} (h : Gives f x y c s d) (w : World) : (callFunc f #[.int .u64 (x : Nat), .int .u64 (y : Nat), .int .u64 (c : Nat)]).run Tryz.prog w = .ok (.value (.tuple #[.int .u64 (s : Nat), .int .u64 (d : Nat)])) w := h w

set_option maxHeartbeats 1000000 in
theorem add_words (a0 a1 a2 a3 b0 b1 b2 b3 s0 s1 s2 s3 c1 c2 c3 c4 : Nat) (w : World)
    (g1 : Gives 78 a0 b0 0 s0 c1) (g2 : Gives 78 a1 b1 c1 s1 c2) (g3 : Gives 78 a2 b2 c2 s2 c3) (g4 : Gives 78 a3 b3 c3 s3 c4) :
    Calls Tryz.prog 62 #[.agg #[.int .u64 (a0 : Nat), .int .u64 (a1 : Nat), .int .u64 (a2 : Nat), .int .u64 (a3 : Nat)], .agg #[.int .u64 (b0 : Nat), .int .u64 (b1 : Nat), .int .u64 (b2 : Nat), .int .u64 (b3 : Nat)]] w fun e w' =>
      e = .returned (.tuple #[.agg #[.int .u64 (s0 : Nat), .int .u64 (s1 : Nat), .int .u64 (s2 : Nat), .int .u64 (s3 : Nat)], .bool ((c4 : Int) != 0)]) ∧ Below w.heap.size w w' := by
  have H1 := g1.at0
  have H2 := g2.at
  have H3 := g3.at
  have H4 := g4.at
  clear g1 g2 g3 g4
  go_enter Tryz.func62, Tryz.ntmps62
  go_wp2_with fail
  refine wp_loop_rounds 5 ?_
  rw [rounds_succ]
  go_wp2_with fail
  go_region
  go_wp2_with fail
  rw [rounds_succ]
  go_wp2_with fail
  go_region
  go_wp2_with fail
  rw [rounds_succ]
  go_wp2_with fail
  go_region
  go_wp2_with fail
  rw [rounds_succ]
  go_wp2_with fail
  go_region
  go_wp2_with fail
  rw [rounds_succ]
  go_wp2_with fail
  go_returns
  refine ⟨rfl, ?_⟩
  go_grown

set_option maxHeartbeats 1000000 in
theorem sub_words (a0 a1 a2 a3 b0 b1 b2 b3 s0 s1 s2 s3 c1 c2 c3 c4 : Nat) (w : World)
    (g1 : Gives 99 a0 b0 0 s0 c1) (g2 : Gives 99 a1 b1 c1 s1 c2) (g3 : Gives 99 a2 b2 c2 s2 c3) (g4 : Gives 99 a3 b3 c3 s3 c4) :
    Calls Tryz.prog 76 #[.agg #[.int .u64 (a0 : Nat), .int .u64 (a1 : Nat), .int .u64 (a2 : Nat), .int .u64 (a3 : Nat)], .agg #[.int .u64 (b0 : Nat), .int .u64 (b1 : Nat), .int .u64 (b2 : Nat), .int .u64 (b3 : Nat)]] w fun e w' =>
      e = .returned (.tuple #[.agg #[.int .u64 (s0 : Nat), .int .u64 (s1 : Nat), .int .u64 (s2 : Nat), .int .u64 (s3 : Nat)], .bool ((c4 : Int) != 0)]) ∧ Below w.heap.size w w' := by
  have H1 := g1.at0
  have H2 := g2.at
  have H3 := g3.at
  have H4 := g4.at
  clear g1 g2 g3 g4
  go_enter Tryz.func76, Tryz.ntmps76
  go_wp2_with fail
  refine wp_loop_rounds 5 ?_
  rw [rounds_succ]
  go_wp2_with fail
  go_region
  go_wp2_with fail
  rw [rounds_succ]
  go_wp2_with fail
  go_region
  go_wp2_with fail
  rw [rounds_succ]
  go_wp2_with fail
  go_region
  go_wp2_with fail
  rw [rounds_succ]
  go_wp2_with fail
  go_region
  go_wp2_with fail
  rw [rounds_succ]
  go_wp2_with fail
  go_returns
  refine ⟨rfl, ?_⟩
  go_grown

end Go.Proofs.YtimjmmiajgfblaaGreatDoor.Bg

/- What OfHash of the package big returns: four words, each gathered of eight bytes of the hash, the lowest byte first. -/
namespace Go.Proofs.YtimjmmiajgfblaaGreatDoor.Bg
set_option maxRecDepth 100000
open Go.RowKit

/-- How the words grow: f k j is word j behind k bytes. -/
structure Gathers (hb : Nat → Nat) (f : Nat → Nat → Nat) : Prop where
  byte : ∀ k, k < 32 → hb k < 256
  zero : ∀ j, f 0 j = 0
  same : ∀ k j, k < 32 → j ≠ k / 8 → f (k + 1) j = f k j
  step : ∀ k, k < 32 → bits .or .u64 (f k (k / 8) : Int) (IntKind.u64.wrap ((hb k : Int) * 2 ^ (k % 8 * 8))) = (f (k + 1) (k / 8) : Int)

theorem index_hash (hb : Nat → Nat) (w : World) (k : Nat) (h : k < 32) :
    (Instr.index 25 (.agg #[.int .u8 (hb 0 : Nat), .int .u8 (hb 1 : Nat), .int .u8 (hb 2 : Nat), .int .u8 (hb 3 : Nat), .int .u8 (hb 4 : Nat), .int .u8 (hb 5 : Nat), .int .u8 (hb 6 : Nat), .int .u8 (hb 7 : Nat), .int .u8 (hb 8 : Nat), .int .u8 (hb 9 : Nat), .int .u8 (hb 10 : Nat), .int .u8 (hb 11 : Nat), .int .u8 (hb 12 : Nat), .int .u8 (hb 13 : Nat), .int .u8 (hb 14 : Nat), .int .u8 (hb 15 : Nat), .int .u8 (hb 16 : Nat), .int .u8 (hb 17 : Nat), .int .u8 (hb 18 : Nat), .int .u8 (hb 19 : Nat), .int .u8 (hb 20 : Nat), .int .u8 (hb 21 : Nat), .int .u8 (hb 22 : Nat), .int .u8 (hb 23 : Nat), .int .u8 (hb 24 : Nat), .int .u8 (hb 25 : Nat), .int .u8 (hb 26 : Nat), .int .u8 (hb 27 : Nat), .int .u8 (hb 28 : Nat), .int .u8 (hb 29 : Nat), .int .u8 (hb 30 : Nat), .int .u8 (hb 31 : Nat)]) (.int .i64 (k : Nat))).run Tryz.prog w = .ok (.int .u8 (hb k : Nat)) w := by
  match k, h with
  | 0, _ => exact (by kernel_rfl : (Instr.index 25 (.agg #[.int .u8 (hb 0 : Nat), .int .u8 (hb 1 : Nat), .int .u8 (hb 2 : Nat), .int .u8 (hb 3 : Nat), .int .u8 (hb 4 : Nat), .int .u8 (hb 5 : Nat), .int .u8 (hb 6 : Nat), .int .u8 (hb 7 : Nat), .int .u8 (hb 8 : Nat), .int .u8 (hb 9 : Nat), .int .u8 (hb 10 : Nat), .int .u8 (hb 11 : Nat), .int .u8 (hb 12 : Nat), .int .u8 (hb 13 : Nat), .int .u8 (hb 14 : Nat), .int .u8 (hb 15 : Nat), .int .u8 (hb 16 : Nat), .int .u8 (hb 17 : Nat), .int .u8 (hb 18 : Nat), .int .u8 (hb 19 : Nat), .int .u8 (hb 20 : Nat), .int .u8 (hb 21 : Nat), .int .u8 (hb 22 : Nat), .int .u8 (hb 23 : Nat), .int .u8 (hb 24 : Nat), .int .u8 (hb 25 : Nat), .int .u8 (hb 26 : Nat), .int .u8 (hb 27 : Nat), .int .u8 (hb 28 : Nat), .int .u8 (hb 29 : Nat), .int .u8 (hb 30 : Nat), .int .u8 (hb 31 : Nat)]) (.int .i64 0)).run Tryz.prog w = .ok (.int .u8 (hb 0 : Nat)) w)
  | 1, _ => exact (by kernel_rfl : (Instr.index 25 (.agg #[.int .u8 (hb 0 : Nat), .int .u8 (hb 1 : Nat), .int .u8 (hb 2 : Nat), .int .u8 (hb 3 : Nat), .int .u8 (hb 4 : Nat), .int .u8 (hb 5 : Nat), .int .u8 (hb 6 : Nat), .int .u8 (hb 7 : Nat), .int .u8 (hb 8 : Nat), .int .u8 (hb 9 : Nat), .int .u8 (hb 10 : Nat), .int .u8 (hb 11 : Nat), .int .u8 (hb 12 : Nat), .int .u8 (hb 13 : Nat), .int .u8 (hb 14 : Nat), .int .u8 (hb 15 : Nat), .int .u8 (hb 16 : Nat), .int .u8 (hb 17 : Nat), .int .u8 (hb 18 : Nat), .int .u8 (hb 19 : Nat), .int .u8 (hb 20 : Nat), .int .u8 (hb 21 : Nat), .int .u8 (hb 22 : Nat), .int .u8 (hb 23 : Nat), .int .u8 (hb 24 : Nat), .int .u8 (hb 25 : Nat), .int .u8 (hb 26 : Nat), .int .u8 (hb 27 : Nat), .int .u8 (hb 28 : Nat), .int .u8 (hb 29 : Nat), .int .u8 (hb 30 : Nat), .int .u8 (hb 31 : Nat)]) (.int .i64 1)).run Tryz.prog w = .ok (.int .u8 (hb 1 : Nat)) w)
  | 2, _ => exact (by kernel_rfl : (Instr.index 25 (.agg #[.int .u8 (hb 0 : Nat), .int .u8 (hb 1 : Nat), .int .u8 (hb 2 : Nat), .int .u8 (hb 3 : Nat), .int .u8 (hb 4 : Nat), .int .u8 (hb 5 : Nat), .int .u8 (hb 6 : Nat), .int .u8 (hb 7 : Nat), .int .u8 (hb 8 : Nat), .int .u8 (hb 9 : Nat), .int .u8 (hb 10 : Nat), .int .u8 (hb 11 : Nat), .int .u8 (hb 12 : Nat), .int .u8 (hb 13 : Nat), .int .u8 (hb 14 : Nat), .int .u8 (hb 15 : Nat), .int .u8 (hb 16 : Nat), .int .u8 (hb 17 : Nat), .int .u8 (hb 18 : Nat), .int .u8 (hb 19 : Nat), .int .u8 (hb 20 : Nat), .int .u8 (hb 21 : Nat), .int .u8 (hb 22 : Nat), .int .u8 (hb 23 : Nat), .int .u8 (hb 24 : Nat), .int .u8 (hb 25 : Nat), .int .u8 (hb 26 : Nat), .int .u8 (hb 27 : Nat), .int .u8 (hb 28 : Nat), .int .u8 (hb 29 : Nat), .int .u8 (hb 30 : Nat), .int .u8 (hb 31 : Nat)]) (.int .i64 2)).run Tryz.prog w = .ok (.int .u8 (hb 2 : Nat)) w)
  | 3, _ => exact (by kernel_rfl : (Instr.index 25 (.agg #[.int .u8 (hb 0 : Nat), .int .u8 (hb 1 : Nat), .int .u8 (hb 2 : Nat), .int .u8 (hb 3 : Nat), .int .u8 (hb 4 : Nat), .int .u8 (hb 5 : Nat), .int .u8 (hb 6 : Nat), .int .u8 (hb 7 : Nat), .int .u8 (hb 8 : Nat), .int .u8 (hb 9 : Nat), .int .u8 (hb 10 : Nat), .int .u8 (hb 11 : Nat), .int .u8 (hb 12 : Nat), .int .u8 (hb 13 : Nat), .int .u8 (hb 14 : Nat), .int .u8 (hb 15 : Nat), .int .u8 (hb 16 : Nat), .int .u8 (hb 17 : Nat), .int .u8 (hb 18 : Nat), .int .u8 (hb 19 : Nat), .int .u8 (hb 20 : Nat), .int .u8 (hb 21 : Nat), .int .u8 (hb 22 : Nat), .int .u8 (hb 23 : Nat), .int .u8 (hb 24 : Nat), .int .u8 (hb 25 : Nat), .int .u8 (hb 26 : Nat), .int .u8 (hb 27 : Nat), .int .u8 (hb 28 : Nat), .int .u8 (hb 29 : Nat), .int .u8 (hb 30 : Nat), .int .u8 (hb 31 : Nat)]) (.int .i64 3)).run Tryz.prog w = .ok (.int .u8 (hb 3 : Nat)) w)
  | 4, _ => exact (by kernel_rfl : (Instr.index 25 (.agg #[.int .u8 (hb 0 : Nat), .int .u8 (hb 1 : Nat), .int .u8 (hb 2 : Nat), .int .u8 (hb 3 : Nat), .int .u8 (hb 4 : Nat), .int .u8 (hb 5 : Nat), .int .u8 (hb 6 : Nat), .int .u8 (hb 7 : Nat), .int .u8 (hb 8 : Nat), .int .u8 (hb 9 : Nat), .int .u8 (hb 10 : Nat), .int .u8 (hb 11 : Nat), .int .u8 (hb 12 : Nat), .int .u8 (hb 13 : Nat), .int .u8 (hb 14 : Nat), .int .u8 (hb 15 : Nat), .int .u8 (hb 16 : Nat), .int .u8 (hb 17 : Nat), .int .u8 (hb 18 : Nat), .int .u8 (hb 19 : Nat), .int .u8 (hb 20 : Nat), .int .u8 (hb 21 : Nat), .int .u8 (hb 22 : Nat), .int .u8 (hb 23 : Nat), .int .u8 (hb 24 : Nat), .int .u8 (hb 25 : Nat), .int .u8 (hb 26 : Nat), .int .u8 (hb 27 : Nat), .int .u8 (hb 28 : Nat), .int .u8 (hb 29 : Nat), .int .u8 (hb 30 : Nat), .int .u8 (hb 31 : Nat)]) (.int .i64 4)).run Tryz.prog w = .ok (.int .u8 (hb 4 : Nat)) w)
  | 5, _ => exact (by kernel_rfl : (Instr.index 25 (.agg #[.int .u8 (hb 0 : Nat), .int .u8 (hb 1 : Nat), .int .u8 (hb 2 : Nat), .int .u8 (hb 3 : Nat), .int .u8 (hb 4 : Nat), .int .u8 (hb 5 : Nat), .int .u8 (hb 6 : Nat), .int .u8 (hb 7 : Nat), .int .u8 (hb 8 : Nat), .int .u8 (hb 9 : Nat), .int .u8 (hb 10 : Nat), .int .u8 (hb 11 : Nat), .int .u8 (hb 12 : Nat), .int .u8 (hb 13 : Nat), .int .u8 (hb 14 : Nat), .int .u8 (hb 15 : Nat), .int .u8 (hb 16 : Nat), .int .u8 (hb 17 : Nat), .int .u8 (hb 18 : Nat), .int .u8 (hb 19 : Nat), .int .u8 (hb 20 : Nat), .int .u8 (hb 21 : Nat), .int .u8 (hb 22 : Nat), .int .u8 (hb 23 : Nat), .int .u8 (hb 24 : Nat), .int .u8 (hb 25 : Nat), .int .u8 (hb 26 : Nat), .int .u8 (hb 27 : Nat), .int .u8 (hb 28 : Nat), .int .u8 (hb 29 : Nat), .int .u8 (hb 30 : Nat), .int .u8 (hb 31 : Nat)]) (.int .i64 5)).run Tryz.prog w = .ok (.int .u8 (hb 5 : Nat)) w)
  | 6, _ => exact (by kernel_rfl : (Instr.index 25 (.agg #[.int .u8 (hb 0 : Nat), .int .u8 (hb 1 : Nat), .int .u8 (hb 2 : Nat), .int .u8 (hb 3 : Nat), .int .u8 (hb 4 : Nat), .int .u8 (hb 5 : Nat), .int .u8 (hb 6 : Nat), .int .u8 (hb 7 : Nat), .int .u8 (hb 8 : Nat), .int .u8 (hb 9 : Nat), .int .u8 (hb 10 : Nat), .int .u8 (hb 11 : Nat), .int .u8 (hb 12 : Nat), .int .u8 (hb 13 : Nat), .int .u8 (hb 14 : Nat), .int .u8 (hb 15 : Nat), .int .u8 (hb 16 : Nat), .int .u8 (hb 17 : Nat), .int .u8 (hb 18 : Nat), .int .u8 (hb 19 : Nat), .int .u8 (hb 20 : Nat), .int .u8 (hb 21 : Nat), .int .u8 (hb 22 : Nat), .int .u8 (hb 23 : Nat), .int .u8 (hb 24 : Nat), .int .u8 (hb 25 : Nat), .int .u8 (hb 26 : Nat), .int .u8 (hb 27 : Nat), .int .u8 (hb 28 : Nat), .int .u8 (hb 29 : Nat), .int .u8 (hb 30 : Nat), .int .u8 (hb 31 : Nat)]) (.int .i64 6)).run Tryz.prog w = .ok (.int .u8 (hb 6 : Nat)) w)
  | 7, _ => exact (by kernel_rfl : (Instr.index 25 (.agg #[.int .u8 (hb 0 : Nat), .int .u8 (hb 1 : Nat), .int .u8 (hb 2 : Nat), .int .u8 (hb 3 : Nat), .int .u8 (hb 4 : Nat), .int .u8 (hb 5 : Nat), .int .u8 (hb 6 : Nat), .int .u8 (hb 7 : Nat), .int .u8 (hb 8 : Nat), .int .u8 (hb 9 : Nat), .int .u8 (hb 10 : Nat), .int .u8 (hb 11 : Nat), .int .u8 (hb 12 : Nat), .int .u8 (hb 13 : Nat), .int .u8 (hb 14 : Nat), .int .u8 (hb 15 : Nat), .int .u8 (hb 16 : Nat), .int .u8 (hb 17 : Nat), .int .u8 (hb 18 : Nat), .int .u8 (hb 19 : Nat), .int .u8 (hb 20 : Nat), .int .u8 (hb 21 : Nat), .int .u8 (hb 22 : Nat), .int .u8 (hb 23 : Nat), .int .u8 (hb 24 : Nat), .int .u8 (hb 25 : Nat), .int .u8 (hb 26 : Nat), .int .u8 (hb 27 : Nat), .int .u8 (hb 28 : Nat), .int .u8 (hb 29 : Nat), .int .u8 (hb 30 : Nat), .int .u8 (hb 31 : Nat)]) (.int .i64 7)).run Tryz.prog w = .ok (.int .u8 (hb 7 : Nat)) w)
  | 8, _ => exact (by kernel_rfl : (Instr.index 25 (.agg #[.int .u8 (hb 0 : Nat), .int .u8 (hb 1 : Nat), .int .u8 (hb 2 : Nat), .int .u8 (hb 3 : Nat), .int .u8 (hb 4 : Nat), .int .u8 (hb 5 : Nat), .int .u8 (hb 6 : Nat), .int .u8 (hb 7 : Nat), .int .u8 (hb 8 : Nat), .int .u8 (hb 9 : Nat), .int .u8 (hb 10 : Nat), .int .u8 (hb 11 : Nat), .int .u8 (hb 12 : Nat), .int .u8 (hb 13 : Nat), .int .u8 (hb 14 : Nat), .int .u8 (hb 15 : Nat), .int .u8 (hb 16 : Nat), .int .u8 (hb 17 : Nat), .int .u8 (hb 18 : Nat), .int .u8 (hb 19 : Nat), .int .u8 (hb 20 : Nat), .int .u8 (hb 21 : Nat), .int .u8 (hb 22 : Nat), .int .u8 (hb 23 : Nat), .int .u8 (hb 24 : Nat), .int .u8 (hb 25 : Nat), .int .u8 (hb 26 : Nat), .int .u8 (hb 27 : Nat), .int .u8 (hb 28 : Nat), .int .u8 (hb 29 : Nat), .int .u8 (hb 30 : Nat), .int .u8 (hb 31 : Nat)]) (.int .i64 8)).run Tryz.prog w = .ok (.int .u8 (hb 8 : Nat)) w)
  | 9, _ => exact (by kernel_rfl : (Instr.index 25 (.agg #[.int .u8 (hb 0 : Nat), .int .u8 (hb 1 : Nat), .int .u8 (hb 2 : Nat), .int .u8 (hb 3 : Nat), .int .u8 (hb 4 : Nat), .int .u8 (hb 5 : Nat), .int .u8 (hb 6 : Nat), .int .u8 (hb 7 : Nat), .int .u8 (hb 8 : Nat), .int .u8 (hb 9 : Nat), .int .u8 (hb 10 : Nat), .int .u8 (hb 11 : Nat), .int .u8 (hb 12 : Nat), .int .u8 (hb 13 : Nat), .int .u8 (hb 14 : Nat), .int .u8 (hb 15 : Nat), .int .u8 (hb 16 : Nat), .int .u8 (hb 17 : Nat), .int .u8 (hb 18 : Nat), .int .u8 (hb 19 : Nat), .int .u8 (hb 20 : Nat), .int .u8 (hb 21 : Nat), .int .u8 (hb 22 : Nat), .int .u8 (hb 23 : Nat), .int .u8 (hb 24 : Nat), .int .u8 (hb 25 : Nat), .int .u8 (hb 26 : Nat), .int .u8 (hb 27 : Nat), .int .u8 (hb 28 : Nat), .int .u8 (hb 29 : Nat), .int .u8 (hb 30 : Nat), .int .u8 (hb 31 : Nat)]) (.int .i64 9)).run Tryz.prog w = .ok (.int .u8 (hb 9 : Nat)) w)
  | 10, _ => exact (by kernel_rfl : (Instr.index 25 (.agg #[.int .u8 (hb 0 : Nat), .int .u8 (hb 1 : Nat), .int .u8 (hb 2 : Nat), .int .u8 (hb 3 : Nat), .int .u8 (hb 4 : Nat), .int .u8 (hb 5 : Nat), .int .u8 (hb 6 : Nat), .int .u8 (hb 7 : Nat), .int .u8 (hb 8 : Nat), .int .u8 (hb 9 : Nat), .int .u8 (hb 10 : Nat), .int .u8 (hb 11 : Nat), .int .u8 (hb 12 : Nat), .int .u8 (hb 13 : Nat), .int .u8 (hb 14 : Nat), .int .u8 (hb 15 : Nat), .int .u8 (hb 16 : Nat), .int .u8 (hb 17 : Nat), .int .u8 (hb 18 : Nat), .int .u8 (hb 19 : Nat), .int .u8 (hb 20 : Nat), .int .u8 (hb 21 : Nat), .int .u8 (hb 22 : Nat), .int .u8 (hb 23 : Nat), .int .u8 (hb 24 : Nat), .int .u8 (hb 25 : Nat), .int .u8 (hb 26 : Nat), .int .u8 (hb 27 : Nat), .int .u8 (hb 28 : Nat), .int .u8 (hb 29 : Nat), .int .u8 (hb 30 : Nat), .int .u8 (hb 31 : Nat)]) (.int .i64 10)).run Tryz.prog w = .ok (.int .u8 (hb 10 : Nat)) w)
  | 11, _ => exact (by kernel_rfl : (Instr.index 25 (.agg #[.int .u8 (hb 0 : Nat), .int .u8 (hb 1 : Nat), .int .u8 (hb 2 : Nat), .int .u8 (hb 3 : Nat), .int .u8 (hb 4 : Nat), .int .u8 (hb 5 : Nat), .int .u8 (hb 6 : Nat), .int .u8 (hb 7 : Nat), .int .u8 (hb 8 : Nat), .int .u8 (hb 9 : Nat), .int .u8 (hb 10 : Nat), .int .u8 (hb 11 : Nat), .int .u8 (hb 12 : Nat), .int .u8 (hb 13 : Nat), .int .u8 (hb 14 : Nat), .int .u8 (hb 15 : Nat), .int .u8 (hb 16 : Nat), .int .u8 (hb 17 : Nat), .int .u8 (hb 18 : Nat), .int .u8 (hb 19 : Nat), .int .u8 (hb 20 : Nat), .int .u8 (hb 21 : Nat), .int .u8 (hb 22 : Nat), .int .u8 (hb 23 : Nat), .int .u8 (hb 24 : Nat), .int .u8 (hb 25 : Nat), .int .u8 (hb 26 : Nat), .int .u8 (hb 27 : Nat), .int .u8 (hb 28 : Nat), .int .u8 (hb 29 : Nat), .int .u8 (hb 30 : Nat), .int .u8 (hb 31 : Nat)]) (.int .i64 11)).run Tryz.prog w = .ok (.int .u8 (hb 11 : Nat)) w)
  | 12, _ => exact (by kernel_rfl : (Instr.index 25 (.agg #[.int .u8 (hb 0 : Nat), .int .u8 (hb 1 : Nat), .int .u8 (hb 2 : Nat), .int .u8 (hb 3 : Nat), .int .u8 (hb 4 : Nat), .int .u8 (hb 5 : Nat), .int .u8 (hb 6 : Nat), .int .u8 (hb 7 : Nat), .int .u8 (hb 8 : Nat), .int .u8 (hb 9 : Nat), .int .u8 (hb 10 : Nat), .int .u8 (hb 11 : Nat), .int .u8 (hb 12 : Nat), .int .u8 (hb 13 : Nat), .int .u8 (hb 14 : Nat), .int .u8 (hb 15 : Nat), .int .u8 (hb 16 : Nat), .int .u8 (hb 17 : Nat), .int .u8 (hb 18 : Nat), .int .u8 (hb 19 : Nat), .int .u8 (hb 20 : Nat), .int .u8 (hb 21 : Nat), .int .u8 (hb 22 : Nat), .int .u8 (hb 23 : Nat), .int .u8 (hb 24 : Nat), .int .u8 (hb 25 : Nat), .int .u8 (hb 26 : Nat), .int .u8 (hb 27 : Nat), .int .u8 (hb 28 : Nat), .int .u8 (hb 29 : Nat), .int .u8 (hb 30 : Nat), .int .u8 (hb 31 : Nat)]) (.int .i64 12)).run Tryz.prog w = .ok (.int .u8 (hb 12 : Nat)) w)
  | 13, _ => exact (by kernel_rfl : (Instr.index 25 (.agg #[.int .u8 (hb 0 : Nat), .int .u8 (hb 1 : Nat), .int .u8 (hb 2 : Nat), .int .u8 (hb 3 : Nat), .int .u8 (hb 4 : Nat), .int .u8 (hb 5 : Nat), .int .u8 (hb 6 : Nat), .int .u8 (hb 7 : Nat), .int .u8 (hb 8 : Nat), .int .u8 (hb 9 : Nat), .int .u8 (hb 10 : Nat), .int .u8 (hb 11 : Nat), .int .u8 (hb 12 : Nat), .int .u8 (hb 13 : Nat), .int .u8 (hb 14 : Nat), .int .u8 (hb 15 : Nat), .int .u8 (hb 16 : Nat), .int .u8 (hb 17 : Nat), .int .u8 (hb 18 : Nat), .int .u8 (hb 19 : Nat), .int .u8 (hb 20 : Nat), .int .u8 (hb 21 : Nat), .int .u8 (hb 22 : Nat), .int .u8 (hb 23 : Nat), .int .u8 (hb 24 : Nat), .int .u8 (hb 25 : Nat), .int .u8 (hb 26 : Nat), .int .u8 (hb 27 : Nat), .int .u8 (hb 28 : Nat), .int .u8 (hb 29 : Nat), .int .u8 (hb 30 : Nat), .int .u8 (hb 31 : Nat)]) (.int .i64 13)).run Tryz.prog w = .ok (.int .u8 (hb 13 : Nat)) w)
  | 14, _ => exact (by kernel_rfl : (Instr.index 25 (.agg #[.int .u8 (hb 0 : Nat), .int .u8 (hb 1 : Nat), .int .u8 (hb 2 : Nat), .int .u8 (hb 3 : Nat), .int .u8 (hb 4 : Nat), .int .u8 (hb 5 : Nat), .int .u8 (hb 6 : Nat), .int .u8 (hb 7 : Nat), .int .u8 (hb 8 : Nat), .int .u8 (hb 9 : Nat), .int .u8 (hb 10 : Nat), .int .u8 (hb 11 : Nat), .int .u8 (hb 12 : Nat), .int .u8 (hb 13 : Nat), .int .u8 (hb 14 : Nat), .int .u8 (hb 15 : Nat), .int .u8 (hb 16 : Nat), .int .u8 (hb 17 : Nat), .int .u8 (hb 18 : Nat), .int .u8 (hb 19 : Nat), .int .u8 (hb 20 : Nat), .int .u8 (hb 21 : Nat), .int .u8 (hb 22 : Nat), .int .u8 (hb 23 : Nat), .int .u8 (hb 24 : Nat), .int .u8 (hb 25 : Nat), .int .u8 (hb 26 : Nat), .int .u8 (hb 27 : Nat), .int .u8 (hb 28 : Nat), .int .u8 (hb 29 : Nat), .int .u8 (hb 30 : Nat), .int .u8 (hb 31 : Nat)]) (.int .i64 14)).run Tryz.prog w = .ok (.int .u8 (hb 14 : Nat)) w)
  | 15, _ => exact (by kernel_rfl : (Instr.index 25 (.agg #[.int .u8 (hb 0 : Nat), .int .u8 (hb 1 : Nat), .int .u8 (hb 2 : Nat), .int .u8 (hb 3 : Nat), .int .u8 (hb 4 : Nat), .int .u8 (hb 5 : Nat), .int .u8 (hb 6 : Nat), .int .u8 (hb 7 : Nat), .int .u8 (hb 8 : Nat), .int .u8 (hb 9 : Nat), .int .u8 (hb 10 : Nat), .int .u8 (hb 11 : Nat), .int .u8 (hb 12 : Nat), .int .u8 (hb 13 : Nat), .int .u8 (hb 14 : Nat), .int .u8 (hb 15 : Nat), .int .u8 (hb 16 : Nat), .int .u8 (hb 17 : Nat), .int .u8 (hb 18 : Nat), .int .u8 (hb 19 : Nat), .int .u8 (hb 20 : Nat), .int .u8 (hb 21 : Nat), .int .u8 (hb 22 : Nat), .int .u8 (hb 23 : Nat), .int .u8 (hb 24 : Nat), .int .u8 (hb 25 : Nat), .int .u8 (hb 26 : Nat), .int .u8 (hb 27 : Nat), .int .u8 (hb 28 : Nat), .int .u8 (hb 29 : Nat), .int .u8 (hb 30 : Nat), .int .u8 (hb 31 : Nat)]) (.int .i64 15)).run Tryz.prog w = .ok (.int .u8 (hb 15 : Nat)) w)
  | 16, _ => exact (by kernel_rfl : (Instr.index 25 (.agg #[.int .u8 (hb 0 : Nat), .int .u8 (hb 1 : Nat), .int .u8 (hb 2 : Nat), .int .u8 (hb 3 : Nat), .int .u8 (hb 4 : Nat), .int .u8 (hb 5 : Nat), .int .u8 (hb 6 : Nat), .int .u8 (hb 7 : Nat), .int .u8 (hb 8 : Nat), .int .u8 (hb 9 : Nat), .int .u8 (hb 10 : Nat), .int .u8 (hb 11 : Nat), .int .u8 (hb 12 : Nat), .int .u8 (hb 13 : Nat), .int .u8 (hb 14 : Nat), .int .u8 (hb 15 : Nat), .int .u8 (hb 16 : Nat), .int .u8 (hb 17 : Nat), .int .u8 (hb 18 : Nat), .int .u8 (hb 19 : Nat), .int .u8 (hb 20 : Nat), .int .u8 (hb 21 : Nat), .int .u8 (hb 22 : Nat), .int .u8 (hb 23 : Nat), .int .u8 (hb 24 : Nat), .int .u8 (hb 25 : Nat), .int .u8 (hb 26 : Nat), .int .u8 (hb 27 : Nat), .int .u8 (hb 28 : Nat), .int .u8 (hb 29 : Nat), .int .u8 (hb 30 : Nat), .int .u8 (hb 31 : Nat)]) (.int .i64 16)).run Tryz.prog w = .ok (.int .u8 (hb 16 : Nat)) w)
  | 17, _ => exact (by kernel_rfl : (Instr.index 25 (.agg #[.int .u8 (hb 0 : Nat), .int .u8 (hb 1 : Nat), .int .u8 (hb 2 : Nat), .int .u8 (hb 3 : Nat), .int .u8 (hb 4 : Nat), .int .u8 (hb 5 : Nat), .int .u8 (hb 6 : Nat), .int .u8 (hb 7 : Nat), .int .u8 (hb 8 : Nat), .int .u8 (hb 9 : Nat), .int .u8 (hb 10 : Nat), .int .u8 (hb 11 : Nat), .int .u8 (hb 12 : Nat), .int .u8 (hb 13 : Nat), .int .u8 (hb 14 : Nat), .int .u8 (hb 15 : Nat), .int .u8 (hb 16 : Nat), .int .u8 (hb 17 : Nat), .int .u8 (hb 18 : Nat), .int .u8 (hb 19 : Nat), .int .u8 (hb 20 : Nat), .int .u8 (hb 21 : Nat), .int .u8 (hb 22 : Nat), .int .u8 (hb 23 : Nat), .int .u8 (hb 24 : Nat), .int .u8 (hb 25 : Nat), .int .u8 (hb 26 : Nat), .int .u8 (hb 27 : Nat), .int .u8 (hb 28 : Nat), .int .u8 (hb 29 : Nat), .int .u8 (hb 30 : Nat), .int .u8 (hb 31 : Nat)]) (.int .i64 17)).run Tryz.prog w = .ok (.int .u8 (hb 17 : Nat)) w)
  | 18, _ => exact (by kernel_rfl : (Instr.index 25 (.agg #[.int .u8 (hb 0 : Nat), .int .u8 (hb 1 : Nat), .int .u8 (hb 2 : Nat), .int .u8 (hb 3 : Nat), .int .u8 (hb 4 : Nat), .int .u8 (hb 5 : Nat), .int .u8 (hb 6 : Nat), .int .u8 (hb 7 : Nat), .int .u8 (hb 8 : Nat), .int .u8 (hb 9 : Nat), .int .u8 (hb 10 : Nat), .int .u8 (hb 11 : Nat), .int .u8 (hb 12 : Nat), .int .u8 (hb 13 : Nat), .int .u8 (hb 14 : Nat), .int .u8 (hb 15 : Nat), .int .u8 (hb 16 : Nat), .int .u8 (hb 17 : Nat), .int .u8 (hb 18 : Nat), .int .u8 (hb 19 : Nat), .int .u8 (hb 20 : Nat), .int .u8 (hb 21 : Nat), .int .u8 (hb 22 : Nat), .int .u8 (hb 23 : Nat), .int .u8 (hb 24 : Nat), .int .u8 (hb 25 : Nat), .int .u8 (hb 26 : Nat), .int .u8 (hb 27 : Nat), .int .u8 (hb 28 : Nat), .int .u8 (hb 29 : Nat), .int .u8 (hb 30 : Nat), .int .u8 (hb 31 : Nat)]) (.int .i64 18)).run Tryz.prog w = .ok (.int .u8 (hb 18 : Nat)) w)
  | 19, _ => exact (by kernel_rfl : (Instr.index 25 (.agg #[.int .u8 (hb 0 : Nat), .int .u8 (hb 1 : Nat), .int .u8 (hb 2 : Nat), .int .u8 (hb 3 : Nat), .int .u8 (hb 4 : Nat), .int .u8 (hb 5 : Nat), .int .u8 (hb 6 : Nat), .int .u8 (hb 7 : Nat), .int .u8 (hb 8 : Nat), .int .u8 (hb 9 : Nat), .int .u8 (hb 10 : Nat), .int .u8 (hb 11 : Nat), .int .u8 (hb 12 : Nat), .int .u8 (hb 13 : Nat), .int .u8 (hb 14 : Nat), .int .u8 (hb 15 : Nat), .int .u8 (hb 16 : Nat), .int .u8 (hb 17 : Nat), .int .u8 (hb 18 : Nat), .int .u8 (hb 19 : Nat), .int .u8 (hb 20 : Nat), .int .u8 (hb 21 : Nat), .int .u8 (hb 22 : Nat), .int .u8 (hb 23 : Nat), .int .u8 (hb 24 : Nat), .int .u8 (hb 25 : Nat), .int .u8 (hb 26 : Nat), .int .u8 (hb 27 : Nat), .int .u8 (hb 28 : Nat), .int .u8 (hb 29 : Nat), .int .u8 (hb 30 : Nat), .int .u8 (hb 31 : Nat)]) (.int .i64 19)).run Tryz.prog w = .ok (.int .u8 (hb 19 : Nat)) w)
  | 20, _ => exact (by kernel_rfl : (Instr.index 25 (.agg #[.int .u8 (hb 0 : Nat), .int .u8 (hb 1 : Nat), .int .u8 (hb 2 : Nat), .int .u8 (hb 3 : Nat), .int .u8 (hb 4 : Nat), .int .u8 (hb 5 : Nat), .int .u8 (hb 6 : Nat), .int .u8 (hb 7 : Nat), .int .u8 (hb 8 : Nat), .int .u8 (hb 9 : Nat), .int .u8 (hb 10 : Nat), .int .u8 (hb 11 : Nat), .int .u8 (hb 12 : Nat), .int .u8 (hb 13 : Nat), .int .u8 (hb 14 : Nat), .int .u8 (hb 15 : Nat), .int .u8 (hb 16 : Nat), .int .u8 (hb 17 : Nat), .int .u8 (hb 18 : Nat), .int .u8 (hb 19 : Nat), .int .u8 (hb 20 : Nat), .int .u8 (hb 21 : Nat), .int .u8 (hb 22 : Nat), .int .u8 (hb 23 : Nat), .int .u8 (hb 24 : Nat), .int .u8 (hb 25 : Nat), .int .u8 (hb 26 : Nat), .int .u8 (hb 27 : Nat), .int .u8 (hb 28 : Nat), .int .u8 (hb 29 : Nat), .int .u8 (hb 30 : Nat), .int .u8 (hb 31 : Nat)]) (.int .i64 20)).run Tryz.prog w = .ok (.int .u8 (hb 20 : Nat)) w)
  | 21, _ => exact (by kernel_rfl : (Instr.index 25 (.agg #[.int .u8 (hb 0 : Nat), .int .u8 (hb 1 : Nat), .int .u8 (hb 2 : Nat), .int .u8 (hb 3 : Nat), .int .u8 (hb 4 : Nat), .int .u8 (hb 5 : Nat), .int .u8 (hb 6 : Nat), .int .u8 (hb 7 : Nat), .int .u8 (hb 8 : Nat), .int .u8 (hb 9 : Nat), .int .u8 (hb 10 : Nat), .int .u8 (hb 11 : Nat), .int .u8 (hb 12 : Nat), .int .u8 (hb 13 : Nat), .int .u8 (hb 14 : Nat), .int .u8 (hb 15 : Nat), .int .u8 (hb 16 : Nat), .int .u8 (hb 17 : Nat), .int .u8 (hb 18 : Nat), .int .u8 (hb 19 : Nat), .int .u8 (hb 20 : Nat), .int .u8 (hb 21 : Nat), .int .u8 (hb 22 : Nat), .int .u8 (hb 23 : Nat), .int .u8 (hb 24 : Nat), .int .u8 (hb 25 : Nat), .int .u8 (hb 26 : Nat), .int .u8 (hb 27 : Nat), .int .u8 (hb 28 : Nat), .int .u8 (hb 29 : Nat), .int .u8 (hb 30 : Nat), .int .u8 (hb 31 : Nat)]) (.int .i64 21)).run Tryz.prog w = .ok (.int .u8 (hb 21 : Nat)) w)
  | 22, _ => exact (by kernel_rfl : (Instr.index 25 (.agg #[.int .u8 (hb 0 : Nat), .int .u8 (hb 1 : Nat), .int .u8 (hb 2 : Nat), .int .u8 (hb 3 : Nat), .int .u8 (hb 4 : Nat), .int .u8 (hb 5 : Nat), .int .u8 (hb 6 : Nat), .int .u8 (hb 7 : Nat), .int .u8 (hb 8 : Nat), .int .u8 (hb 9 : Nat), .int .u8 (hb 10 : Nat), .int .u8 (hb 11 : Nat), .int .u8 (hb 12 : Nat), .int .u8 (hb 13 : Nat), .int .u8 (hb 14 : Nat), .int .u8 (hb 15 : Nat), .int .u8 (hb 16 : Nat), .int .u8 (hb 17 : Nat), .int .u8 (hb 18 : Nat), .int .u8 (hb 19 : Nat), .int .u8 (hb 20 : Nat), .int .u8 (hb 21 : Nat), .int .u8 (hb 22 : Nat), .int .u8 (hb 23 : Nat), .int .u8 (hb 24 : Nat), .int .u8 (hb 25 : Nat), .int .u8 (hb 26 : Nat), .int .u8 (hb 27 : Nat), .int .u8 (hb 28 : Nat), .int .u8 (hb 29 : Nat), .int .u8 (hb 30 : Nat), .int .u8 (hb 31 : Nat)]) (.int .i64 22)).run Tryz.prog w = .ok (.int .u8 (hb 22 : Nat)) w)
  | 23, _ => exact (by kernel_rfl : (Instr.index 25 (.agg #[.int .u8 (hb 0 : Nat), .int .u8 (hb 1 : Nat), .int .u8 (hb 2 : Nat), .int .u8 (hb 3 : Nat), .int .u8 (hb 4 : Nat), .int .u8 (hb 5 : Nat), .int .u8 (hb 6 : Nat), .int .u8 (hb 7 : Nat), .int .u8 (hb 8 : Nat), .int .u8 (hb 9 : Nat), .int .u8 (hb 10 : Nat), .int .u8 (hb 11 : Nat), .int .u8 (hb 12 : Nat), .int .u8 (hb 13 : Nat), .int .u8 (hb 14 : Nat), .int .u8 (hb 15 : Nat), .int .u8 (hb 16 : Nat), .int .u8 (hb 17 : Nat), .int .u8 (hb 18 : Nat), .int .u8 (hb 19 : Nat), .int .u8 (hb 20 : Nat), .int .u8 (hb 21 : Nat), .int .u8 (hb 22 : Nat), .int .u8 (hb 23 : Nat), .int .u8 (hb 24 : Nat), .int .u8 (hb 25 : Nat), .int .u8 (hb 26 : Nat), .int .u8 (hb 27 : Nat), .int .u8 (hb 28 : Nat), .int .u8 (hb 29 : Nat), .int .u8 (hb 30 : Nat), .int .u8 (hb 31 : Nat)]) (.int .i64 23)).run Tryz.prog w = .ok (.int .u8 (hb 23 : Nat)) w)
  | 24, _ => exact (by kernel_rfl : (Instr.index 25 (.agg #[.int .u8 (hb 0 : Nat), .int .u8 (hb 1 : Nat), .int .u8 (hb 2 : Nat), .int .u8 (hb 3 : Nat), .int .u8 (hb 4 : Nat), .int .u8 (hb 5 : Nat), .int .u8 (hb 6 : Nat), .int .u8 (hb 7 : Nat), .int .u8 (hb 8 : Nat), .int .u8 (hb 9 : Nat), .int .u8 (hb 10 : Nat), .int .u8 (hb 11 : Nat), .int .u8 (hb 12 : Nat), .int .u8 (hb 13 : Nat), .int .u8 (hb 14 : Nat), .int .u8 (hb 15 : Nat), .int .u8 (hb 16 : Nat), .int .u8 (hb 17 : Nat), .int .u8 (hb 18 : Nat), .int .u8 (hb 19 : Nat), .int .u8 (hb 20 : Nat), .int .u8 (hb 21 : Nat), .int .u8 (hb 22 : Nat), .int .u8 (hb 23 : Nat), .int .u8 (hb 24 : Nat), .int .u8 (hb 25 : Nat), .int .u8 (hb 26 : Nat), .int .u8 (hb 27 : Nat), .int .u8 (hb 28 : Nat), .int .u8 (hb 29 : Nat), .int .u8 (hb 30 : Nat), .int .u8 (hb 31 : Nat)]) (.int .i64 24)).run Tryz.prog w = .ok (.int .u8 (hb 24 : Nat)) w)
  | 25, _ => exact (by kernel_rfl : (Instr.index 25 (.agg #[.int .u8 (hb 0 : Nat), .int .u8 (hb 1 : Nat), .int .u8 (hb 2 : Nat), .int .u8 (hb 3 : Nat), .int .u8 (hb 4 : Nat), .int .u8 (hb 5 : Nat), .int .u8 (hb 6 : Nat), .int .u8 (hb 7 : Nat), .int .u8 (hb 8 : Nat), .int .u8 (hb 9 : Nat), .int .u8 (hb 10 : Nat), .int .u8 (hb 11 : Nat), .int .u8 (hb 12 : Nat), .int .u8 (hb 13 : Nat), .int .u8 (hb 14 : Nat), .int .u8 (hb 15 : Nat), .int .u8 (hb 16 : Nat), .int .u8 (hb 17 : Nat), .int .u8 (hb 18 : Nat), .int .u8 (hb 19 : Nat), .int .u8 (hb 20 : Nat), .int .u8 (hb 21 : Nat), .int .u8 (hb 22 : Nat), .int .u8 (hb 23 : Nat), .int .u8 (hb 24 : Nat), .int .u8 (hb 25 : Nat), .int .u8 (hb 26 : Nat), .int .u8 (hb 27 : Nat), .int .u8 (hb 28 : Nat), .int .u8 (hb 29 : Nat), .int .u8 (hb 30 : Nat), .int .u8 (hb 31 : Nat)]) (.int .i64 25)).run Tryz.prog w = .ok (.int .u8 (hb 25 : Nat)) w)
  | 26, _ => exact (by kernel_rfl : (Instr.index 25 (.agg #[.int .u8 (hb 0 : Nat), .int .u8 (hb 1 : Nat), .int .u8 (hb 2 : Nat), .int .u8 (hb 3 : Nat), .int .u8 (hb 4 : Nat), .int .u8 (hb 5 : Nat), .int .u8 (hb 6 : Nat), .int .u8 (hb 7 : Nat), .int .u8 (hb 8 : Nat), .int .u8 (hb 9 : Nat), .int .u8 (hb 10 : Nat), .int .u8 (hb 11 : Nat), .int .u8 (hb 12 : Nat), .int .u8 (hb 13 : Nat), .int .u8 (hb 14 : Nat), .int .u8 (hb 15 : Nat), .int .u8 (hb 16 : Nat), .int .u8 (hb 17 : Nat), .int .u8 (hb 18 : Nat), .int .u8 (hb 19 : Nat), .int .u8 (hb 20 : Nat), .int .u8 (hb 21 : Nat), .int .u8 (hb 22 : Nat), .int .u8 (hb 23 : Nat), .int .u8 (hb 24 : Nat), .int .u8 (hb 25 : Nat), .int .u8 (hb 26 : Nat), .int .u8 (hb 27 : Nat), .int .u8 (hb 28 : Nat), .int .u8 (hb 29 : Nat), .int .u8 (hb 30 : Nat), .int .u8 (hb 31 : Nat)]) (.int .i64 26)).run Tryz.prog w = .ok (.int .u8 (hb 26 : Nat)) w)
  | 27, _ => exact (by kernel_rfl : (Instr.index 25 (.agg #[.int .u8 (hb 0 : Nat), .int .u8 (hb 1 : Nat), .int .u8 (hb 2 : Nat), .int .u8 (hb 3 : Nat), .int .u8 (hb 4 : Nat), .int .u8 (hb 5 : Nat), .int .u8 (hb 6 : Nat), .int .u8 (hb 7 : Nat), .int .u8 (hb 8 : Nat), .int .u8 (hb 9 : Nat), .int .u8 (hb 10 : Nat), .int .u8 (hb 11 : Nat), .int .u8 (hb 12 : Nat), .int .u8 (hb 13 : Nat), .int .u8 (hb 14 : Nat), .int .u8 (hb 15 : Nat), .int .u8 (hb 16 : Nat), .int .u8 (hb 17 : Nat), .int .u8 (hb 18 : Nat), .int .u8 (hb 19 : Nat), .int .u8 (hb 20 : Nat), .int .u8 (hb 21 : Nat), .int .u8 (hb 22 : Nat), .int .u8 (hb 23 : Nat), .int .u8 (hb 24 : Nat), .int .u8 (hb 25 : Nat), .int .u8 (hb 26 : Nat), .int .u8 (hb 27 : Nat), .int .u8 (hb 28 : Nat), .int .u8 (hb 29 : Nat), .int .u8 (hb 30 : Nat), .int .u8 (hb 31 : Nat)]) (.int .i64 27)).run Tryz.prog w = .ok (.int .u8 (hb 27 : Nat)) w)
  | 28, _ => exact (by kernel_rfl : (Instr.index 25 (.agg #[.int .u8 (hb 0 : Nat), .int .u8 (hb 1 : Nat), .int .u8 (hb 2 : Nat), .int .u8 (hb 3 : Nat), .int .u8 (hb 4 : Nat), .int .u8 (hb 5 : Nat), .int .u8 (hb 6 : Nat), .int .u8 (hb 7 : Nat), .int .u8 (hb 8 : Nat), .int .u8 (hb 9 : Nat), .int .u8 (hb 10 : Nat), .int .u8 (hb 11 : Nat), .int .u8 (hb 12 : Nat), .int .u8 (hb 13 : Nat), .int .u8 (hb 14 : Nat), .int .u8 (hb 15 : Nat), .int .u8 (hb 16 : Nat), .int .u8 (hb 17 : Nat), .int .u8 (hb 18 : Nat), .int .u8 (hb 19 : Nat), .int .u8 (hb 20 : Nat), .int .u8 (hb 21 : Nat), .int .u8 (hb 22 : Nat), .int .u8 (hb 23 : Nat), .int .u8 (hb 24 : Nat), .int .u8 (hb 25 : Nat), .int .u8 (hb 26 : Nat), .int .u8 (hb 27 : Nat), .int .u8 (hb 28 : Nat), .int .u8 (hb 29 : Nat), .int .u8 (hb 30 : Nat), .int .u8 (hb 31 : Nat)]) (.int .i64 28)).run Tryz.prog w = .ok (.int .u8 (hb 28 : Nat)) w)
  | 29, _ => exact (by kernel_rfl : (Instr.index 25 (.agg #[.int .u8 (hb 0 : Nat), .int .u8 (hb 1 : Nat), .int .u8 (hb 2 : Nat), .int .u8 (hb 3 : Nat), .int .u8 (hb 4 : Nat), .int .u8 (hb 5 : Nat), .int .u8 (hb 6 : Nat), .int .u8 (hb 7 : Nat), .int .u8 (hb 8 : Nat), .int .u8 (hb 9 : Nat), .int .u8 (hb 10 : Nat), .int .u8 (hb 11 : Nat), .int .u8 (hb 12 : Nat), .int .u8 (hb 13 : Nat), .int .u8 (hb 14 : Nat), .int .u8 (hb 15 : Nat), .int .u8 (hb 16 : Nat), .int .u8 (hb 17 : Nat), .int .u8 (hb 18 : Nat), .int .u8 (hb 19 : Nat), .int .u8 (hb 20 : Nat), .int .u8 (hb 21 : Nat), .int .u8 (hb 22 : Nat), .int .u8 (hb 23 : Nat), .int .u8 (hb 24 : Nat), .int .u8 (hb 25 : Nat), .int .u8 (hb 26 : Nat), .int .u8 (hb 27 : Nat), .int .u8 (hb 28 : Nat), .int .u8 (hb 29 : Nat), .int .u8 (hb 30 : Nat), .int .u8 (hb 31 : Nat)]) (.int .i64 29)).run Tryz.prog w = .ok (.int .u8 (hb 29 : Nat)) w)
  | 30, _ => exact (by kernel_rfl : (Instr.index 25 (.agg #[.int .u8 (hb 0 : Nat), .int .u8 (hb 1 : Nat), .int .u8 (hb 2 : Nat), .int .u8 (hb 3 : Nat), .int .u8 (hb 4 : Nat), .int .u8 (hb 5 : Nat), .int .u8 (hb 6 : Nat), .int .u8 (hb 7 : Nat), .int .u8 (hb 8 : Nat), .int .u8 (hb 9 : Nat), .int .u8 (hb 10 : Nat), .int .u8 (hb 11 : Nat), .int .u8 (hb 12 : Nat), .int .u8 (hb 13 : Nat), .int .u8 (hb 14 : Nat), .int .u8 (hb 15 : Nat), .int .u8 (hb 16 : Nat), .int .u8 (hb 17 : Nat), .int .u8 (hb 18 : Nat), .int .u8 (hb 19 : Nat), .int .u8 (hb 20 : Nat), .int .u8 (hb 21 : Nat), .int .u8 (hb 22 : Nat), .int .u8 (hb 23 : Nat), .int .u8 (hb 24 : Nat), .int .u8 (hb 25 : Nat), .int .u8 (hb 26 : Nat), .int .u8 (hb 27 : Nat), .int .u8 (hb 28 : Nat), .int .u8 (hb 29 : Nat), .int .u8 (hb 30 : Nat), .int .u8 (hb 31 : Nat)]) (.int .i64 30)).run Tryz.prog w = .ok (.int .u8 (hb 30 : Nat)) w)
  | 31, _ => exact (by kernel_rfl : (Instr.index 25 (.agg #[.int .u8 (hb 0 : Nat), .int .u8 (hb 1 : Nat), .int .u8 (hb 2 : Nat), .int .u8 (hb 3 : Nat), .int .u8 (hb 4 : Nat), .int .u8 (hb 5 : Nat), .int .u8 (hb 6 : Nat), .int .u8 (hb 7 : Nat), .int .u8 (hb 8 : Nat), .int .u8 (hb 9 : Nat), .int .u8 (hb 10 : Nat), .int .u8 (hb 11 : Nat), .int .u8 (hb 12 : Nat), .int .u8 (hb 13 : Nat), .int .u8 (hb 14 : Nat), .int .u8 (hb 15 : Nat), .int .u8 (hb 16 : Nat), .int .u8 (hb 17 : Nat), .int .u8 (hb 18 : Nat), .int .u8 (hb 19 : Nat), .int .u8 (hb 20 : Nat), .int .u8 (hb 21 : Nat), .int .u8 (hb 22 : Nat), .int .u8 (hb 23 : Nat), .int .u8 (hb 24 : Nat), .int .u8 (hb 25 : Nat), .int .u8 (hb 26 : Nat), .int .u8 (hb 27 : Nat), .int .u8 (hb 28 : Nat), .int .u8 (hb 29 : Nat), .int .u8 (hb 30 : Nat), .int .u8 (hb 31 : Nat)]) (.int .i64 31)).run Tryz.prog w = .ok (.int .u8 (hb 31 : Nat)) w)
  | n + 32, h => exact absurd h (by omega)

theorem heap_three (w : World) (A B C : Obj) : (((w.alloc A).alloc B).alloc C).heap[w.heap.size]? = some A := by
  rw [Below.heap_alloc _ _ _ (by simp; omega), Below.heap_alloc _ _ _ (by simp)]
  show (w.heap.push A)[w.heap.size]? = some A
  simp

set_option maxRecDepth 100000 in
set_option maxHeartbeats 2000000 in
theorem ofHash_words (hb : Nat → Nat) (f : Nat → Nat → Nat) (w : World) (g : Gathers hb f) :
    Calls Tryz.prog 92 #[.agg #[.int .u8 (hb 0 : Nat), .int .u8 (hb 1 : Nat), .int .u8 (hb 2 : Nat), .int .u8 (hb 3 : Nat), .int .u8 (hb 4 : Nat), .int .u8 (hb 5 : Nat), .int .u8 (hb 6 : Nat), .int .u8 (hb 7 : Nat), .int .u8 (hb 8 : Nat), .int .u8 (hb 9 : Nat), .int .u8 (hb 10 : Nat), .int .u8 (hb 11 : Nat), .int .u8 (hb 12 : Nat), .int .u8 (hb 13 : Nat), .int .u8 (hb 14 : Nat), .int .u8 (hb 15 : Nat), .int .u8 (hb 16 : Nat), .int .u8 (hb 17 : Nat), .int .u8 (hb 18 : Nat), .int .u8 (hb 19 : Nat), .int .u8 (hb 20 : Nat), .int .u8 (hb 21 : Nat), .int .u8 (hb 22 : Nat), .int .u8 (hb 23 : Nat), .int .u8 (hb 24 : Nat), .int .u8 (hb 25 : Nat), .int .u8 (hb 26 : Nat), .int .u8 (hb 27 : Nat), .int .u8 (hb 28 : Nat), .int .u8 (hb 29 : Nat), .int .u8 (hb 30 : Nat), .int .u8 (hb 31 : Nat)]] w fun e w' =>
      e = .returned (.agg #[.int .u64 (f 32 0 : Nat), .int .u64 (f 32 1 : Nat), .int .u64 (f 32 2 : Nat), .int .u64 (f 32 3 : Nat)]) ∧ Below w.heap.size w w' := by
  have G := Lib.hid g
  clear g
  have IX := Lib.hid (index_hash hb)
  go_enter Tryz.func92, Tryz.ntmps92
  go_wp2_with (refine wpList_load_row rfl 25 (.tmp 1) rfl w.heap.size rfl 25 #[.int .u8 (hb 0 : Nat), .int .u8 (hb 1 : Nat), .int .u8 (hb 2 : Nat), .int .u8 (hb 3 : Nat), .int .u8 (hb 4 : Nat), .int .u8 (hb 5 : Nat), .int .u8 (hb 6 : Nat), .int .u8 (hb 7 : Nat), .int .u8 (hb 8 : Nat), .int .u8 (hb 9 : Nat), .int .u8 (hb 10 : Nat), .int .u8 (hb 11 : Nat), .int .u8 (hb 12 : Nat), .int .u8 (hb 13 : Nat), .int .u8 (hb 14 : Nat), .int .u8 (hb 15 : Nat), .int .u8 (hb 16 : Nat), .int .u8 (hb 17 : Nat), .int .u8 (hb 18 : Nat), .int .u8 (hb 19 : Nat), .int .u8 (hb 20 : Nat), .int .u8 (hb 21 : Nat), .int .u8 (hb 22 : Nat), .int .u8 (hb 23 : Nat), .int .u8 (hb 24 : Nat), .int .u8 (hb 25 : Nat), .int .u8 (hb 26 : Nat), .int .u8 (hb 27 : Nat), .int .u8 (hb 28 : Nat), .int .u8 (hb 29 : Nat), .int .u8 (hb 30 : Nat), .int .u8 (hb 31 : Nat)] (0, 0) _ ?hg Tryz.underlying25 rfl (by kernel_rfl) ?_)
  case hg => exact heap_three _ _ _ _
  go_loopw [7] (fun i wr => ∃ k : Nat, k ≤ 32 ∧ i = .int .i64 k ∧ Below w.heap.size w wr ∧ wr.cell? ⟨w.heap.size + 1 + 1, 0, none⟩ = some (.int .u64 (f k 0 : Nat)) ∧ wr.cell? ⟨w.heap.size + 1 + 1, 1, none⟩ = some (.int .u64 (f k 1 : Nat)) ∧ wr.cell? ⟨w.heap.size + 1 + 1, 2, none⟩ = some (.int .u64 (f k 2 : Nat)) ∧ wr.cell? ⟨w.heap.size + 1 + 1, 3, none⟩ = some (.int .u64 (f k 3 : Nat)) ∧ wr.frozen? ⟨w.heap.size + 1 + 1, 0, none⟩ = false ∧ wr.frozen? ⟨w.heap.size + 1 + 1, 1, none⟩ = false ∧ wr.frozen? ⟨w.heap.size + 1 + 1, 2, none⟩ = false ∧ wr.frozen? ⟨w.heap.size + 1 + 1, 3, none⟩ = false ∧ wr.cell? ⟨w.heap.size + 1, 0, none⟩ = some (.int .u64 0) ∧ wr.cell? ⟨w.heap.size + 1, 1, none⟩ = some (.int .u64 0) ∧ wr.cell? ⟨w.heap.size + 1, 2, none⟩ = some (.int .u64 0) ∧ wr.cell? ⟨w.heap.size + 1, 3, none⟩ = some (.int .u64 0) ∧ wr.frozen? ⟨w.heap.size + 1, 0, none⟩ = false ∧ wr.frozen? ⟨w.heap.size + 1, 1, none⟩ = false ∧ wr.frozen? ⟨w.heap.size + 1, 2, none⟩ = false ∧ wr.frozen? ⟨w.heap.size + 1, 3, none⟩ = false) (fun i _ => 32 - (intOf i).toNat)
  case atStart =>
    refine ⟨0, by omega, rfl, by go_grown, ?_⟩
    simp only [G.out.zero]
    refine ⟨?_, ?_, ?_, ?_, ?_, ?_, ?_, ?_, ?_, ?_, ?_, ?_, ?_, ?_, ?_, ?_⟩ <;> go_cell
  case round =>
    obtain ⟨k, hk, rfl, hB, c0, c1, c2, c3, z0, z1, z2, z3, r0, r1, r2, r3, y0, y1, y2, y3⟩ := hrel
    by_cases hlt : k < 32
    · have ix := fun w => IX.out w k hlt
      have hb0 := G.out.byte k hlt
      have hj : k / 8 = 0 ∨ k / 8 = 1 ∨ k / 8 = 2 ∨ k / 8 = 3 := by omega
      rcases hj with hj | hj | hj | hj
      · have st := G.out.step k hlt
        rw [hj] at st
        have hq : (k : Int) / 8 = 0 := by omega
        obtain ⟨s, hs⟩ : ∃ s : Nat, s = k % 8 * 8 := ⟨_, rfl⟩
        rw [← hs] at st
        have S : (k : Int) % 8 * 8 = (s : Int) := by omega
        have hs64 : s < 64 := by omega
        have HS := Lib.hid hs
        have HJ := Lib.hid hj
        clear hs hj
        go_wp2_with fail
        go_region
        go_wp2_with fail
        have e1 := G.out.same k 1 hlt (by have := HJ.out; omega)
        have e2 := G.out.same k 2 hlt (by have := HJ.out; omega)
        have e3 := G.out.same k 3 hlt (by have := HJ.out; omega)
        refine ⟨⟨k + 1, by omega, by go_num, (hB.setCell (by simp; omega) _).drew, ?_, ?_, ?_, ?_, ?_, ?_, ?_, ?_, ?_, ?_, ?_, ?_, ?_, ?_, ?_, ?_⟩, by simp [intOf]; omega⟩
        · go_cell
        · rw [e1]; go_cell
        · rw [e2]; go_cell
        · rw [e3]; go_cell
        · go_cell
        · go_cell
        · go_cell
        · go_cell
        · go_cell
        · go_cell
        · go_cell
        · go_cell
        · go_cell
        · go_cell
        · go_cell
        · go_cell
      · have st := G.out.step k hlt
        rw [hj] at st
        have hq : (k : Int) / 8 = 1 := by omega
        obtain ⟨s, hs⟩ : ∃ s : Nat, s = k % 8 * 8 := ⟨_, rfl⟩
        rw [← hs] at st
        have S : (k : Int) % 8 * 8 = (s : Int) := by omega
        have hs64 : s < 64 := by omega
        have HS := Lib.hid hs
        have HJ := Lib.hid hj
        clear hs hj
        go_wp2_with fail
        go_region
        go_wp2_with fail
        have e0 := G.out.same k 0 hlt (by have := HJ.out; omega)
        have e2 := G.out.same k 2 hlt (by have := HJ.out; omega)
        have e3 := G.out.same k 3 hlt (by have := HJ.out; omega)
        refine ⟨⟨k + 1, by omega, by go_num, (hB.setCell (by simp; omega) _).drew, ?_, ?_, ?_, ?_, ?_, ?_, ?_, ?_, ?_, ?_, ?_, ?_, ?_, ?_, ?_, ?_⟩, by simp [intOf]; omega⟩
        · rw [e0]; go_cell
        · go_cell
        · rw [e2]; go_cell
        · rw [e3]; go_cell
        · go_cell
        · go_cell
        · go_cell
        · go_cell
        · go_cell
        · go_cell
        · go_cell
        · go_cell
        · go_cell
        · go_cell
        · go_cell
        · go_cell
      · have st := G.out.step k hlt
        rw [hj] at st
        have hq : (k : Int) / 8 = 2 := by omega
        obtain ⟨s, hs⟩ : ∃ s : Nat, s = k % 8 * 8 := ⟨_, rfl⟩
        rw [← hs] at st
        have S : (k : Int) % 8 * 8 = (s : Int) := by omega
        have hs64 : s < 64 := by omega
        have HS := Lib.hid hs
        have HJ := Lib.hid hj
        clear hs hj
        go_wp2_with fail
        go_region
        go_wp2_with fail
        have e0 := G.out.same k 0 hlt (by have := HJ.out; omega)
        have e1 := G.out.same k 1 hlt (by have := HJ.out; omega)
        have e3 := G.out.same k 3 hlt (by have := HJ.out; omega)
        refine ⟨⟨k + 1, by omega, by go_num, (hB.setCell (by simp; omega) _).drew, ?_, ?_, ?_, ?_, ?_, ?_, ?_, ?_, ?_, ?_, ?_, ?_, ?_, ?_, ?_, ?_⟩, by simp [intOf]; omega⟩
        · rw [e0]; go_cell
        · rw [e1]; go_cell
        · go_cell
        · rw [e3]; go_cell
        · go_cell
        · go_cell
        · go_cell
        · go_cell
        · go_cell
        · go_cell
        · go_cell
        · go_cell
        · go_cell
        · go_cell
        · go_cell
        · go_cell
      · have st := G.out.step k hlt
        rw [hj] at st
        have hq : (k : Int) / 8 = 3 := by omega
        obtain ⟨s, hs⟩ : ∃ s : Nat, s = k % 8 * 8 := ⟨_, rfl⟩
        rw [← hs] at st
        have S : (k : Int) % 8 * 8 = (s : Int) := by omega
        have hs64 : s < 64 := by omega
        have HS := Lib.hid hs
        have HJ := Lib.hid hj
        clear hs hj
        go_wp2_with fail
        go_region
        go_wp2_with fail
        have e0 := G.out.same k 0 hlt (by have := HJ.out; omega)
        have e1 := G.out.same k 1 hlt (by have := HJ.out; omega)
        have e2 := G.out.same k 2 hlt (by have := HJ.out; omega)
        refine ⟨⟨k + 1, by omega, by go_num, (hB.setCell (by simp; omega) _).drew, ?_, ?_, ?_, ?_, ?_, ?_, ?_, ?_, ?_, ?_, ?_, ?_, ?_, ?_, ?_, ?_⟩, by simp [intOf]; omega⟩
        · rw [e0]; go_cell
        · rw [e1]; go_cell
        · rw [e2]; go_cell
        · go_cell
        · go_cell
        · go_cell
        · go_cell
        · go_cell
        · go_cell
        · go_cell
        · go_cell
        · go_cell
        · go_cell
        · go_cell
        · go_cell
        · go_cell
    · obtain rfl : k = 32 := by omega
      go_wp2_with fail
      have d0 : ((((wr.setCell ⟨w.heap.size + 1, 0, none⟩ (.int .u64 (f 32 0 : Nat))).setCell ⟨w.heap.size + 1, 1, none⟩ (.int .u64 (f 32 1 : Nat))).setCell ⟨w.heap.size + 1, 2, none⟩ (.int .u64 (f 32 2 : Nat))).setCell ⟨w.heap.size + 1, 3, none⟩ (.int .u64 (f 32 3 : Nat))).cell? ⟨w.heap.size + 1, 0, none⟩ = some (.int .u64 (f 32 0 : Nat)) := by go_cell
      have d1 : ((((wr.setCell ⟨w.heap.size + 1, 0, none⟩ (.int .u64 (f 32 0 : Nat))).setCell ⟨w.heap.size + 1, 1, none⟩ (.int .u64 (f 32 1 : Nat))).setCell ⟨w.heap.size + 1, 2, none⟩ (.int .u64 (f 32 2 : Nat))).setCell ⟨w.heap.size + 1, 3, none⟩ (.int .u64 (f 32 3 : Nat))).cell? ⟨w.heap.size + 1, 1, none⟩ = some (.int .u64 (f 32 1 : Nat)) := by go_cell
      have d2 : ((((wr.setCell ⟨w.heap.size + 1, 0, none⟩ (.int .u64 (f 32 0 : Nat))).setCell ⟨w.heap.size + 1, 1, none⟩ (.int .u64 (f 32 1 : Nat))).setCell ⟨w.heap.size + 1, 2, none⟩ (.int .u64 (f 32 2 : Nat))).setCell ⟨w.heap.size + 1, 3, none⟩ (.int .u64 (f 32 3 : Nat))).cell? ⟨w.heap.size + 1, 2, none⟩ = some (.int .u64 (f 32 2 : Nat)) := by go_cell
      have d3 : ((((wr.setCell ⟨w.heap.size + 1, 0, none⟩ (.int .u64 (f 32 0 : Nat))).setCell ⟨w.heap.size + 1, 1, none⟩ (.int .u64 (f 32 1 : Nat))).setCell ⟨w.heap.size + 1, 2, none⟩ (.int .u64 (f 32 2 : Nat))).setCell ⟨w.heap.size + 1, 3, none⟩ (.int .u64 (f 32 3 : Nat))).cell? ⟨w.heap.size + 1, 3, none⟩ = some (.int .u64 (f 32 3 : Nat)) := by go_cell
      refine bodyPost_ret (v := .agg #[.int .u64 (f 32 0 : Nat), .int .u64 (f 32 1 : Nat), .int .u64 (f 32 2 : Nat), .int .u64 (f 32 3 : Nat)]) (by simp [results, Tryz.results92, go_sem, d0, d1, d2, d3]) rfl ⟨rfl, ?_⟩
      exact (((hB.setCell (by simp) _).setCell (by simp) _).setCell (by simp) _).setCell (by simp) _

end Go.Proofs.YtimjmmiajgfblaaGreatDoor.Bg

/- What Up, Down, Of, Less and Bits of the package big return, word by word. -/
namespace Go.Proofs.YtimjmmiajgfblaaGreatDoor.Bg
open Go.RowKit

set_option maxHeartbeats 1000000 in
theorem up_low (a0 a1 a2 a3 : Nat) (n : Int) (w : World) (h : n ≤ 0) :
    Calls Tryz.prog 59 #[.agg #[.int .u64 (a0 : Nat), .int .u64 (a1 : Nat), .int .u64 (a2 : Nat), .int .u64 (a3 : Nat)], .int .i64 n] w fun e w' => e = .returned (.agg #[.int .u64 (a0 : Nat), .int .u64 (a1 : Nat), .int .u64 (a2 : Nat), .int .u64 (a3 : Nat)]) ∧ Below w.heap.size w w' := by
  go_enter Tryz.func59, Tryz.ntmps59
  go_wp2_with fail
  go_returns
  refine ⟨rfl, ?_⟩
  go_grown

set_option maxHeartbeats 1000000 in
theorem up_high (a0 a1 a2 a3 : Nat) (n : Int) (w : World) (h : 256 ≤ n) :
    Calls Tryz.prog 59 #[.agg #[.int .u64 (a0 : Nat), .int .u64 (a1 : Nat), .int .u64 (a2 : Nat), .int .u64 (a3 : Nat)], .int .i64 n] w fun e w' => e = .returned (.agg #[.int .u64 0, .int .u64 0, .int .u64 0, .int .u64 0]) ∧ Below w.heap.size w w' := by
  go_enter Tryz.func59, Tryz.ntmps59
  go_wp2_with fail
  go_returns
  refine ⟨rfl, ?_⟩
  go_grown

set_option maxHeartbeats 1000000 in
theorem down_low (a0 a1 a2 a3 : Nat) (n : Int) (w : World) (h : n ≤ 0) :
    Calls Tryz.prog 56 #[.agg #[.int .u64 (a0 : Nat), .int .u64 (a1 : Nat), .int .u64 (a2 : Nat), .int .u64 (a3 : Nat)], .int .i64 n] w fun e w' => e = .returned (.agg #[.int .u64 (a0 : Nat), .int .u64 (a1 : Nat), .int .u64 (a2 : Nat), .int .u64 (a3 : Nat)]) ∧ Below w.heap.size w w' := by
  go_enter Tryz.func56, Tryz.ntmps56
  go_wp2_with fail
  go_returns
  refine ⟨rfl, ?_⟩
  go_grown

set_option maxHeartbeats 1000000 in
theorem down_high (a0 a1 a2 a3 : Nat) (n : Int) (w : World) (h : 256 ≤ n) :
    Calls Tryz.prog 56 #[.agg #[.int .u64 (a0 : Nat), .int .u64 (a1 : Nat), .int .u64 (a2 : Nat), .int .u64 (a3 : Nat)], .int .i64 n] w fun e w' => e = .returned (.agg #[.int .u64 0, .int .u64 0, .int .u64 0, .int .u64 0]) ∧ Below w.heap.size w w' := by
  go_enter Tryz.func56, Tryz.ntmps56
  go_wp2_with fail
  go_returns
  refine ⟨rfl, ?_⟩
  go_grown

set_option maxHeartbeats 1000000 in
theorem up_0 (a0 a1 a2 a3 r l0 l1 x1 l2 x2 l3 x3 : Nat) (n : Int) (w : World) (h0 : 1 ≤ n) (h1 : n < 64) (e1 : n / 64 = 0) (e2 : n % 64 = (r : Int)) (hr : r < 64)
    (L0 : IntKind.u64.wrap ((a0 : Int) * 2 ^ r) = (l0 : Int)) (L1 : IntKind.u64.wrap ((a1 : Int) * 2 ^ r) = (l1 : Int)) (X1 : bits BinOp.or IntKind.u64 (l1 : Int) ((a0 : Int) / 2 ^ (64 - r)) = (x1 : Int)) (L2 : IntKind.u64.wrap ((a2 : Int) * 2 ^ r) = (l2 : Int)) (X2 : bits BinOp.or IntKind.u64 (l2 : Int) ((a1 : Int) / 2 ^ (64 - r)) = (x2 : Int)) (L3 : IntKind.u64.wrap ((a3 : Int) * 2 ^ r) = (l3 : Int)) (X3 : bits BinOp.or IntKind.u64 (l3 : Int) ((a2 : Int) / 2 ^ (64 - r)) = (x3 : Int)) :
    Calls Tryz.prog 59 #[.agg #[.int .u64 (a0 : Nat), .int .u64 (a1 : Nat), .int .u64 (a2 : Nat), .int .u64 (a3 : Nat)], .int .i64 n] w fun e w' => e = .returned (.agg #[.int .u64 (l0 : Nat), .int .u64 (x1 : Nat), .int .u64 (x2 : Nat), .int .u64 (x3 : Nat)]) ∧ Below w.heap.size w w' := by
  go_enter Tryz.func59, Tryz.ntmps59
  go_wp2_with fail
  refine wp_loop_rounds 5 ?_
  rw [rounds_succ]
  go_wp2_with fail
  rw [rounds_succ]
  go_wp2_with fail
  go_region
  go_wp2_with fail
  rw [rounds_succ]
  go_wp2_with fail
  go_region
  go_wp2_with fail
  rw [rounds_succ]
  go_wp2_with fail
  go_region
  go_wp2_with fail
  rw [rounds_succ]
  go_wp2_with fail
  go_returns
  refine ⟨rfl, ?_⟩
  go_grown

set_option maxHeartbeats 1000000 in
theorem up_1 (a0 a1 a2 a3 r l0 l1 x2 l2 x3 : Nat) (n : Int) (w : World) (h0 : 64 ≤ n) (h1 : n < 128) (e1 : n / 64 = 1) (e2 : n % 64 = (r : Int)) (hr : r < 64)
    (L0 : IntKind.u64.wrap ((a0 : Int) * 2 ^ r) = (l0 : Int)) (L1 : IntKind.u64.wrap ((a1 : Int) * 2 ^ r) = (l1 : Int)) (X2 : bits BinOp.or IntKind.u64 (l1 : Int) ((a0 : Int) / 2 ^ (64 - r)) = (x2 : Int)) (L2 : IntKind.u64.wrap ((a2 : Int) * 2 ^ r) = (l2 : Int)) (X3 : bits BinOp.or IntKind.u64 (l2 : Int) ((a1 : Int) / 2 ^ (64 - r)) = (x3 : Int)) :
    Calls Tryz.prog 59 #[.agg #[.int .u64 (a0 : Nat), .int .u64 (a1 : Nat), .int .u64 (a2 : Nat), .int .u64 (a3 : Nat)], .int .i64 n] w fun e w' => e = .returned (.agg #[.int .u64 0, .int .u64 (l0 : Nat), .int .u64 (x2 : Nat), .int .u64 (x3 : Nat)]) ∧ Below w.heap.size w w' := by
  go_enter Tryz.func59, Tryz.ntmps59
  go_wp2_with fail
  refine wp_loop_rounds 5 ?_
  rw [rounds_succ]
  go_wp2_with fail
  rw [rounds_succ]
  go_wp2_with fail
  rw [rounds_succ]
  go_wp2_with fail
  go_region
  go_wp2_with fail
  rw [rounds_succ]
  go_wp2_with fail
  go_region
  go_wp2_with fail
  rw [rounds_succ]
  go_wp2_with fail
  go_returns
  refine ⟨rfl, ?_⟩
  go_grown

set_option maxHeartbeats 1000000 in
theorem up_2 (a0 a1 a2 a3 r l0 l1 x3 : Nat) (n : Int) (w : World) (h0 : 128 ≤ n) (h1 : n < 192) (e1 : n / 64 = 2) (e2 : n % 64 = (r : Int)) (hr : r < 64)
    (L0 : IntKind.u64.wrap ((a0 : Int) * 2 ^ r) = (l0 : Int)) (L1 : IntKind.u64.wrap ((a1 : Int) * 2 ^ r) = (l1 : Int)) (X3 : bits BinOp.or IntKind.u64 (l1 : Int) ((a0 : Int) / 2 ^ (64 - r)) = (x3 : Int)) :
    Calls Tryz.prog 59 #[.agg #[.int .u64 (a0 : Nat), .int .u64 (a1 : Nat), .int .u64 (a2 : Nat), .int .u64 (a3 : Nat)], .int .i64 n] w fun e w' => e = .returned (.agg #[.int .u64 0, .int .u64 0, .int .u64 (l0 : Nat), .int .u64 (x3 : Nat)]) ∧ Below w.heap.size w w' := by
  go_enter Tryz.func59, Tryz.ntmps59
  go_wp2_with fail
  refine wp_loop_rounds 5 ?_
  rw [rounds_succ]
  go_wp2_with fail
  rw [rounds_succ]
  go_wp2_with fail
  rw [rounds_succ]
  go_wp2_with fail
  rw [rounds_succ]
  go_wp2_with fail
  go_region
  go_wp2_with fail
  rw [rounds_succ]
  go_wp2_with fail
  go_returns
  refine ⟨rfl, ?_⟩
  go_grown

set_option maxHeartbeats 1000000 in
theorem up_3 (a0 a1 a2 a3 r l0 : Nat) (n : Int) (w : World) (h0 : 192 ≤ n) (h1 : n < 256) (e1 : n / 64 = 3) (e2 : n % 64 = (r : Int)) (hr : r < 64)
    (L0 : IntKind.u64.wrap ((a0 : Int) * 2 ^ r) = (l0 : Int)) :
    Calls Tryz.prog 59 #[.agg #[.int .u64 (a0 : Nat), .int .u64 (a1 : Nat), .int .u64 (a2 : Nat), .int .u64 (a3 : Nat)], .int .i64 n] w fun e w' => e = .returned (.agg #[.int .u64 0, .int .u64 0, .int .u64 0, .int .u64 (l0 : Nat)]) ∧ Below w.heap.size w w' := by
  go_enter Tryz.func59, Tryz.ntmps59
  go_wp2_with fail
  refine wp_loop_rounds 5 ?_
  rw [rounds_succ]
  go_wp2_with fail
  rw [rounds_succ]
  go_wp2_with fail
  rw [rounds_succ]
  go_wp2_with fail
  rw [rounds_succ]
  go_wp2_with fail
  rw [rounds_succ]
  go_wp2_with fail
  go_returns
  refine ⟨rfl, ?_⟩
  go_grown

set_option maxHeartbeats 1000000 in
theorem down_0 (a0 a1 a2 a3 r d0 m0 x0 d1 m1 x1 d2 m2 x2 d3 : Nat) (n : Int) (w : World) (h0 : 1 ≤ n) (h1 : n < 64) (e1 : n / 64 = 0) (e2 : n % 64 = (r : Int)) (hr : r < 64)
    (D0 : (a0 : Int) / 2 ^ r = (d0 : Int)) (M0 : IntKind.u64.wrap ((a1 : Int) * 2 ^ (64 - r)) = (m0 : Int)) (X0 : bits BinOp.or IntKind.u64 (d0 : Int) (m0 : Int) = (x0 : Int)) (D1 : (a1 : Int) / 2 ^ r = (d1 : Int)) (M1 : IntKind.u64.wrap ((a2 : Int) * 2 ^ (64 - r)) = (m1 : Int)) (X1 : bits BinOp.or IntKind.u64 (d1 : Int) (m1 : Int) = (x1 : Int)) (D2 : (a2 : Int) / 2 ^ r = (d2 : Int)) (M2 : IntKind.u64.wrap ((a3 : Int) * 2 ^ (64 - r)) = (m2 : Int)) (X2 : bits BinOp.or IntKind.u64 (d2 : Int) (m2 : Int) = (x2 : Int)) (D3 : (a3 : Int) / 2 ^ r = (d3 : Int)) :
    Calls Tryz.prog 56 #[.agg #[.int .u64 (a0 : Nat), .int .u64 (a1 : Nat), .int .u64 (a2 : Nat), .int .u64 (a3 : Nat)], .int .i64 n] w fun e w' => e = .returned (.agg #[.int .u64 (x0 : Nat), .int .u64 (x1 : Nat), .int .u64 (x2 : Nat), .int .u64 (d3 : Nat)]) ∧ Below w.heap.size w w' := by
  go_enter Tryz.func56, Tryz.ntmps56
  go_wp2_with fail
  refine wp_loop_rounds 5 ?_
  rw [rounds_succ]
  go_wp2_with fail
  go_region
  go_wp2_with fail
  rw [rounds_succ]
  go_wp2_with fail
  go_region
  go_wp2_with fail
  rw [rounds_succ]
  go_wp2_with fail
  go_region
  go_wp2_with fail
  rw [rounds_succ]
  go_wp2_with fail
  rw [rounds_succ]
  go_wp2_with fail
  go_returns
  refine ⟨rfl, ?_⟩
  go_grown

set_option maxHeartbeats 1000000 in
theorem down_1 (a0 a1 a2 a3 r d0 m0 x0 d1 m1 x1 d2 : Nat) (n : Int) (w : World) (h0 : 64 ≤ n) (h1 : n < 128) (e1 : n / 64 = 1) (e2 : n % 64 = (r : Int)) (hr : r < 64)
    (D0 : (a1 : Int) / 2 ^ r = (d0 : Int)) (M0 : IntKind.u64.wrap ((a2 : Int) * 2 ^ (64 - r)) = (m0 : Int)) (X0 : bits BinOp.or IntKind.u64 (d0 : Int) (m0 : Int) = (x0 : Int)) (D1 : (a2 : Int) / 2 ^ r = (d1 : Int)) (M1 : IntKind.u64.wrap ((a3 : Int) * 2 ^ (64 - r)) = (m1 : Int)) (X1 : bits BinOp.or IntKind.u64 (d1 : Int) (m1 : Int) = (x1 : Int)) (D2 : (a3 : Int) / 2 ^ r = (d2 : Int)) :
    Calls Tryz.prog 56 #[.agg #[.int .u64 (a0 : Nat), .int .u64 (a1 : Nat), .int .u64 (a2 : Nat), .int .u64 (a3 : Nat)], .int .i64 n] w fun e w' => e = .returned (.agg #[.int .u64 (x0 : Nat), .int .u64 (x1 : Nat), .int .u64 (d2 : Nat), .int .u64 0]) ∧ Below w.heap.size w w' := by
  go_enter Tryz.func56, Tryz.ntmps56
  go_wp2_with fail
  refine wp_loop_rounds 5 ?_
  rw [rounds_succ]
  go_wp2_with fail
  go_region
  go_wp2_with fail
  rw [rounds_succ]
  go_wp2_with fail
  go_region
  go_wp2_with fail
  rw [rounds_succ]
  go_wp2_with fail
  rw [rounds_succ]
  go_wp2_with fail
  rw [rounds_succ]
  go_wp2_with fail
  go_returns
  refine ⟨rfl, ?_⟩
  go_grown

set_option maxHeartbeats 1000000 in
theorem down_2 (a0 a1 a2 a3 r d0 m0 x0 d1 : Nat) (n : Int) (w : World) (h0 : 128 ≤ n) (h1 : n < 192) (e1 : n / 64 = 2) (e2 : n % 64 = (r : Int)) (hr : r < 64)
    (D0 : (a2 : Int) / 2 ^ r = (d0 : Int)) (M0 : IntKind.u64.wrap ((a3 : Int) * 2 ^ (64 - r)) = (m0 : Int)) (X0 : bits BinOp.or IntKind.u64 (d0 : Int) (m0 : Int) = (x0 : Int)) (D1 : (a3 : Int) / 2 ^ r = (d1 : Int)) :
    Calls Tryz.prog 56 #[.agg #[.int .u64 (a0 : Nat), .int .u64 (a1 : Nat), .int .u64 (a2 : Nat), .int .u64 (a3 : Nat)], .int .i64 n] w fun e w' => e = .returned (.agg #[.int .u64 (x0 : Nat), .int .u64 (d1 : Nat), .int .u64 0, .int .u64 0]) ∧ Below w.heap.size w w' := by
  go_enter Tryz.func56, Tryz.ntmps56
  go_wp2_with fail
  refine wp_loop_rounds 5 ?_
  rw [rounds_succ]
  go_wp2_with fail
  go_region
  go_wp2_with fail
  rw [rounds_succ]
  go_wp2_with fail
  rw [rounds_succ]
  go_wp2_with fail
  rw [rounds_succ]
  go_wp2_with fail
  rw [rounds_succ]
  go_wp2_with fail
  go_returns
  refine ⟨rfl, ?_⟩
  go_grown

set_option maxHeartbeats 1000000 in
theorem down_3 (a0 a1 a2 a3 r d0 : Nat) (n : Int) (w : World) (h0 : 192 ≤ n) (h1 : n < 256) (e1 : n / 64 = 3) (e2 : n % 64 = (r : Int)) (hr : r < 64)
    (D0 : (a3 : Int) / 2 ^ r = (d0 : Int)) :
    Calls Tryz.prog 56 #[.agg #[.int .u64 (a0 : Nat), .int .u64 (a1 : Nat), .int .u64 (a2 : Nat), .int .u64 (a3 : Nat)], .int .i64 n] w fun e w' => e = .returned (.agg #[.int .u64 (d0 : Nat), .int .u64 0, .int .u64 0, .int .u64 0]) ∧ Below w.heap.size w w' := by
  go_enter Tryz.func56, Tryz.ntmps56
  go_wp2_with fail
  refine wp_loop_rounds 5 ?_
  rw [rounds_succ]
  go_wp2_with fail
  rw [rounds_succ]
  go_wp2_with fail
  rw [rounds_succ]
  go_wp2_with fail
  rw [rounds_succ]
  go_wp2_with fail
  rw [rounds_succ]
  go_wp2_with fail
  go_returns
  refine ⟨rfl, ?_⟩
  go_grown

set_option maxHeartbeats 1000000 in
theorem of_words (n : Nat) (w : World) : Calls Tryz.prog 57 #[.int .u64 (n : Nat)] w fun e w' => e = .returned (.agg #[.int .u64 (n : Nat), .int .u64 0, .int .u64 0, .int .u64 0]) ∧ Below w.heap.size w w' := by
  go_enter Tryz.func57, Tryz.ntmps57
  go_wp2_with fail
  go_returns
  refine ⟨rfl, ?_⟩
  go_grown

set_option maxHeartbeats 1000000 in
theorem less_words (a0 a1 a2 a3 b0 b1 b2 b3 s0 s1 s2 s3 c1 c2 c3 c4 : Nat) (w : World)
    (g1 : Gives 99 a0 b0 0 s0 c1) (g2 : Gives 99 a1 b1 c1 s1 c2) (g3 : Gives 99 a2 b2 c2 s2 c3) (g4 : Gives 99 a3 b3 c3 s3 c4) :
    Calls Tryz.prog 63 #[.agg #[.int .u64 (a0 : Nat), .int .u64 (a1 : Nat), .int .u64 (a2 : Nat), .int .u64 (a3 : Nat)], .agg #[.int .u64 (b0 : Nat), .int .u64 (b1 : Nat), .int .u64 (b2 : Nat), .int .u64 (b3 : Nat)]] w fun e w' => e = .returned (.bool ((c4 : Int) != 0)) ∧ Below w.heap.size w w' := by
  have H := Lib.hid (fun w => sub_words a0 a1 a2 a3 b0 b1 b2 b3 s0 s1 s2 s3 c1 c2 c3 c4 w g1 g2 g3 g4)
  clear g1 g2 g3 g4
  go_enter Tryz.func63, Tryz.ntmps63
  go_wp2_with fail
  refine (H.out _).mono ?_
  rintro e w1 ⟨rfl, hb⟩
  go_wp2_with fail
  go_returns
  refine ⟨rfl, ?_⟩
  exact ((((Below.refl _ _).alloc (Nat.le_refl _) _).alloc (by simp) _).trans (hb.mono (by simp; omega))).alloc (by have := hb.size; simp at this ⊢; omega) _

/-- How far the loop of Bits has come, and what it has found. -/
def BitsRel (n1 n2 n3 n4 : Nat) (n i : Value) : Prop :=
  (i = .int .i64 0 ∧ n = .int .i64 0) ∨ (i = .int .i64 1 ∧ n = .int .i64 (n1 : Nat)) ∨ (i = .int .i64 2 ∧ n = .int .i64 (n2 : Nat)) ∨ (i = .int .i64 3 ∧ n = .int .i64 (n3 : Nat)) ∨ (i = .int .i64 4 ∧ n = .int .i64 (n4 : Nat))

/-- A call of Len64 at this word gives this number. -/
def LenIs (x l : Nat) : Prop := ∀ w : World, Calls Tryz.prog 74 #[.int .u64 (x : Nat)] w fun e w' => e = .returned (.int .i64 (l : Nat)) ∧ w' = w

set_option maxHeartbeats 2000000 in
theorem bits_words (a0 a1 a2 a3 l0 l1 l2 l3 n1 n2 n3 n4 : Nat) (w : World) (g0 : LenIs a0 l0) (g1 : LenIs a1 l1) (g2 : LenIs a2 l2) (g3 : LenIs a3 l3)
    (b0 : l0 ≤ 64) (b1 : l1 ≤ 64) (b2 : l2 ≤ 64) (b3 : l3 ≤ 64)
    (e1 : n1 = if a0 = 0 then 0 else l0) (e2 : n2 = if a1 = 0 then n1 else 64 + l1) (e3 : n3 = if a2 = 0 then n2 else 128 + l2) (e4 : n4 = if a3 = 0 then n3 else 192 + l3) :
    Calls Tryz.prog 58 #[.agg #[.int .u64 (a0 : Nat), .int .u64 (a1 : Nat), .int .u64 (a2 : Nat), .int .u64 (a3 : Nat)]] w fun e w' => e = .returned (.int .i64 (n4 : Nat)) ∧ Below w.heap.size w w' := by
  have G0 := Lib.hid g0
  have G1 := Lib.hid g1
  have G2 := Lib.hid g2
  have G3 := Lib.hid g3
  have E1 := Lib.hid e1
  have E2 := Lib.hid e2
  have E3 := Lib.hid e3
  have E4 := Lib.hid e4
  clear g0 g1 g2 g3 e1 e2 e3 e4
  go_enter Tryz.func58, Tryz.ntmps58
  go_wp2_with fail
  go_loop [3, 5] (BitsRel n1 n2 n3 n4) (fun _ i => 4 - (intOf i).toNat)
  case atStart => exact Or.inl ⟨rfl, rfl⟩
  case round =>
    unfold BitsRel at hrel
    rcases hrel with ⟨rfl, rfl⟩ | ⟨rfl, rfl⟩ | ⟨rfl, rfl⟩ | ⟨rfl, rfl⟩ | ⟨rfl, rfl⟩
    · by_cases hz : ((a0 : Int) != 0) = true
      · go_wp2_with fail
        refine (G0.out _).mono ?_
        rintro e w' ⟨rfl, rfl⟩
        go_wp2_with fail
        go_round
        case rel =>
          refine Or.inr (Or.inl ⟨rfl, ?_⟩)
          have := E1.out
          rw [if_neg (by simpa using hz)] at this
          rw [this]
          try rfl
        case measure => simp [intOf]
      · have hz' : ((a0 : Int) != 0) = false := by simpa using hz
        clear hz
        go_wp2_with fail
        go_round
        case rel =>
          refine Or.inr (Or.inl ⟨rfl, ?_⟩)
          have := E1.out
          rw [if_pos (by simpa using hz')] at this
          rw [this]
          try rfl
        case measure => simp [intOf]
    · by_cases hz : ((a1 : Int) != 0) = true
      · go_wp2_with fail
        refine (G1.out _).mono ?_
        rintro e w' ⟨rfl, rfl⟩
        go_wp2_with fail
        go_round
        case rel =>
          refine Or.inr (Or.inr (Or.inl ⟨rfl, ?_⟩))
          have := E2.out
          rw [if_neg (by simpa using hz)] at this
          rw [this]
          try rfl
        case measure => simp [intOf]
      · have hz' : ((a1 : Int) != 0) = false := by simpa using hz
        clear hz
        go_wp2_with fail
        go_round
        case rel =>
          refine Or.inr (Or.inr (Or.inl ⟨rfl, ?_⟩))
          have := E2.out
          rw [if_pos (by simpa using hz')] at this
          rw [this]
          try rfl
        case measure => simp [intOf]
    · by_cases hz : ((a2 : Int) != 0) = true
      · go_wp2_with fail
        refine (G2.out _).mono ?_
        rintro e w' ⟨rfl, rfl⟩
        go_wp2_with fail
        go_round
        case rel =>
          refine Or.inr (Or.inr (Or.inr (Or.inl ⟨rfl, ?_⟩)))
          have := E3.out
          rw [if_neg (by simpa using hz)] at this
          rw [this]
          try rfl
        case measure => simp [intOf]
      · have hz' : ((a2 : Int) != 0) = false := by simpa using hz
        clear hz
        go_wp2_with fail
        go_round
        case rel =>
          refine Or.inr (Or.inr (Or.inr (Or.inl ⟨rfl, ?_⟩)))
          have := E3.out
          rw [if_pos (by simpa using hz')] at this
          rw [this]
          try rfl
        case measure => simp [intOf]
    · by_cases hz : ((a3 : Int) != 0) = true
      · go_wp2_with fail
        refine (G3.out _).mono ?_
        rintro e w' ⟨rfl, rfl⟩
        go_wp2_with fail
        go_round
        case rel =>
          refine Or.inr (Or.inr (Or.inr (Or.inr ⟨rfl, ?_⟩)))
          have := E4.out
          rw [if_neg (by simpa using hz)] at this
          rw [this]
          try rfl
        case measure => simp [intOf]
      · have hz' : ((a3 : Int) != 0) = false := by simpa using hz
        clear hz
        go_wp2_with fail
        go_round
        case rel =>
          refine Or.inr (Or.inr (Or.inr (Or.inr ⟨rfl, ?_⟩)))
          have := E4.out
          rw [if_pos (by simpa using hz')] at this
          rw [this]
          try rfl
        case measure => simp [intOf]
    · go_wp2_with fail
      go_returns
      refine ⟨rfl, ?_⟩
      go_grown

end Go.Proofs.YtimjmmiajgfblaaGreatDoor.Bg
