/- What the functions of the package big return, word by word: sums, differences and products of four words of 64 bits. No condition but that each word is below 2^64. -/
import Derived.Test.YtcjggdoopehkpaaShelf
import Derived.Lib.Hide
import Derived.Laws.Externs
import Derived.Shelf.Spec.BitsCarry
import Derived.WalkKit
import Derived.WalkSpells
import Derived.WalkLawsBesides
import Derived.Handy
import Derived.RegionTactic
namespace Go.Proofs.Ytcjggdoopehkpaa
open Go.RowKit

theorem call_add64 (x y c : Nat) (hc : c ≤ 1) (w : World) :
    (callFunc 32 #[.int .u64 x, .int .u64 y, .int .u64 c]).run Try.prog w = .ok (.value (.tuple #[.int .u64 (((x + y + c) % 18446744073709551616 : Nat) : Int), .int .u64 (((x + y + c) / 18446744073709551616 : Nat) : Int)])) w := by
  rw [run_callFunc_extern Try.func32 (by kernel_rfl) (by kernel_rfl) (by kernel_rfl) (e := add64Entry) (by kernel_rfl), run_add64 x y c (by omega) (by omega) (by omega) (by omega)]
  simp only [Result.andThen]
  congr 5 <;> omega

theorem call_sub64 (x y b : Nat) (hb : b ≤ 1) (w : World) :
    (callFunc 35 #[.int .u64 x, .int .u64 y, .int .u64 b]).run Try.prog w = .ok (.value (.tuple #[.int .u64 (((x + 18446744073709551616 - y - b) % 18446744073709551616 : Nat) : Int), .int .u64 ((if x < y + b then 1 else 0 : Nat) : Int)])) w := by
  rw [run_callFunc_extern Try.func35 (by kernel_rfl) (by kernel_rfl) (by kernel_rfl) (e := sub64Entry) (by kernel_rfl), run_sub64 x y b hb]
  rfl

/-- A call of Add64 or Sub64 at these words gives these words. -/
def Gives (f : FuncId) (x y c s d : Nat) : Prop := ∀ w : World, (callFunc f #[.int .u64 (x : Nat), .int .u64 (y : Nat), .int .u64 (c : Nat)]).run Try.prog w = .ok (.value (.tuple #[.int .u64 (s : Nat), .int .u64 (d : Nat)])) w
theorem gives_add (x y c s d : Nat) (hc : c ≤ 1) (hs : s = (x + y + c) % 18446744073709551616) (hd : d = (x + y + c) / 18446744073709551616) : Gives 32 x y c s d := by
  subst hs hd; exact call_add64 x y c hc
theorem gives_sub (x y c s d : Nat) (hc : c ≤ 1) (hs : s = (x + 18446744073709551616 - y - c) % 18446744073709551616) (hd : d = if x < y + c then 1 else 0) : Gives 35 x y c s d := by
  subst hs hd; exact call_sub64 x y c hc
theorem Gives.at0 {f : FuncId} {x y s d : Nat} (h : Gives f x y 0 s d) (w : World) : (callFunc f #[.int .u64 (x : Nat), .int .u64 (y : Nat), .int .u64 0]).run Try.prog w = .ok (.value (.tuple #[.int .u64 (s : Nat), .int .u64 (d : Nat)])) w := h w
theorem Gives.at00 {f : FuncId} {x s d : Nat} (h : Gives f x 0 0 s d) (w : World) : (callFunc f #[.int .u64 (x : Nat), .int .u64 0, .int .u64 0]).run Try.prog w = .ok (.value (.tuple #[.int .u64 (s : Nat), .int .u64 (d : Nat)])) w := h w
theorem Gives.at {f : FuncId} {x y c s d : Nat} (h : Gives f x y c s d) (w : World) : (callFunc f #[.int .u64 (x : Nat), .int .u64 (y : Nat), .int .u64 (c : Nat)]).run Try.prog w = .ok (.value (.tuple #[.int .u64 (s : Nat), .int .u64 (d : Nat)])) w := h w

/-- A call of Mul64 at these words gives these words. -/
def Times (x y h l : Nat) : Prop := ∀ w : World, Calls Try.prog 36 #[.int .u64 (x : Nat), .int .u64 (y : Nat)] w fun e w' => e = .returned (.tuple #[.int .u64 (h : Nat), .int .u64 (l : Nat)]) ∧ w' = w
theorem times (x y h l : Nat) (hx : x < 18446744073709551616) (hy : y < 18446744073709551616) (hh : h = x * y / 18446744073709551616) (hl : l = x * y % 18446744073709551616) : Times x y h l := by
  subst hh hl; exact Try.bits_Mul64 x y hx hy

set_option maxHeartbeats 1000000 in
theorem add_words (a0 a1 a2 a3 b0 b1 b2 b3 s0 s1 s2 s3 c1 c2 c3 c4 : Nat) (w : World)
    (g1 : Gives 32 a0 b0 0 s0 c1) (g2 : Gives 32 a1 b1 c1 s1 c2) (g3 : Gives 32 a2 b2 c2 s2 c3) (g4 : Gives 32 a3 b3 c3 s3 c4) :
    Calls Try.prog 9 #[.agg #[.int .u64 (a0 : Nat), .int .u64 (a1 : Nat), .int .u64 (a2 : Nat), .int .u64 (a3 : Nat)], .agg #[.int .u64 (b0 : Nat), .int .u64 (b1 : Nat), .int .u64 (b2 : Nat), .int .u64 (b3 : Nat)]] w fun e w' =>
      e = .returned (.tuple #[.agg #[.int .u64 (s0 : Nat), .int .u64 (s1 : Nat), .int .u64 (s2 : Nat), .int .u64 (s3 : Nat)], .bool ((c4 : Int) != 0)]) ∧ Below w.heap.size w w' := by
  have H1 := g1.at0
  have H2 := g2.at
  have H3 := g3.at
  have H4 := g4.at
  clear g1 g2 g3 g4
  go_enter Try.func9, Try.ntmps9
  go_wp2_with fail
  refine wp_loop_rounds 5 ?_
  rw [rounds_succ]
  go_wp2_with fail
  go_region
  go_wp2_with fail
  rw [rounds_succ]
  go_wp2_with fail
  go_region
  go_wp2_with fail
  rw [rounds_succ]
  go_wp2_with fail
  go_region
  go_wp2_with fail
  rw [rounds_succ]
  go_wp2_with fail
  go_region
  go_wp2_with fail
  rw [rounds_succ]
  go_wp2_with fail
  go_returns
  refine ⟨rfl, ?_⟩
  go_grown

set_option maxHeartbeats 1000000 in
theorem sub_words (a0 a1 a2 a3 b0 b1 b2 b3 s0 s1 s2 s3 c1 c2 c3 c4 : Nat) (w : World)
    (g1 : Gives 35 a0 b0 0 s0 c1) (g2 : Gives 35 a1 b1 c1 s1 c2) (g3 : Gives 35 a2 b2 c2 s2 c3) (g4 : Gives 35 a3 b3 c3 s3 c4) :
    Calls Try.prog 11 #[.agg #[.int .u64 (a0 : Nat), .int .u64 (a1 : Nat), .int .u64 (a2 : Nat), .int .u64 (a3 : Nat)], .agg #[.int .u64 (b0 : Nat), .int .u64 (b1 : Nat), .int .u64 (b2 : Nat), .int .u64 (b3 : Nat)]] w fun e w' =>
      e = .returned (.tuple #[.agg #[.int .u64 (s0 : Nat), .int .u64 (s1 : Nat), .int .u64 (s2 : Nat), .int .u64 (s3 : Nat)], .bool ((c4 : Int) != 0)]) ∧ Below w.heap.size w w' := by
  have H1 := g1.at0
  have H2 := g2.at
  have H3 := g3.at
  have H4 := g4.at
  clear g1 g2 g3 g4
  go_enter Try.func11, Try.ntmps11
  go_wp2_with fail
  refine wp_loop_rounds 5 ?_
  rw [rounds_succ]
  go_wp2_with fail
  go_region
  go_wp2_with fail
  rw [rounds_succ]
  go_wp2_with fail
  go_region
  go_wp2_with fail
  rw [rounds_succ]
  go_wp2_with fail
  go_region
  go_wp2_with fail
  rw [rounds_succ]
  go_wp2_with fail
  go_region
  go_wp2_with fail
  rw [rounds_succ]
  go_wp2_with fail
  go_returns
  refine ⟨rfl, ?_⟩
  go_grown

set_option maxHeartbeats 1000000 in
theorem mul_words (a0 a1 a2 a3 n k1 k2 k3 k4 h0 h1 h2 h3 l0 l1 l2 l3 s0 s1 s2 s3 c0 c1 c2 c3 : Nat) (w : World)
    (m0 : Times a0 n h0 l0) (m1 : Times a1 n h1 l1) (m2 : Times a2 n h2 l2) (m3 : Times a3 n h3 l3)
    (g0 : Gives 32 l0 0 0 s0 c0) (g1 : Gives 32 l1 k1 0 s1 c1) (g2 : Gives 32 l2 k2 0 s2 c2) (g3 : Gives 32 l3 k3 0 s3 c3)
    (e1 : IntKind.u64.wrap ((h0 : Int) + (c0 : Int)) = (k1 : Int)) (e2 : IntKind.u64.wrap ((h1 : Int) + (c1 : Int)) = (k2 : Int))
    (e3 : IntKind.u64.wrap ((h2 : Int) + (c2 : Int)) = (k3 : Int)) (e4 : IntKind.u64.wrap ((h3 : Int) + (c3 : Int)) = (k4 : Int)) :
    Calls Try.prog 13 #[.agg #[.int .u64 (a0 : Nat), .int .u64 (a1 : Nat), .int .u64 (a2 : Nat), .int .u64 (a3 : Nat)], .int .u64 (n : Nat)] w fun e w' =>
      e = .returned (.tuple #[.agg #[.int .u64 (s0 : Nat), .int .u64 (s1 : Nat), .int .u64 (s2 : Nat), .int .u64 (s3 : Nat)], .int .u64 (k4 : Nat)]) ∧ Below w.heap.size w w' := by
  have H1 := g0.at00
  have H2 := g1.at0
  have H3 := g2.at0
  have H4 := g3.at0
  clear g0 g1 g2 g3
  have G0 := Lib.hid m0
  have G1 := Lib.hid m1
  have G2 := Lib.hid m2
  have G3 := Lib.hid m3
  clear m0 m1 m2 m3
  go_enter Try.func13, Try.ntmps13
  go_wp2_with fail
  refine wp_loop_rounds 5 ?_
  rw [rounds_succ]
  go_wp2_with fail
  refine (G0.out _).mono ?_
  rintro e w' ⟨rfl, rfl⟩
  go_wp2_with fail
  rw [rounds_succ]
  go_wp2_with fail
  refine (G1.out _).mono ?_
  rintro e w' ⟨rfl, rfl⟩
  go_wp2_with fail
  rw [rounds_succ]
  go_wp2_with fail
  refine (G2.out _).mono ?_
  rintro e w' ⟨rfl, rfl⟩
  go_wp2_with fail
  rw [rounds_succ]
  go_wp2_with fail
  refine (G3.out _).mono ?_
  rintro e w' ⟨rfl, rfl⟩
  go_wp2_with fail
  rw [rounds_succ]
  go_wp2_with fail
  go_returns
  refine ⟨rfl, ?_⟩
  go_grown

end Go.Proofs.Ytcjggdoopehkpaa
