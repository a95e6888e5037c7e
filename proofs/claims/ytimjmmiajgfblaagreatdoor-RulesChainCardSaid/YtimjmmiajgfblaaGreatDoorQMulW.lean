/- A word times a word, and a number of four words times a word. No condition but the range of the arguments. -/
import Derived.Test.YtimjmmiajgfblaaGreatDoorGan
import Derived.Shelf.Bits.Mul64

namespace Go.Proofs.YtimjmmiajgfblaaGreatDoor.Bg
open Go.RowKit
set_option maxRecDepth 100000

def Tryz.lays264_ren : Go.Shelf.Ren := ⟨fun | 264 => 77 | n => n, fun | 53 => 49 | 46 => 79 | n => n, fun | n => n⟩
theorem Tryz.lays264 : Go.Proofs.Lays.n264 Tryz.prog Tryz.lays264_ren := {
  mixed := by kernel_rfl
  f264 := Tryz.func77.trans (congrArg some (by kernel_rfl))
  t46 := Tryz.underlying79
  a46 := Tryz.isAgg79
  z46 := Tryz.sizeOf79
  v46 := Tryz.zeroValue79
  t53 := Tryz.underlying49
  a53 := Tryz.isAgg49
  z53 := Tryz.sizeOf49
  v53 := Tryz.zeroValue49 }
open Go.RowKit Go.Lib in
theorem Tryz.bits_Mul64 (x y : Nat) (hx : x < 18446744073709551616) (hy : y < 18446744073709551616) (w : World) :
    Calls Tryz.prog 77 #[.int .u64 x, .int .u64 y] w fun e w' => e = .returned (.tuple #[.int .u64 ((x * y / 18446744073709551616 : Nat) : Int), .int .u64 ((x * y % 18446744073709551616 : Nat) : Int)]) ∧ w' = w := Any.bits_Mul64 Tryz.lays264 x y hx hy w

/-- A call of Mul64 at these words gives these words. -/
def Times (x y h l : Nat) : Prop := ∀ w : World, Calls Tryz.prog 77 #[.int .u64 (x : Nat), .int .u64 (y : Nat)] w fun e w' => e = .returned (.tuple #[.int .u64 (h : Nat), .int .u64 (l : Nat)]) ∧ w' = w
theorem times (x y h l : Nat) (hx : x < 18446744073709551616) (hy : y < 18446744073709551616) (hh : h = x * y / 18446744073709551616) (hl : l = x * y % 18446744073709551616) : Times x y h l := by
  subst hh hl; exact Tryz.bits_Mul64 x y hx hy

set_option maxHeartbeats 1000000 in
theorem mul_words (a0 a1 a2 a3 n k1 k2 k3 k4 h0 h1 h2 h3 l0 l1 l2 l3 s0 s1 s2 s3 c0 c1 c2 c3 : Nat) (w : World)
    (m0 : Times a0 n h0 l0) (m1 : Times a1 n h1 l1) (m2 : Times a2 n h2 l2) (m3 : Times a3 n h3 l3)
    (g0 : Gives 78 l0 0 0 s0 c0) (g1 : Gives 78 l1 k1 0 s1 c1) (g2 : Gives 78 l2 k2 0 s2 c2) (g3 : Gives 78 l3 k3 0 s3 c3)
    (e1 : IntKind.u64.wrap ((h0 : Int) + (c0 : Int)) = (k1 : Int)) (e2 : IntKind.u64.wrap ((h1 : Int) + (c1 : Int)) = (k2 : Int))
    (e3 : IntKind.u64.wrap ((h2 : Int) + (c2 : Int)) = (k3 : Int)) (e4 : IntKind.u64.wrap ((h3 : Int) + (c3 : Int)) = (k4 : Int)) :
    Calls Tryz.prog 61 #[.agg #[.int .u64 (a0 : Nat), .int .u64 (a1 : Nat), .int .u64 (a2 : Nat), .int .u64 (a3 : Nat)], .int .u64 (n : Nat)] w fun e w' =>
      e = .returned (.tuple #[.agg #[.int .u64 (s0 : Nat), .int .u64 (s1 : Nat), .int .u64 (s2 : Nat), .int .u64 (s3 : Nat)], .int .u64 (k4 : Nat)]) ∧ Below w.heap.size w w' := by
  have H1 := g0.at00
  have H2 := g1.at0
  have H3 := g2.at0
  have H4 := g3.at0
  clear g0 g1 g2 g3
  have G0 := Lib.hid m0
  have G1 := Lib.hid m1
  have G2 := Lib.hid m2
  have G3 := Lib.hid m3
  clear m0 m1 m2 m3
  go_enter Tryz.func61, Tryz.ntmps61
  go_wp2_with fail
  refine wp_loop_rounds 5 ?_
  rw [rounds_succ]
  go_wp2_with fail
  refine (G0.out _).mono ?_
  rintro e w' ⟨rfl, rfl⟩
  go_wp2_with fail
  rw [rounds_succ]
  go_wp2_with fail
  refine (G1.out _).mono ?_
  rintro e w' ⟨rfl, rfl⟩
  go_wp2_with fail
  rw [rounds_succ]
  go_wp2_with fail
  refine (G2.out _).mono ?_
  rintro e w' ⟨rfl, rfl⟩
  go_wp2_with fail
  rw [rounds_succ]
  go_wp2_with fail
  refine (G3.out _).mono ?_
  rintro e w' ⟨rfl, rfl⟩
  go_wp2_with fail
  rw [rounds_succ]
  go_wp2_with fail
  go_returns
  refine ⟨rfl, ?_⟩
  go_grown

end Go.Proofs.YtimjmmiajgfblaaGreatDoor.Bg
