/- What Up, Down, Of, Less and Bits of the package big return, word by word. -/
import Derived.Test.YtnipajfglmahiaaWords
namespace Go.Proofs.Ytnipajfglmahiaa
open Go.RowKit

set_option maxHeartbeats 1000000 in
theorem up_low (a0 a1 a2 a3 : Nat) (n : Int) (w : World) (h : n ≤ 0) :
    Calls Try.prog 26 #[.agg #[.int .u64 (a0 : Nat), .int .u64 (a1 : Nat), .int .u64 (a2 : Nat), .int .u64 (a3 : Nat)], .int .i64 n] w fun e w' => e = .returned (.agg #[.int .u64 (a0 : Nat), .int .u64 (a1 : Nat), .int .u64 (a2 : Nat), .int .u64 (a3 : Nat)]) ∧ Below w.heap.size w w' := by
  go_enter Try.func26, Try.ntmps26
  go_wp2_with fail
  go_returns
  refine ⟨rfl, ?_⟩
  go_grown

set_option maxHeartbeats 1000000 in
theorem up_high (a0 a1 a2 a3 : Nat) (n : Int) (w : World) (h : 256 ≤ n) :
    Calls Try.prog 26 #[.agg #[.int .u64 (a0 : Nat), .int .u64 (a1 : Nat), .int .u64 (a2 : Nat), .int .u64 (a3 : Nat)], .int .i64 n] w fun e w' => e = .returned (.agg #[.int .u64 0, .int .u64 0, .int .u64 0, .int .u64 0]) ∧ Below w.heap.size w w' := by
  go_enter Try.func26, Try.ntmps26
  go_wp2_with fail
  go_returns
  refine ⟨rfl, ?_⟩
  go_grown

set_option maxHeartbeats 1000000 in
theorem down_low (a0 a1 a2 a3 : Nat) (n : Int) (w : World) (h : n ≤ 0) :
    Calls Try.prog 27 #[.agg #[.int .u64 (a0 : Nat), .int .u64 (a1 : Nat), .int .u64 (a2 : Nat), .int .u64 (a3 : Nat)], .int .i64 n] w fun e w' => e = .returned (.agg #[.int .u64 (a0 : Nat), .int .u64 (a1 : Nat), .int .u64 (a2 : Nat), .int .u64 (a3 : Nat)]) ∧ Below w.heap.size w w' := by
  go_enter Try.func27, Try.ntmps27
  go_wp2_with fail
  go_returns
  refine ⟨rfl, ?_⟩
  go_grown

set_option maxHeartbeats 1000000 in
theorem down_high (a0 a1 a2 a3 : Nat) (n : Int) (w : World) (h : 256 ≤ n) :
    Calls Try.prog 27 #[.agg #[.int .u64 (a0 : Nat), .int .u64 (a1 : Nat), .int .u64 (a2 : Nat), .int .u64 (a3 : Nat)], .int .i64 n] w fun e w' => e = .returned (.agg #[.int .u64 0, .int .u64 0, .int .u64 0, .int .u64 0]) ∧ Below w.heap.size w w' := by
  go_enter Try.func27, Try.ntmps27
  go_wp2_with fail
  go_returns
  refine ⟨rfl, ?_⟩
  go_grown

set_option maxHeartbeats 1000000 in
theorem up_0 (a0 a1 a2 a3 r l0 l1 x1 l2 x2 l3 x3 : Nat) (n : Int) (w : World) (h0 : 1 ≤ n) (h1 : n < 64) (e1 : n / 64 = 0) (e2 : n % 64 = (r : Int)) (hr : r < 64)
    (L0 : IntKind.u64.wrap ((a0 : Int) * 2 ^ r) = (l0 : Int)) (L1 : IntKind.u64.wrap ((a1 : Int) * 2 ^ r) = (l1 : Int)) (X1 : bits BinOp.or IntKind.u64 (l1 : Int) ((a0 : Int) / 2 ^ (64 - r)) = (x1 : Int)) (L2 : IntKind.u64.wrap ((a2 : Int) * 2 ^ r) = (l2 : Int)) (X2 : bits BinOp.or IntKind.u64 (l2 : Int) ((a1 : Int) / 2 ^ (64 - r)) = (x2 : Int)) (L3 : IntKind.u64.wrap ((a3 : Int) * 2 ^ r) = (l3 : Int)) (X3 : bits BinOp.or IntKind.u64 (l3 : Int) ((a2 : Int) / 2 ^ (64 - r)) = (x3 : Int)) :
    Calls Try.prog 26 #[.agg #[.int .u64 (a0 : Nat), .int .u64 (a1 : Nat), .int .u64 (a2 : Nat), .int .u64 (a3 : Nat)], .int .i64 n] w fun e w' => e = .returned (.agg #[.int .u64 (l0 : Nat), .int .u64 (x1 : Nat), .int .u64 (x2 : Nat), .int .u64 (x3 : Nat)]) ∧ Below w.heap.size w w' := by
  go_enter Try.func26, Try.ntmps26
  go_wp2_with fail
  refine wp_loop_rounds 5 ?_
  rw [rounds_succ]
  go_wp2_with fail
  rw [rounds_succ]
  go_wp2_with fail
  go_region
  go_wp2_with fail
  rw [rounds_succ]
  go_wp2_with fail
  go_region
  go_wp2_with fail
  rw [rounds_succ]
  go_wp2_with fail
  go_region
  go_wp2_with fail
  rw [rounds_succ]
  go_wp2_with fail
  go_returns
  refine ⟨rfl, ?_⟩
  go_grown

set_option maxHeartbeats 1000000 in
theorem up_1 (a0 a1 a2 a3 r l0 l1 x2 l2 x3 : Nat) (n : Int) (w : World) (h0 : 64 ≤ n) (h1 : n < 128) (e1 : n / 64 = 1) (e2 : n % 64 = (r : Int)) (hr : r < 64)
    (L0 : IntKind.u64.wrap ((a0 : Int) * 2 ^ r) = (l0 : Int)) (L1 : IntKind.u64.wrap ((a1 : Int) * 2 ^ r) = (l1 : Int)) (X2 : bits BinOp.or IntKind.u64 (l1 : Int) ((a0 : Int) / 2 ^ (64 - r)) = (x2 : Int)) (L2 : IntKind.u64.wrap ((a2 : Int) * 2 ^ r) = (l2 : Int)) (X3 : bits BinOp.or IntKind.u64 (l2 : Int) ((a1 : Int) / 2 ^ (64 - r)) = (x3 : Int)) :
    Calls Try.prog 26 #[.agg #[.int .u64 (a0 : Nat), .int .u64 (a1 : Nat), .int .u64 (a2 : Nat), .int .u64 (a3 : Nat)], .int .i64 n] w fun e w' => e = .returned (.agg #[.int .u64 0, .int .u64 (l0 : Nat), .int .u64 (x2 : Nat), .int .u64 (x3 : Nat)]) ∧ Below w.heap.size w w' := by
  go_enter Try.func26, Try.ntmps26
  go_wp2_with fail
  refine wp_loop_rounds 5 ?_
  rw [rounds_succ]
  go_wp2_with fail
  rw [rounds_succ]
  go_wp2_with fail
  rw [rounds_succ]
  go_wp2_with fail
  go_region
  go_wp2_with fail
  rw [rounds_succ]
  go_wp2_with fail
  go_region
  go_wp2_with fail
  rw [rounds_succ]
  go_wp2_with fail
  go_returns
  refine ⟨rfl, ?_⟩
  go_grown

set_option maxHeartbeats 1000000 in
theorem up_2 (a0 a1 a2 a3 r l0 l1 x3 : Nat) (n : Int) (w : World) (h0 : 128 ≤ n) (h1 : n < 192) (e1 : n / 64 = 2) (e2 : n % 64 = (r : Int)) (hr : r < 64)
    (L0 : IntKind.u64.wrap ((a0 : Int) * 2 ^ r) = (l0 : Int)) (L1 : IntKind.u64.wrap ((a1 : Int) * 2 ^ r) = (l1 : Int)) (X3 : bits BinOp.or IntKind.u64 (l1 : Int) ((a0 : Int) / 2 ^ (64 - r)) = (x3 : Int)) :
    Calls Try.prog 26 #[.agg #[.int .u64 (a0 : Nat), .int .u64 (a1 : Nat), .int .u64 (a2 : Nat), .int .u64 (a3 : Nat)], .int .i64 n] w fun e w' => e = .returned (.agg #[.int .u64 0, .int .u64 0, .int .u64 (l0 : Nat), .int .u64 (x3 : Nat)]) ∧ Below w.heap.size w w' := by
  go_enter Try.func26, Try.ntmps26
  go_wp2_with fail
  refine wp_loop_rounds 5 ?_
  rw [rounds_succ]
  go_wp2_with fail
  rw [rounds_succ]
  go_wp2_with fail
  rw [rounds_succ]
  go_wp2_with fail
  rw [rounds_succ]
  go_wp2_with fail
  go_region
  go_wp2_with fail
  rw [rounds_succ]
  go_wp2_with fail
  go_returns
  refine ⟨rfl, ?_⟩
  go_grown

set_option maxHeartbeats 1000000 in
theorem up_3 (a0 a1 a2 a3 r l0 : Nat) (n : Int) (w : World) (h0 : 192 ≤ n) (h1 : n < 256) (e1 : n / 64 = 3) (e2 : n % 64 = (r : Int)) (hr : r < 64)
    (L0 : IntKind.u64.wrap ((a0 : Int) * 2 ^ r) = (l0 : Int)) :
    Calls Try.prog 26 #[.agg #[.int .u64 (a0 : Nat), .int .u64 (a1 : Nat), .int .u64 (a2 : Nat), .int .u64 (a3 : Nat)], .int .i64 n] w fun e w' => e = .returned (.agg #[.int .u64 0, .int .u64 0, .int .u64 0, .int .u64 (l0 : Nat)]) ∧ Below w.heap.size w w' := by
  go_enter Try.func26, Try.ntmps26
  go_wp2_with fail
  refine wp_loop_rounds 5 ?_
  rw [rounds_succ]
  go_wp2_with fail
  rw [rounds_succ]
  go_wp2_with fail
  rw [rounds_succ]
  go_wp2_with fail
  rw [rounds_succ]
  go_wp2_with fail
  rw [rounds_succ]
  go_wp2_with fail
  go_returns
  refine ⟨rfl, ?_⟩
  go_grown

set_option maxHeartbeats 1000000 in
theorem down_0 (a0 a1 a2 a3 r d0 m0 x0 d1 m1 x1 d2 m2 x2 d3 : Nat) (n : Int) (w : World) (h0 : 1 ≤ n) (h1 : n < 64) (e1 : n / 64 = 0) (e2 : n % 64 = (r : Int)) (hr : r < 64)
    (D0 : (a0 : Int) / 2 ^ r = (d0 : Int)) (M0 : IntKind.u64.wrap ((a1 : Int) * 2 ^ (64 - r)) = (m0 : Int)) (X0 : bits BinOp.or IntKind.u64 (d0 : Int) (m0 : Int) = (x0 : Int)) (D1 : (a1 : Int) / 2 ^ r = (d1 : Int)) (M1 : IntKind.u64.wrap ((a2 : Int) * 2 ^ (64 - r)) = (m1 : Int)) (X1 : bits BinOp.or IntKind.u64 (d1 : Int) (m1 : Int) = (x1 : Int)) (D2 : (a2 : Int) / 2 ^ r = (d2 : Int)) (M2 : IntKind.u64.wrap ((a3 : Int) * 2 ^ (64 - r)) = (m2 : Int)) (X2 : bits BinOp.or IntKind.u64 (d2 : Int) (m2 : Int) = (x2 : Int)) (D3 : (a3 : Int) / 2 ^ r = (d3 : Int)) :
    Calls Try.prog 27 #[.agg #[.int .u64 (a0 : Nat), .int .u64 (a1 : Nat), .int .u64 (a2 : Nat), .int .u64 (a3 : Nat)], .int .i64 n] w fun e w' => e = .returned (.agg #[.int .u64 (x0 : Nat), .int .u64 (x1 : Nat), .int .u64 (x2 : Nat), .int .u64 (d3 : Nat)]) ∧ Below w.heap.size w w' := by
  go_enter Try.func27, Try.ntmps27
  go_wp2_with fail
  refine wp_loop_rounds 5 ?_
  rw [rounds_succ]
  go_wp2_with fail
  go_region
  go_wp2_with fail
  rw [rounds_succ]
  go_wp2_with fail
  go_region
  go_wp2_with fail
  rw [rounds_succ]
  go_wp2_with fail
  go_region
  go_wp2_with fail
  rw [rounds_succ]
  go_wp2_with fail
  rw [rounds_succ]
  go_wp2_with fail
  go_returns
  refine ⟨rfl, ?_⟩
  go_grown

set_option maxHeartbeats 1000000 in
theorem down_1 (a0 a1 a2 a3 r d0 m0 x0 d1 m1 x1 d2 : Nat) (n : Int) (w : World) (h0 : 64 ≤ n) (h1 : n < 128) (e1 : n / 64 = 1) (e2 : n % 64 = (r : Int)) (hr : r < 64)
    (D0 : (a1 : Int) / 2 ^ r = (d0 : Int)) (M0 : IntKind.u64.wrap ((a2 : Int) * 2 ^ (64 - r)) = (m0 : Int)) (X0 : bits BinOp.or IntKind.u64 (d0 : Int) (m0 : Int) = (x0 : Int)) (D1 : (a2 : Int) / 2 ^ r = (d1 : Int)) (M1 : IntKind.u64.wrap ((a3 : Int) * 2 ^ (64 - r)) = (m1 : Int)) (X1 : bits BinOp.or IntKind.u64 (d1 : Int) (m1 : Int) = (x1 : Int)) (D2 : (a3 : Int) / 2 ^ r = (d2 : Int)) :
    Calls Try.prog 27 #[.agg #[.int .u64 (a0 : Nat), .int .u64 (a1 : Nat), .int .u64 (a2 : Nat), .int .u64 (a3 : Nat)], .int .i64 n] w fun e w' => e = .returned (.agg #[.int .u64 (x0 : Nat), .int .u64 (x1 : Nat), .int .u64 (d2 : Nat), .int .u64 0]) ∧ Below w.heap.size w w' := by
  go_enter Try.func27, Try.ntmps27
  go_wp2_with fail
  refine wp_loop_rounds 5 ?_
  rw [rounds_succ]
  go_wp2_with fail
  go_region
  go_wp2_with fail
  rw [rounds_succ]
  go_wp2_with fail
  go_region
  go_wp2_with fail
  rw [rounds_succ]
  go_wp2_with fail
  rw [rounds_succ]
  go_wp2_with fail
  rw [rounds_succ]
  go_wp2_with fail
  go_returns
  refine ⟨rfl, ?_⟩
  go_grown

set_option maxHeartbeats 1000000 in
theorem down_2 (a0 a1 a2 a3 r d0 m0 x0 d1 : Nat) (n : Int) (w : World) (h0 : 128 ≤ n) (h1 : n < 192) (e1 : n / 64 = 2) (e2 : n % 64 = (r : Int)) (hr : r < 64)
    (D0 : (a2 : Int) / 2 ^ r = (d0 : Int)) (M0 : IntKind.u64.wrap ((a3 : Int) * 2 ^ (64 - r)) = (m0 : Int)) (X0 : bits BinOp.or IntKind.u64 (d0 : Int) (m0 : Int) = (x0 : Int)) (D1 : (a3 : Int) / 2 ^ r = (d1 : Int)) :
    Calls Try.prog 27 #[.agg #[.int .u64 (a0 : Nat), .int .u64 (a1 : Nat), .int .u64 (a2 : Nat), .int .u64 (a3 : Nat)], .int .i64 n] w fun e w' => e = .returned (.agg #[.int .u64 (x0 : Nat), .int .u64 (d1 : Nat), .int .u64 0, .int .u64 0]) ∧ Below w.heap.size w w' := by
  go_enter Try.func27, Try.ntmps27
  go_wp2_with fail
  refine wp_loop_rounds 5 ?_
  rw [rounds_succ]
  go_wp2_with fail
  go_region
  go_wp2_with fail
  rw [rounds_succ]
  go_wp2_with fail
  rw [rounds_succ]
  go_wp2_with fail
  rw [rounds_succ]
  go_wp2_with fail
  rw [rounds_succ]
  go_wp2_with fail
  go_returns
  refine ⟨rfl, ?_⟩
  go_grown

set_option maxHeartbeats 1000000 in
theorem down_3 (a0 a1 a2 a3 r d0 : Nat) (n : Int) (w : World) (h0 : 192 ≤ n) (h1 : n < 256) (e1 : n / 64 = 3) (e2 : n % 64 = (r : Int)) (hr : r < 64)
    (D0 : (a3 : Int) / 2 ^ r = (d0 : Int)) :
    Calls Try.prog 27 #[.agg #[.int .u64 (a0 : Nat), .int .u64 (a1 : Nat), .int .u64 (a2 : Nat), .int .u64 (a3 : Nat)], .int .i64 n] w fun e w' => e = .returned (.agg #[.int .u64 (d0 : Nat), .int .u64 0, .int .u64 0, .int .u64 0]) ∧ Below w.heap.size w w' := by
  go_enter Try.func27, Try.ntmps27
  go_wp2_with fail
  refine wp_loop_rounds 5 ?_
  rw [rounds_succ]
  go_wp2_with fail
  rw [rounds_succ]
  go_wp2_with fail
  rw [rounds_succ]
  go_wp2_with fail
  rw [rounds_succ]
  go_wp2_with fail
  rw [rounds_succ]
  go_wp2_with fail
  go_returns
  refine ⟨rfl, ?_⟩
  go_grown

set_option maxHeartbeats 1000000 in
theorem of_words (n : Nat) (w : World) : Calls Try.prog 24 #[.int .u64 (n : Nat)] w fun e w' => e = .returned (.agg #[.int .u64 (n : Nat), .int .u64 0, .int .u64 0, .int .u64 0]) ∧ Below w.heap.size w w' := by
  go_enter Try.func24, Try.ntmps24
  go_wp2_with fail
  go_returns
  refine ⟨rfl, ?_⟩
  go_grown

set_option maxHeartbeats 1000000 in
theorem less_words (a0 a1 a2 a3 b0 b1 b2 b3 s0 s1 s2 s3 c1 c2 c3 c4 : Nat) (w : World)
    (g1 : Gives 39 a0 b0 0 s0 c1) (g2 : Gives 39 a1 b1 c1 s1 c2) (g3 : Gives 39 a2 b2 c2 s2 c3) (g4 : Gives 39 a3 b3 c3 s3 c4) :
    Calls Try.prog 20 #[.agg #[.int .u64 (a0 : Nat), .int .u64 (a1 : Nat), .int .u64 (a2 : Nat), .int .u64 (a3 : Nat)], .agg #[.int .u64 (b0 : Nat), .int .u64 (b1 : Nat), .int .u64 (b2 : Nat), .int .u64 (b3 : Nat)]] w fun e w' => e = .returned (.bool ((c4 : Int) != 0)) ∧ Below w.heap.size w w' := by
  have H := Lib.hid (fun w => sub_words a0 a1 a2 a3 b0 b1 b2 b3 s0 s1 s2 s3 c1 c2 c3 c4 w g1 g2 g3 g4)
  clear g1 g2 g3 g4
  go_enter Try.func20, Try.ntmps20
  go_wp2_with fail
  refine (H.out _).mono ?_
  rintro e w1 ⟨rfl, hb⟩
  go_wp2_with fail
  go_returns
  refine ⟨rfl, ?_⟩
  exact ((((Below.refl _ _).alloc (Nat.le_refl _) _).alloc (by simp) _).trans (hb.mono (by simp; omega))).alloc (by have := hb.size; simp at this ⊢; omega) _

/-- How far the loop of Bits has come, and what it has found. -/
def BitsRel (n1 n2 n3 n4 : Nat) (n i : Value) : Prop :=
  (i = .int .i64 0 ∧ n = .int .i64 0) ∨ (i = .int .i64 1 ∧ n = .int .i64 (n1 : Nat)) ∨ (i = .int .i64 2 ∧ n = .int .i64 (n2 : Nat)) ∨ (i = .int .i64 3 ∧ n = .int .i64 (n3 : Nat)) ∨ (i = .int .i64 4 ∧ n = .int .i64 (n4 : Nat))

/-- A call of Len64 at this word gives this number. -/
def LenIs (x l : Nat) : Prop := ∀ w : World, Calls Try.prog 40 #[.int .u64 (x : Nat)] w fun e w' => e = .returned (.int .i64 (l : Nat)) ∧ w' = w

set_option maxHeartbeats 2000000 in
theorem bits_words (a0 a1 a2 a3 l0 l1 l2 l3 n1 n2 n3 n4 : Nat) (w : World) (g0 : LenIs a0 l0) (g1 : LenIs a1 l1) (g2 : LenIs a2 l2) (g3 : LenIs a3 l3)
    (b0 : l0 ≤ 64) (b1 : l1 ≤ 64) (b2 : l2 ≤ 64) (b3 : l3 ≤ 64)
    (e1 : n1 = if a0 = 0 then 0 else l0) (e2 : n2 = if a1 = 0 then n1 else 64 + l1) (e3 : n3 = if a2 = 0 then n2 else 128 + l2) (e4 : n4 = if a3 = 0 then n3 else 192 + l3) :
    Calls Try.prog 22 #[.agg #[.int .u64 (a0 : Nat), .int .u64 (a1 : Nat), .int .u64 (a2 : Nat), .int .u64 (a3 : Nat)]] w fun e w' => e = .returned (.int .i64 (n4 : Nat)) ∧ Below w.heap.size w w' := by
  have G0 := Lib.hid g0
  have G1 := Lib.hid g1
  have G2 := Lib.hid g2
  have G3 := Lib.hid g3
  have E1 := Lib.hid e1
  have E2 := Lib.hid e2
  have E3 := Lib.hid e3
  have E4 := Lib.hid e4
  clear g0 g1 g2 g3 e1 e2 e3 e4
  go_enter Try.func22, Try.ntmps22
  go_wp2_with fail
  go_loop [3, 5] (BitsRel n1 n2 n3 n4) (fun _ i => 4 - (intOf i).toNat)
  case atStart => exact Or.inl ⟨rfl, rfl⟩
  case round =>
    unfold BitsRel at hrel
    rcases hrel with ⟨rfl, rfl⟩ | ⟨rfl, rfl⟩ | ⟨rfl, rfl⟩ | ⟨rfl, rfl⟩ | ⟨rfl, rfl⟩
    · by_cases hz : ((a0 : Int) != 0) = true
      · go_wp2_with fail
        refine (G0.out _).mono ?_
        rintro e w' ⟨rfl, rfl⟩
        go_wp2_with fail
        go_round
        case rel =>
          refine Or.inr (Or.inl ⟨rfl, ?_⟩)
          have := E1.out
          rw [if_neg (by simpa using hz)] at this
          rw [this]
          try rfl
        case measure => simp [intOf]
      · have hz' : ((a0 : Int) != 0) = false := by simpa using hz
        clear hz
        go_wp2_with fail
        go_round
        case rel =>
          refine Or.inr (Or.inl ⟨rfl, ?_⟩)
          have := E1.out
          rw [if_pos (by simpa using hz')] at this
          rw [this]
          try rfl
        case measure => simp [intOf]
    · by_cases hz : ((a1 : Int) != 0) = true
      · go_wp2_with fail
        refine (G1.out _).mono ?_
        rintro e w' ⟨rfl, rfl⟩
        go_wp2_with fail
        go_round
        case rel =>
          refine Or.inr (Or.inr (Or.inl ⟨rfl, ?_⟩))
          have := E2.out
          rw [if_neg (by simpa using hz)] at this
          rw [this]
          try rfl
        case measure => simp [intOf]
      · have hz' : ((a1 : Int) != 0) = false := by simpa using hz
        clear hz
        go_wp2_with fail
        go_round
        case rel =>
          refine Or.inr (Or.inr (Or.inl ⟨rfl, ?_⟩))
          have := E2.out
          rw [if_pos (by simpa using hz')] at this
          rw [this]
          try rfl
        case measure => simp [intOf]
    · by_cases hz : ((a2 : Int) != 0) = true
      · go_wp2_with fail
        refine (G2.out _).mono ?_
        rintro e w' ⟨rfl, rfl⟩
        go_wp2_with fail
        go_round
        case rel =>
          refine Or.inr (Or.inr (Or.inr (Or.inl ⟨rfl, ?_⟩)))
          have := E3.out
          rw [if_neg (by simpa using hz)] at this
          rw [this]
          try rfl
        case measure => simp [intOf]
      · have hz' : ((a2 : Int) != 0) = false := by simpa using hz
        clear hz
        go_wp2_with fail
        go_round
        case rel =>
          refine Or.inr (Or.inr (Or.inr (Or.inl ⟨rfl, ?_⟩)))
          have := E3.out
          rw [if_pos (by simpa using hz')] at this
          rw [this]
          try rfl
        case measure => simp [intOf]
    · by_cases hz : ((a3 : Int) != 0) = true
      · go_wp2_with fail
        refine (G3.out _).mono ?_
        rintro e w' ⟨rfl, rfl⟩
        go_wp2_with fail
        go_round
        case rel =>
          refine Or.inr (Or.inr (Or.inr (Or.inr ⟨rfl, ?_⟩)))
          have := E4.out
          rw [if_neg (by simpa using hz)] at this
          rw [this]
          try rfl
        case measure => simp [intOf]
      · have hz' : ((a3 : Int) != 0) = false := by simpa using hz
        clear hz
        go_wp2_with fail
        go_round
        case rel =>
          refine Or.inr (Or.inr (Or.inr (Or.inr ⟨rfl, ?_⟩)))
          have := E4.out
          rw [if_pos (by simpa using hz')] at this
          rw [this]
          try rfl
        case measure => simp [intOf]
    · go_wp2_with fail
      go_returns
      refine ⟨rfl, ?_⟩
      go_grown

end Go.Proofs.Ytnipajfglmahiaa
