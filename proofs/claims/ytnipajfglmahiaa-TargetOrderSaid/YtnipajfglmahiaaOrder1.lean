/- TargetOrder of the statements of layer 3, walked: what it asks of the packages target and big, given what each call returns. -/
import Derived.Test.YtnipajfglmahiaaTAnchor
import Derived.Test.YtnipajfglmahiaaTMeets
namespace Go.Proofs.Ytnipajfglmahiaa
open Go.RowKit

def EqO (x0 x1 x2 x3 : Nat) (r : Bool) : Prop := ∀ w : World, (Op.equalIn 10000 25 (.agg #[.int .u64 (x0 : Nat), .int .u64 (x1 : Nat), .int .u64 (x2 : Nat), .int .u64 (x3 : Nat)]) (.agg #[.int .u64 1, .int .u64 0, .int .u64 0, .int .u64 0])).run Try.prog w = .ok r w
theorem SubIs.one {x0 x1 x2 x3 s0 s1 s2 s3 : Nat} {o : Bool} (h : SubIs x0 x1 x2 x3 1 0 0 0 s0 s1 s2 s3 o) (w : World) : Calls Try.prog 21 #[.agg #[.int .u64 (x0 : Nat), .int .u64 (x1 : Nat), .int .u64 (x2 : Nat), .int .u64 (x3 : Nat)], .agg #[.int .u64 1, .int .u64 0, .int .u64 0, .int .u64 0]] w fun e w' => e = .returned (.tuple #[.agg #[.int .u64 (s0 : Nat), .int .u64 (s1 : Nat), .int .u64 (s2 : Nat), .int .u64 (s3 : Nat)], .bool o]) ∧ Below w.heap.size w w' := h w
theorem SubIs.none {x0 x1 x2 x3 s0 s1 s2 s3 : Nat} {o : Bool} (h : SubIs 0 0 0 0 x0 x1 x2 x3 s0 s1 s2 s3 o) (w : World) : Calls Try.prog 21 #[.agg #[.int .u64 0, .int .u64 0, .int .u64 0, .int .u64 0], .agg #[.int .u64 (x0 : Nat), .int .u64 (x1 : Nat), .int .u64 (x2 : Nat), .int .u64 (x3 : Nat)]] w fun e w' => e = .returned (.tuple #[.agg #[.int .u64 (s0 : Nat), .int .u64 (s1 : Nat), .int .u64 (s2 : Nat), .int .u64 (s3 : Nat)], .bool o]) ∧ Below w.heap.size w w' := h w

set_option maxRecDepth 100000 in
set_option maxHeartbeats 16000000 in
theorem order_t_t_n_f (hb : Nat → Nat) (a0 a1 a2 a3 b0 b1 b2 b3 k0 k1 k2 k3 j0 j1 j2 j3 d0 d1 d2 d3 : Nat) (w : World) (wa : WorkIs a0 a1 a2 a3 k0 k1 k2 k3) (wb : WorkIs b0 b1 b2 b3 j0 j1 j2 j3) (less1 : LessIs a0 a1 a2 a3 b0 b1 b2 b3 true) (less2 : LessIs k0 k1 k2 k3 j0 j1 j2 j3 false) (ea : EqZ a0 a1 a2 a3 true) (add : AddIs a0 a1 a2 a3 1 0 0 0 d0 d1 d2 d3 false) :
    Calls Try.prog 6 #[.agg #[.int .u64 (a0 : Nat), .int .u64 (a1 : Nat), .int .u64 (a2 : Nat), .int .u64 (a3 : Nat)], .agg #[.int .u64 (b0 : Nat), .int .u64 (b1 : Nat), .int .u64 (b2 : Nat), .int .u64 (b3 : Nat)], .agg #[.int .u8 (hb 0 : Nat), .int .u8 (hb 1 : Nat), .int .u8 (hb 2 : Nat), .int .u8 (hb 3 : Nat), .int .u8 (hb 4 : Nat), .int .u8 (hb 5 : Nat), .int .u8 (hb 6 : Nat), .int .u8 (hb 7 : Nat), .int .u8 (hb 8 : Nat), .int .u8 (hb 9 : Nat), .int .u8 (hb 10 : Nat), .int .u8 (hb 11 : Nat), .int .u8 (hb 12 : Nat), .int .u8 (hb 13 : Nat), .int .u8 (hb 14 : Nat), .int .u8 (hb 15 : Nat), .int .u8 (hb 16 : Nat), .int .u8 (hb 17 : Nat), .int .u8 (hb 18 : Nat), .int .u8 (hb 19 : Nat), .int .u8 (hb 20 : Nat), .int .u8 (hb 21 : Nat), .int .u8 (hb 22 : Nat), .int .u8 (hb 23 : Nat), .int .u8 (hb 24 : Nat), .int .u8 (hb 25 : Nat), .int .u8 (hb 26 : Nat), .int .u8 (hb 27 : Nat), .int .u8 (hb 28 : Nat), .int .u8 (hb 29 : Nat), .int .u8 (hb 30 : Nat), .int .u8 (hb 31 : Nat)]] w fun e w' => e = .returned (.bool true) ∧ Below w.heap.size w w' := by
  have WAH := Lib.hid wa
  have WBH := Lib.hid wb
  have LESS1H := Lib.hid less1
  have LESS2H := Lib.hid less2
  have ADDH := Lib.hid add
  clear wa wb less1 less2 add
  unfold EqZ at ea
  go_enter Try.func6, Try.ntmps6
  go_wp2_with fail
  have PB : Below w.heap.size w (((w.alloc (.cells #[.int .u64 (a0 : Nat), .int .u64 (a1 : Nat), .int .u64 (a2 : Nat), .int .u64 (a3 : Nat)] 25)).alloc (.cells #[.int .u64 (b0 : Nat), .int .u64 (b1 : Nat), .int .u64 (b2 : Nat), .int .u64 (b3 : Nat)] 25)).alloc (.cells #[.int .u8 (hb 0 : Nat), .int .u8 (hb 1 : Nat), .int .u8 (hb 2 : Nat), .int .u8 (hb 3 : Nat), .int .u8 (hb 4 : Nat), .int .u8 (hb 5 : Nat), .int .u8 (hb 6 : Nat), .int .u8 (hb 7 : Nat), .int .u8 (hb 8 : Nat), .int .u8 (hb 9 : Nat), .int .u8 (hb 10 : Nat), .int .u8 (hb 11 : Nat), .int .u8 (hb 12 : Nat), .int .u8 (hb 13 : Nat), .int .u8 (hb 14 : Nat), .int .u8 (hb 15 : Nat), .int .u8 (hb 16 : Nat), .int .u8 (hb 17 : Nat), .int .u8 (hb 18 : Nat), .int .u8 (hb 19 : Nat), .int .u8 (hb 20 : Nat), .int .u8 (hb 21 : Nat), .int .u8 (hb 22 : Nat), .int .u8 (hb 23 : Nat), .int .u8 (hb 24 : Nat), .int .u8 (hb 25 : Nat), .int .u8 (hb 26 : Nat), .int .u8 (hb 27 : Nat), .int .u8 (hb 28 : Nat), .int .u8 (hb 29 : Nat), .int .u8 (hb 30 : Nat), .int .u8 (hb 31 : Nat)] 32)) := (((Below.refl _ _).alloc (Nat.le_refl _) _).alloc (by simp) _).alloc (by simp; omega) _
  have xa : Box (((w.alloc (.cells #[.int .u64 (a0 : Nat), .int .u64 (a1 : Nat), .int .u64 (a2 : Nat), .int .u64 (a3 : Nat)] 25)).alloc (.cells #[.int .u64 (b0 : Nat), .int .u64 (b1 : Nat), .int .u64 (b2 : Nat), .int .u64 (b3 : Nat)] 25)).alloc (.cells #[.int .u8 (hb 0 : Nat), .int .u8 (hb 1 : Nat), .int .u8 (hb 2 : Nat), .int .u8 (hb 3 : Nat), .int .u8 (hb 4 : Nat), .int .u8 (hb 5 : Nat), .int .u8 (hb 6 : Nat), .int .u8 (hb 7 : Nat), .int .u8 (hb 8 : Nat), .int .u8 (hb 9 : Nat), .int .u8 (hb 10 : Nat), .int .u8 (hb 11 : Nat), .int .u8 (hb 12 : Nat), .int .u8 (hb 13 : Nat), .int .u8 (hb 14 : Nat), .int .u8 (hb 15 : Nat), .int .u8 (hb 16 : Nat), .int .u8 (hb 17 : Nat), .int .u8 (hb 18 : Nat), .int .u8 (hb 19 : Nat), .int .u8 (hb 20 : Nat), .int .u8 (hb 21 : Nat), .int .u8 (hb 22 : Nat), .int .u8 (hb 23 : Nat), .int .u8 (hb 24 : Nat), .int .u8 (hb 25 : Nat), .int .u8 (hb 26 : Nat), .int .u8 (hb 27 : Nat), .int .u8 (hb 28 : Nat), .int .u8 (hb 29 : Nat), .int .u8 (hb 30 : Nat), .int .u8 (hb 31 : Nat)] 32)) w.heap.size a0 a1 a2 a3 := ((Box.new w (a0 : Nat) (a1 : Nat) (a2 : Nat) (a3 : Nat) 25).alloc _).alloc _
  have xb : Box (((w.alloc (.cells #[.int .u64 (a0 : Nat), .int .u64 (a1 : Nat), .int .u64 (a2 : Nat), .int .u64 (a3 : Nat)] 25)).alloc (.cells #[.int .u64 (b0 : Nat), .int .u64 (b1 : Nat), .int .u64 (b2 : Nat), .int .u64 (b3 : Nat)] 25)).alloc (.cells #[.int .u8 (hb 0 : Nat), .int .u8 (hb 1 : Nat), .int .u8 (hb 2 : Nat), .int .u8 (hb 3 : Nat), .int .u8 (hb 4 : Nat), .int .u8 (hb 5 : Nat), .int .u8 (hb 6 : Nat), .int .u8 (hb 7 : Nat), .int .u8 (hb 8 : Nat), .int .u8 (hb 9 : Nat), .int .u8 (hb 10 : Nat), .int .u8 (hb 11 : Nat), .int .u8 (hb 12 : Nat), .int .u8 (hb 13 : Nat), .int .u8 (hb 14 : Nat), .int .u8 (hb 15 : Nat), .int .u8 (hb 16 : Nat), .int .u8 (hb 17 : Nat), .int .u8 (hb 18 : Nat), .int .u8 (hb 19 : Nat), .int .u8 (hb 20 : Nat), .int .u8 (hb 21 : Nat), .int .u8 (hb 22 : Nat), .int .u8 (hb 23 : Nat), .int .u8 (hb 24 : Nat), .int .u8 (hb 25 : Nat), .int .u8 (hb 26 : Nat), .int .u8 (hb 27 : Nat), .int .u8 (hb 28 : Nat), .int .u8 (hb 29 : Nat), .int .u8 (hb 30 : Nat), .int .u8 (hb 31 : Nat)] 32)) (w.heap.size + 1) b0 b1 b2 b3 := by
    have h := (Box.new (w.alloc (.cells #[.int .u64 (a0 : Nat), .int .u64 (a1 : Nat), .int .u64 (a2 : Nat), .int .u64 (a3 : Nat)] 25)) (b0 : Nat) (b1 : Nat) (b2 : Nat) (b3 : Nat) 25).alloc (.cells #[.int .u8 (hb 0 : Nat), .int .u8 (hb 1 : Nat), .int .u8 (hb 2 : Nat), .int .u8 (hb 3 : Nat), .int .u8 (hb 4 : Nat), .int .u8 (hb 5 : Nat), .int .u8 (hb 6 : Nat), .int .u8 (hb 7 : Nat), .int .u8 (hb 8 : Nat), .int .u8 (hb 9 : Nat), .int .u8 (hb 10 : Nat), .int .u8 (hb 11 : Nat), .int .u8 (hb 12 : Nat), .int .u8 (hb 13 : Nat), .int .u8 (hb 14 : Nat), .int .u8 (hb 15 : Nat), .int .u8 (hb 16 : Nat), .int .u8 (hb 17 : Nat), .int .u8 (hb 18 : Nat), .int .u8 (hb 19 : Nat), .int .u8 (hb 20 : Nat), .int .u8 (hb 21 : Nat), .int .u8 (hb 22 : Nat), .int .u8 (hb 23 : Nat), .int .u8 (hb 24 : Nat), .int .u8 (hb 25 : Nat), .int .u8 (hb 26 : Nat), .int .u8 (hb 27 : Nat), .int .u8 (hb 28 : Nat), .int .u8 (hb 29 : Nat), .int .u8 (hb 30 : Nat), .int .u8 (hb 31 : Nat)] 32)
    simpa using h
  have HH : Holds (((w.alloc (.cells #[.int .u64 (a0 : Nat), .int .u64 (a1 : Nat), .int .u64 (a2 : Nat), .int .u64 (a3 : Nat)] 25)).alloc (.cells #[.int .u64 (b0 : Nat), .int .u64 (b1 : Nat), .int .u64 (b2 : Nat), .int .u64 (b3 : Nat)] 25)).alloc (.cells #[.int .u8 (hb 0 : Nat), .int .u8 (hb 1 : Nat), .int .u8 (hb 2 : Nat), .int .u8 (hb 3 : Nat), .int .u8 (hb 4 : Nat), .int .u8 (hb 5 : Nat), .int .u8 (hb 6 : Nat), .int .u8 (hb 7 : Nat), .int .u8 (hb 8 : Nat), .int .u8 (hb 9 : Nat), .int .u8 (hb 10 : Nat), .int .u8 (hb 11 : Nat), .int .u8 (hb 12 : Nat), .int .u8 (hb 13 : Nat), .int .u8 (hb 14 : Nat), .int .u8 (hb 15 : Nat), .int .u8 (hb 16 : Nat), .int .u8 (hb 17 : Nat), .int .u8 (hb 18 : Nat), .int .u8 (hb 19 : Nat), .int .u8 (hb 20 : Nat), .int .u8 (hb 21 : Nat), .int .u8 (hb 22 : Nat), .int .u8 (hb 23 : Nat), .int .u8 (hb 24 : Nat), .int .u8 (hb 25 : Nat), .int .u8 (hb 26 : Nat), .int .u8 (hb 27 : Nat), .int .u8 (hb 28 : Nat), .int .u8 (hb 29 : Nat), .int .u8 (hb 30 : Nat), .int .u8 (hb 31 : Nat)] 32)) (w.heap.size + 1 + 1) #[.int .u8 (hb 0 : Nat), .int .u8 (hb 1 : Nat), .int .u8 (hb 2 : Nat), .int .u8 (hb 3 : Nat), .int .u8 (hb 4 : Nat), .int .u8 (hb 5 : Nat), .int .u8 (hb 6 : Nat), .int .u8 (hb 7 : Nat), .int .u8 (hb 8 : Nat), .int .u8 (hb 9 : Nat), .int .u8 (hb 10 : Nat), .int .u8 (hb 11 : Nat), .int .u8 (hb 12 : Nat), .int .u8 (hb 13 : Nat), .int .u8 (hb 14 : Nat), .int .u8 (hb 15 : Nat), .int .u8 (hb 16 : Nat), .int .u8 (hb 17 : Nat), .int .u8 (hb 18 : Nat), .int .u8 (hb 19 : Nat), .int .u8 (hb 20 : Nat), .int .u8 (hb 21 : Nat), .int .u8 (hb 22 : Nat), .int .u8 (hb 23 : Nat), .int .u8 (hb 24 : Nat), .int .u8 (hb 25 : Nat), .int .u8 (hb 26 : Nat), .int .u8 (hb 27 : Nat), .int .u8 (hb 28 : Nat), .int .u8 (hb 29 : Nat), .int .u8 (hb 30 : Nat), .int .u8 (hb 31 : Nat)] 32 := by
    have h := Holds.new ((w.alloc (.cells #[.int .u64 (a0 : Nat), .int .u64 (a1 : Nat), .int .u64 (a2 : Nat), .int .u64 (a3 : Nat)] 25)).alloc (.cells #[.int .u64 (b0 : Nat), .int .u64 (b1 : Nat), .int .u64 (b2 : Nat), .int .u64 (b3 : Nat)] 25)) #[.int .u8 (hb 0 : Nat), .int .u8 (hb 1 : Nat), .int .u8 (hb 2 : Nat), .int .u8 (hb 3 : Nat), .int .u8 (hb 4 : Nat), .int .u8 (hb 5 : Nat), .int .u8 (hb 6 : Nat), .int .u8 (hb 7 : Nat), .int .u8 (hb 8 : Nat), .int .u8 (hb 9 : Nat), .int .u8 (hb 10 : Nat), .int .u8 (hb 11 : Nat), .int .u8 (hb 12 : Nat), .int .u8 (hb 13 : Nat), .int .u8 (hb 14 : Nat), .int .u8 (hb 15 : Nat), .int .u8 (hb 16 : Nat), .int .u8 (hb 17 : Nat), .int .u8 (hb 18 : Nat), .int .u8 (hb 19 : Nat), .int .u8 (hb 20 : Nat), .int .u8 (hb 21 : Nat), .int .u8 (hb 22 : Nat), .int .u8 (hb 23 : Nat), .int .u8 (hb 24 : Nat), .int .u8 (hb 25 : Nat), .int .u8 (hb 26 : Nat), .int .u8 (hb 27 : Nat), .int .u8 (hb 28 : Nat), .int .u8 (hb 29 : Nat), .int .u8 (hb 30 : Nat), .int .u8 (hb 31 : Nat)] 32
    simpa using h
  generalize ((w.alloc (.cells #[.int .u64 (a0 : Nat), .int .u64 (a1 : Nat), .int .u64 (a2 : Nat), .int .u64 (a3 : Nat)] 25)).alloc (.cells #[.int .u64 (b0 : Nat), .int .u64 (b1 : Nat), .int .u64 (b2 : Nat), .int .u64 (b3 : Nat)] 25)).alloc (.cells #[.int .u8 (hb 0 : Nat), .int .u8 (hb 1 : Nat), .int .u8 (hb 2 : Nat), .int .u8 (hb 3 : Nat), .int .u8 (hb 4 : Nat), .int .u8 (hb 5 : Nat), .int .u8 (hb 6 : Nat), .int .u8 (hb 7 : Nat), .int .u8 (hb 8 : Nat), .int .u8 (hb 9 : Nat), .int .u8 (hb 10 : Nat), .int .u8 (hb 11 : Nat), .int .u8 (hb 12 : Nat), .int .u8 (hb 13 : Nat), .int .u8 (hb 14 : Nat), .int .u8 (hb 15 : Nat), .int .u8 (hb 16 : Nat), .int .u8 (hb 17 : Nat), .int .u8 (hb 18 : Nat), .int .u8 (hb 19 : Nat), .int .u8 (hb 20 : Nat), .int .u8 (hb 21 : Nat), .int .u8 (hb 22 : Nat), .int .u8 (hb 23 : Nat), .int .u8 (hb 24 : Nat), .int .u8 (hb 25 : Nat), .int .u8 (hb 26 : Nat), .int .u8 (hb 27 : Nat), .int .u8 (hb 28 : Nat), .int .u8 (hb 29 : Nat), .int .u8 (hb 30 : Nat), .int .u8 (hb 31 : Nat)] 32) = W1 at *
  generalize w.heap.size + 1 + 1 = Bh at *
  generalize w.heap.size + 1 = Bb at *
  refine (WAH.out _).mono ?_
  rintro e w2 ⟨rfl, hc⟩
  replace xa := xa.later hc
  replace xb := xb.later hc
  replace HH := HH.later hc
  have PC := below_step PB hc
  clear PB hc
  have PB := PC
  clear PC
  have cb := xb
  obtain ⟨cb0, cb1, cb2, cb3⟩ := cb
  have lb := World.block_lt_of_cell? _ _ cb0
  simp only [] at lb
  have HPB := Lib.hid PB
  clear PB
  go_wp2_with fail
  have PB := HPB.out
  clear HPB
  clear cb0 cb1 cb2 cb3 lb
  replace xa := xa.alloc (.cells #[.int .u64 (k0 : Nat), .int .u64 (k1 : Nat), .int .u64 (k2 : Nat), .int .u64 (k3 : Nat)] 25)
  replace xb := xb.alloc (.cells #[.int .u64 (k0 : Nat), .int .u64 (k1 : Nat), .int .u64 (k2 : Nat), .int .u64 (k3 : Nat)] 25)
  replace HH := HH.later ((Below.refl _ _).alloc (Nat.le_refl _) (.cells #[.int .u64 (k0 : Nat), .int .u64 (k1 : Nat), .int .u64 (k2 : Nat), .int .u64 (k3 : Nat)] 25))
  have xk := Box.new (w2) (k0 : Nat) (k1 : Nat) (k2 : Nat) (k3 : Nat) 25
  have PC := below_alloc PB (.cells #[.int .u64 (k0 : Nat), .int .u64 (k1 : Nat), .int .u64 (k2 : Nat), .int .u64 (k3 : Nat)] 25)
  clear PB
  have PB := PC
  clear PC
  generalize (w2).alloc (.cells #[.int .u64 (k0 : Nat), .int .u64 (k1 : Nat), .int .u64 (k2 : Nat), .int .u64 (k3 : Nat)] 25) = W3 at *
  generalize w2.heap.size = Bk at *
  refine (WBH.out _).mono ?_
  rintro e w4 ⟨rfl, hc⟩
  replace xa := xa.later hc
  replace xb := xb.later hc
  replace xk := xk.later hc
  replace HH := HH.later hc
  have PC := below_step PB hc
  clear PB hc
  have PB := PC
  clear PC
  have ca := xa
  obtain ⟨ca0, ca1, ca2, ca3⟩ := ca
  have la := World.block_lt_of_cell? _ _ ca0
  simp only [] at la
  have cb := xb
  obtain ⟨cb0, cb1, cb2, cb3⟩ := cb
  have lb := World.block_lt_of_cell? _ _ cb0
  simp only [] at lb
  have HPB := Lib.hid PB
  clear PB
  go_wp2_with fail
  have PB := HPB.out
  clear HPB
  clear ca0 ca1 ca2 ca3 cb0 cb1 cb2 cb3 la lb
  replace xa := xa.alloc (.cells #[.int .u64 (j0 : Nat), .int .u64 (j1 : Nat), .int .u64 (j2 : Nat), .int .u64 (j3 : Nat)] 25)
  replace xb := xb.alloc (.cells #[.int .u64 (j0 : Nat), .int .u64 (j1 : Nat), .int .u64 (j2 : Nat), .int .u64 (j3 : Nat)] 25)
  replace xk := xk.alloc (.cells #[.int .u64 (j0 : Nat), .int .u64 (j1 : Nat), .int .u64 (j2 : Nat), .int .u64 (j3 : Nat)] 25)
  replace HH := HH.later ((Below.refl _ _).alloc (Nat.le_refl _) (.cells #[.int .u64 (j0 : Nat), .int .u64 (j1 : Nat), .int .u64 (j2 : Nat), .int .u64 (j3 : Nat)] 25))
  have xj := Box.new (w4) (j0 : Nat) (j1 : Nat) (j2 : Nat) (j3 : Nat) 25
  have PC := below_alloc PB (.cells #[.int .u64 (j0 : Nat), .int .u64 (j1 : Nat), .int .u64 (j2 : Nat), .int .u64 (j3 : Nat)] 25)
  clear PB
  have PB := PC
  clear PC
  generalize (w4).alloc (.cells #[.int .u64 (j0 : Nat), .int .u64 (j1 : Nat), .int .u64 (j2 : Nat), .int .u64 (j3 : Nat)] 25) = W5 at *
  generalize w4.heap.size = Bj at *
  refine (LESS1H.out _).mono ?_
  rintro e w6 ⟨rfl, hc⟩
  replace xa := xa.later hc
  replace xb := xb.later hc
  replace xk := xk.later hc
  replace xj := xj.later hc
  replace HH := HH.later hc
  have PC := below_step PB hc
  clear PB hc
  have PB := PC
  clear PC
  have ck := xk
  obtain ⟨ck0, ck1, ck2, ck3⟩ := ck
  have lk := World.block_lt_of_cell? _ _ ck0
  simp only [] at lk
  have cj := xj
  obtain ⟨cj0, cj1, cj2, cj3⟩ := cj
  have lj := World.block_lt_of_cell? _ _ cj0
  simp only [] at lj
  have HPB := Lib.hid PB
  clear PB
  go_wp2_with fail
  have PB := HPB.out
  clear HPB
  clear ck0 ck1 ck2 ck3 cj0 cj1 cj2 cj3 lk lj
  refine (LESS2H.out _).mono ?_
  rintro e w7 ⟨rfl, hc⟩
  replace xa := xa.later hc
  replace xb := xb.later hc
  replace xk := xk.later hc
  replace xj := xj.later hc
  replace HH := HH.later hc
  have PC := below_step PB hc
  clear PB hc
  have PB := PC
  clear PC
  have ca := xa
  obtain ⟨ca0, ca1, ca2, ca3⟩ := ca
  have la := World.block_lt_of_cell? _ _ ca0
  simp only [] at la
  have cb := xb
  obtain ⟨cb0, cb1, cb2, cb3⟩ := cb
  have lb := World.block_lt_of_cell? _ _ cb0
  simp only [] at lb
  have HPB := Lib.hid PB
  clear PB
  go_wp2_with fail
  have PB := HPB.out
  clear HPB
  clear ca0 ca1 ca2 ca3 cb0 cb1 cb2 cb3 la lb
  replace xa := xa.alloc (.cells #[.int .u64 0, .int .u64 0, .int .u64 0, .int .u64 0] 25)
  replace xb := xb.alloc (.cells #[.int .u64 0, .int .u64 0, .int .u64 0, .int .u64 0] 25)
  replace xk := xk.alloc (.cells #[.int .u64 0, .int .u64 0, .int .u64 0, .int .u64 0] 25)
  replace xj := xj.alloc (.cells #[.int .u64 0, .int .u64 0, .int .u64 0, .int .u64 0] 25)
  replace HH := HH.later ((Below.refl _ _).alloc (Nat.le_refl _) (.cells #[.int .u64 0, .int .u64 0, .int .u64 0, .int .u64 0] 25))
  have xn := Box.new (w7) 0 0 0 0 25
  have PC := below_alloc PB (.cells #[.int .u64 0, .int .u64 0, .int .u64 0, .int .u64 0] 25)
  clear PB
  have PB := PC
  clear PC
  generalize (w7).alloc (.cells #[.int .u64 0, .int .u64 0, .int .u64 0, .int .u64 0] 25) = W8 at *
  generalize w7.heap.size = Bn at *
  have HPB := Lib.hid PB
  clear PB
  refine wp_region_grow 6 (by kernel_rfl) (Nat.le_of_ble_eq_true (by kernel_rfl)) (by kernel_rfl) (by kernel_rfl) (fun _ _ _ _ _ h => h) ?_
  apply Exists.intro
  refine ⟨?_, ?_⟩
  · intro wg hg
    simp only [List.take_succ_cons, List.take_zero]
    have ca := xa.later hg
    obtain ⟨ca0, ca1, ca2, ca3⟩ := ca
    have ua0 : ∀ u : After wg, u.w.cell? ⟨w.heap.size, 0, none⟩ = some (.int .u64 (a0 : Nat)) := fun u => u.cell ca0
    have ua1 : ∀ u : After wg, u.w.cell? ⟨w.heap.size, 1, none⟩ = some (.int .u64 (a1 : Nat)) := fun u => u.cell ca1
    have ua2 : ∀ u : After wg, u.w.cell? ⟨w.heap.size, 2, none⟩ = some (.int .u64 (a2 : Nat)) := fun u => u.cell ca2
    have ua3 : ∀ u : After wg, u.w.cell? ⟨w.heap.size, 3, none⟩ = some (.int .u64 (a3 : Nat)) := fun u => u.cell ca3
    repeat (go_big_quiet_step ((first | (go_at_call 24; exact after_call (of_int 1 _)) | (go_at_call 23; exact after_call (ADDH.out.one _)))))
    refine wpQuiet_nil ?_
    exact rfl
  intro wg hg
  show wpK _ _ _ _ _ 3 _ _ _
  refine wpK_box1 (f := 2) (i := 6) (c := #[.int .u64 0, .int .u64 0, .int .u64 0, .int .u64 0]) (T := 25) (by kernel_rfl) rfl rfl rfl (fun w => by go_simp) hg ?_
  intro Bd wh gh ld Hd
  replace ld := Nat.le_trans hg.size ld
  have ge := hg.trans gh
  clear hg gh
  refine wpK_one (f := 1) (i := 7) (by kernel_rfl) rfl rfl ?_
  intro wc gc K hK
  replace ge := ge.trans gc
  replace Hd := Hd.later gc
  have ic0 : wc.cell? ⟨Bd, 0, none⟩ = some (.int .u64 0) := Hd.cell 0
  have iz0 : wc.frozen? ⟨Bd, 0, none⟩ = false := Hd.free 0
  have ic1 : wc.cell? ⟨Bd, 1, none⟩ = some (.int .u64 0) := Hd.cell 1
  have iz1 : wc.frozen? ⟨Bd, 1, none⟩ = false := Hd.free 1
  have ic2 : wc.cell? ⟨Bd, 2, none⟩ = some (.int .u64 0) := Hd.cell 2
  have iz2 : wc.frozen? ⟨Bd, 2, none⟩ = false := Hd.free 2
  have ic3 : wc.cell? ⟨Bd, 3, none⟩ = some (.int .u64 0) := Hd.cell 3
  have iz3 : wc.frozen? ⟨Bd, 3, none⟩ = false := Hd.free 3
  have HGE := Lib.hid ge
  clear ge gc
  go_simp
  have ge : Grows W8 ((((wc.setCell ⟨Bd, 0, none⟩ (.int .u64 (d0 : Nat))).setCell ⟨Bd, 1, none⟩ (.int .u64 (d1 : Nat))).setCell ⟨Bd, 2, none⟩ (.int .u64 (d2 : Nat))).setCell ⟨Bd, 3, none⟩ (.int .u64 (d3 : Nat))) := (((HGE.out.setCell ld _).setCell ld _).setCell ld _).setCell ld _
  replace Hd : Holds ((((wc.setCell ⟨Bd, 0, none⟩ (.int .u64 (d0 : Nat))).setCell ⟨Bd, 1, none⟩ (.int .u64 (d1 : Nat))).setCell ⟨Bd, 2, none⟩ (.int .u64 (d2 : Nat))).setCell ⟨Bd, 3, none⟩ (.int .u64 (d3 : Nat))) Bd #[.int .u64 (d0 : Nat), .int .u64 (d1 : Nat), .int .u64 (d2 : Nat), .int .u64 (d3 : Nat)] 25 := (((Hd.set _).set _).set _).set _
  clear ic0 ic1 ic2 ic3 iz0 iz1 iz2 iz3 HGE
  refine hK _ _ ge ?_
  clear hK K
  generalize (((wc.setCell ⟨Bd, 0, none⟩ (.int .u64 (d0 : Nat))).setCell ⟨Bd, 1, none⟩ (.int .u64 (d1 : Nat))).setCell ⟨Bd, 2, none⟩ (.int .u64 (d2 : Nat))).setCell ⟨Bd, 3, none⟩ (.int .u64 (d3 : Nat)) = wd at *
  clear wc
  refine wpK_one (f := 0) (i := 8) (by kernel_rfl) rfl rfl ?_
  intro wc gc K hK
  go_simp
  replace Hd := Hd.later gc
  replace ge := ge.trans gc
  refine hK _ _ ge ?_
  clear hK K gc
  refine wpK_end (by kernel_rfl) ?_
  intro W9 gf
  replace Hd := Hd.later gf
  replace ge := ge.trans gf
  clear gf
  replace xa := xa.later ge
  replace xb := xb.later ge
  replace xk := xk.later ge
  replace xj := xj.later ge
  replace xn := xn.later ge
  replace HH := HH.later ge
  have PB := below_step HPB.out ge
  clear ge HPB
  have xd : Box W9 Bd (d0 : Nat) (d1 : Nat) (d2 : Nat) (d3 : Nat) := ⟨Hd.cell 0, Hd.cell 1, Hd.cell 2, Hd.cell 3⟩
  clear Hd
  clear ld
  have ca := xa
  obtain ⟨ca0, ca1, ca2, ca3⟩ := ca
  have la := World.block_lt_of_cell? _ _ ca0
  simp only [] at la
  have cn := xn
  obtain ⟨cn0, cn1, cn2, cn3⟩ := cn
  have ln := World.block_lt_of_cell? _ _ cn0
  simp only [] at ln
  have HPB := Lib.hid PB
  clear PB
  go_wp2_with fail
  have PB := HPB.out
  clear HPB
  clear ca0 ca1 ca2 ca3 cn0 cn1 cn2 cn3 la ln
  have ca := xa
  obtain ⟨ca0, ca1, ca2, ca3⟩ := ca
  have la := World.block_lt_of_cell? _ _ ca0
  simp only [] at la
  have cn := xn
  obtain ⟨cn0, cn1, cn2, cn3⟩ := cn
  have ln := World.block_lt_of_cell? _ _ cn0
  simp only [] at ln
  have ck := xk
  obtain ⟨ck0, ck1, ck2, ck3⟩ := ck
  have lk := World.block_lt_of_cell? _ _ ck0
  simp only [] at lk
  have ua0 : ∀ u : After W9, u.w.cell? ⟨w.heap.size, 0, none⟩ = some (.int .u64 (a0 : Nat)) := fun u => u.cell ca0
  have ua1 : ∀ u : After W9, u.w.cell? ⟨w.heap.size, 1, none⟩ = some (.int .u64 (a1 : Nat)) := fun u => u.cell ca1
  have ua2 : ∀ u : After W9, u.w.cell? ⟨w.heap.size, 2, none⟩ = some (.int .u64 (a2 : Nat)) := fun u => u.cell ca2
  have ua3 : ∀ u : After W9, u.w.cell? ⟨w.heap.size, 3, none⟩ = some (.int .u64 (a3 : Nat)) := fun u => u.cell ca3
  have un0 : ∀ u : After W9, u.w.cell? ⟨Bn, 0, none⟩ = some (.int .u64 0) := fun u => u.cell cn0
  have un1 : ∀ u : After W9, u.w.cell? ⟨Bn, 1, none⟩ = some (.int .u64 0) := fun u => u.cell cn1
  have un2 : ∀ u : After W9, u.w.cell? ⟨Bn, 2, none⟩ = some (.int .u64 0) := fun u => u.cell cn2
  have un3 : ∀ u : After W9, u.w.cell? ⟨Bn, 3, none⟩ = some (.int .u64 0) := fun u => u.cell cn3
  have uk0 : ∀ u : After W9, u.w.cell? ⟨Bk, 0, none⟩ = some (.int .u64 (k0 : Nat)) := fun u => u.cell ck0
  have uk1 : ∀ u : After W9, u.w.cell? ⟨Bk, 1, none⟩ = some (.int .u64 (k1 : Nat)) := fun u => u.cell ck1
  have uk2 : ∀ u : After W9, u.w.cell? ⟨Bk, 2, none⟩ = some (.int .u64 (k2 : Nat)) := fun u => u.cell ck2
  have uk3 : ∀ u : After W9, u.w.cell? ⟨Bk, 3, none⟩ = some (.int .u64 (k3 : Nat)) := fun u => u.cell ck3
  have HPB := Lib.hid PB
  clear PB
  refine wp_region_after (by kernel_rfl) (by kernel_rfl) ?_
  repeat (go_big_quiet_step ((first | (go_at_call 12; exact after_call (works_any _)))))
  refine wpQuiet_nil ?_
  rintro _ ⟨u, rfl⟩
  clear ca0 ca1 ca2 ca3 cn0 cn1 cn2 cn3 ck0 ck1 ck2 ck3 la ln lk
  clear ua0 ua1 ua2 ua3 un0 un1 un2 un3 uk0 uk1 uk2 uk3
  replace xa := xa.later u.below
  replace xb := xb.later u.below
  replace xk := xk.later u.below
  replace xj := xj.later u.below
  replace xn := xn.later u.below
  replace xd := xd.later u.below
  replace HH := HH.later u.below
  have PB := below_step HPB.out u.below
  clear HPB
  generalize u.w = W10 at *
  clear u
  have HPB := Lib.hid PB
  clear PB
  go_wp2_with fail
  have PB := HPB.out
  clear HPB
  go_ret
  exact ⟨rfl, PB⟩

set_option maxRecDepth 100000 in
set_option maxHeartbeats 16000000 in
theorem order_t_f_n_f (hb : Nat → Nat) (a0 a1 a2 a3 b0 b1 b2 b3 k0 k1 k2 k3 j0 j1 j2 j3 d0 d1 d2 d3 : Nat) (w : World) (wa : WorkIs a0 a1 a2 a3 k0 k1 k2 k3) (wb : WorkIs b0 b1 b2 b3 j0 j1 j2 j3) (less1 : LessIs a0 a1 a2 a3 b0 b1 b2 b3 false) (ea : EqZ a0 a1 a2 a3 true) (add : AddIs a0 a1 a2 a3 1 0 0 0 d0 d1 d2 d3 false) :
    Calls Try.prog 6 #[.agg #[.int .u64 (a0 : Nat), .int .u64 (a1 : Nat), .int .u64 (a2 : Nat), .int .u64 (a3 : Nat)], .agg #[.int .u64 (b0 : Nat), .int .u64 (b1 : Nat), .int .u64 (b2 : Nat), .int .u64 (b3 : Nat)], .agg #[.int .u8 (hb 0 : Nat), .int .u8 (hb 1 : Nat), .int .u8 (hb 2 : Nat), .int .u8 (hb 3 : Nat), .int .u8 (hb 4 : Nat), .int .u8 (hb 5 : Nat), .int .u8 (hb 6 : Nat), .int .u8 (hb 7 : Nat), .int .u8 (hb 8 : Nat), .int .u8 (hb 9 : Nat), .int .u8 (hb 10 : Nat), .int .u8 (hb 11 : Nat), .int .u8 (hb 12 : Nat), .int .u8 (hb 13 : Nat), .int .u8 (hb 14 : Nat), .int .u8 (hb 15 : Nat), .int .u8 (hb 16 : Nat), .int .u8 (hb 17 : Nat), .int .u8 (hb 18 : Nat), .int .u8 (hb 19 : Nat), .int .u8 (hb 20 : Nat), .int .u8 (hb 21 : Nat), .int .u8 (hb 22 : Nat), .int .u8 (hb 23 : Nat), .int .u8 (hb 24 : Nat), .int .u8 (hb 25 : Nat), .int .u8 (hb 26 : Nat), .int .u8 (hb 27 : Nat), .int .u8 (hb 28 : Nat), .int .u8 (hb 29 : Nat), .int .u8 (hb 30 : Nat), .int .u8 (hb 31 : Nat)]] w fun e w' => e = .returned (.bool true) ∧ Below w.heap.size w w' := by
  have WAH := Lib.hid wa
  have WBH := Lib.hid wb
  have LESS1H := Lib.hid less1
  have ADDH := Lib.hid add
  clear wa wb less1 add
  unfold EqZ at ea
  go_enter Try.func6, Try.ntmps6
  go_wp2_with fail
  have PB : Below w.heap.size w (((w.alloc (.cells #[.int .u64 (a0 : Nat), .int .u64 (a1 : Nat), .int .u64 (a2 : Nat), .int .u64 (a3 : Nat)] 25)).alloc (.cells #[.int .u64 (b0 : Nat), .int .u64 (b1 : Nat), .int .u64 (b2 : Nat), .int .u64 (b3 : Nat)] 25)).alloc (.cells #[.int .u8 (hb 0 : Nat), .int .u8 (hb 1 : Nat), .int .u8 (hb 2 : Nat), .int .u8 (hb 3 : Nat), .int .u8 (hb 4 : Nat), .int .u8 (hb 5 : Nat), .int .u8 (hb 6 : Nat), .int .u8 (hb 7 : Nat), .int .u8 (hb 8 : Nat), .int .u8 (hb 9 : Nat), .int .u8 (hb 10 : Nat), .int .u8 (hb 11 : Nat), .int .u8 (hb 12 : Nat), .int .u8 (hb 13 : Nat), .int .u8 (hb 14 : Nat), .int .u8 (hb 15 : Nat), .int .u8 (hb 16 : Nat), .int .u8 (hb 17 : Nat), .int .u8 (hb 18 : Nat), .int .u8 (hb 19 : Nat), .int .u8 (hb 20 : Nat), .int .u8 (hb 21 : Nat), .int .u8 (hb 22 : Nat), .int .u8 (hb 23 : Nat), .int .u8 (hb 24 : Nat), .int .u8 (hb 25 : Nat), .int .u8 (hb 26 : Nat), .int .u8 (hb 27 : Nat), .int .u8 (hb 28 : Nat), .int .u8 (hb 29 : Nat), .int .u8 (hb 30 : Nat), .int .u8 (hb 31 : Nat)] 32)) := (((Below.refl _ _).alloc (Nat.le_refl _) _).alloc (by simp) _).alloc (by simp; omega) _
  have xa : Box (((w.alloc (.cells #[.int .u64 (a0 : Nat), .int .u64 (a1 : Nat), .int .u64 (a2 : Nat), .int .u64 (a3 : Nat)] 25)).alloc (.cells #[.int .u64 (b0 : Nat), .int .u64 (b1 : Nat), .int .u64 (b2 : Nat), .int .u64 (b3 : Nat)] 25)).alloc (.cells #[.int .u8 (hb 0 : Nat), .int .u8 (hb 1 : Nat), .int .u8 (hb 2 : Nat), .int .u8 (hb 3 : Nat), .int .u8 (hb 4 : Nat), .int .u8 (hb 5 : Nat), .int .u8 (hb 6 : Nat), .int .u8 (hb 7 : Nat), .int .u8 (hb 8 : Nat), .int .u8 (hb 9 : Nat), .int .u8 (hb 10 : Nat), .int .u8 (hb 11 : Nat), .int .u8 (hb 12 : Nat), .int .u8 (hb 13 : Nat), .int .u8 (hb 14 : Nat), .int .u8 (hb 15 : Nat), .int .u8 (hb 16 : Nat), .int .u8 (hb 17 : Nat), .int .u8 (hb 18 : Nat), .int .u8 (hb 19 : Nat), .int .u8 (hb 20 : Nat), .int .u8 (hb 21 : Nat), .int .u8 (hb 22 : Nat), .int .u8 (hb 23 : Nat), .int .u8 (hb 24 : Nat), .int .u8 (hb 25 : Nat), .int .u8 (hb 26 : Nat), .int .u8 (hb 27 : Nat), .int .u8 (hb 28 : Nat), .int .u8 (hb 29 : Nat), .int .u8 (hb 30 : Nat), .int .u8 (hb 31 : Nat)] 32)) w.heap.size a0 a1 a2 a3 := ((Box.new w (a0 : Nat) (a1 : Nat) (a2 : Nat) (a3 : Nat) 25).alloc _).alloc _
  have xb : Box (((w.alloc (.cells #[.int .u64 (a0 : Nat), .int .u64 (a1 : Nat), .int .u64 (a2 : Nat), .int .u64 (a3 : Nat)] 25)).alloc (.cells #[.int .u64 (b0 : Nat), .int .u64 (b1 : Nat), .int .u64 (b2 : Nat), .int .u64 (b3 : Nat)] 25)).alloc (.cells #[.int .u8 (hb 0 : Nat), .int .u8 (hb 1 : Nat), .int .u8 (hb 2 : Nat), .int .u8 (hb 3 : Nat), .int .u8 (hb 4 : Nat), .int .u8 (hb 5 : Nat), .int .u8 (hb 6 : Nat), .int .u8 (hb 7 : Nat), .int .u8 (hb 8 : Nat), .int .u8 (hb 9 : Nat), .int .u8 (hb 10 : Nat), .int .u8 (hb 11 : Nat), .int .u8 (hb 12 : Nat), .int .u8 (hb 13 : Nat), .int .u8 (hb 14 : Nat), .int .u8 (hb 15 : Nat), .int .u8 (hb 16 : Nat), .int .u8 (hb 17 : Nat), .int .u8 (hb 18 : Nat), .int .u8 (hb 19 : Nat), .int .u8 (hb 20 : Nat), .int .u8 (hb 21 : Nat), .int .u8 (hb 22 : Nat), .int .u8 (hb 23 : Nat), .int .u8 (hb 24 : Nat), .int .u8 (hb 25 : Nat), .int .u8 (hb 26 : Nat), .int .u8 (hb 27 : Nat), .int .u8 (hb 28 : Nat), .int .u8 (hb 29 : Nat), .int .u8 (hb 30 : Nat), .int .u8 (hb 31 : Nat)] 32)) (w.heap.size + 1) b0 b1 b2 b3 := by
    have h := (Box.new (w.alloc (.cells #[.int .u64 (a0 : Nat), .int .u64 (a1 : Nat), .int .u64 (a2 : Nat), .int .u64 (a3 : Nat)] 25)) (b0 : Nat) (b1 : Nat) (b2 : Nat) (b3 : Nat) 25).alloc (.cells #[.int .u8 (hb 0 : Nat), .int .u8 (hb 1 : Nat), .int .u8 (hb 2 : Nat), .int .u8 (hb 3 : Nat), .int .u8 (hb 4 : Nat), .int .u8 (hb 5 : Nat), .int .u8 (hb 6 : Nat), .int .u8 (hb 7 : Nat), .int .u8 (hb 8 : Nat), .int .u8 (hb 9 : Nat), .int .u8 (hb 10 : Nat), .int .u8 (hb 11 : Nat), .int .u8 (hb 12 : Nat), .int .u8 (hb 13 : Nat), .int .u8 (hb 14 : Nat), .int .u8 (hb 15 : Nat), .int .u8 (hb 16 : Nat), .int .u8 (hb 17 : Nat), .int .u8 (hb 18 : Nat), .int .u8 (hb 19 : Nat), .int .u8 (hb 20 : Nat), .int .u8 (hb 21 : Nat), .int .u8 (hb 22 : Nat), .int .u8 (hb 23 : Nat), .int .u8 (hb 24 : Nat), .int .u8 (hb 25 : Nat), .int .u8 (hb 26 : Nat), .int .u8 (hb 27 : Nat), .int .u8 (hb 28 : Nat), .int .u8 (hb 29 : Nat), .int .u8 (hb 30 : Nat), .int .u8 (hb 31 : Nat)] 32)
    simpa using h
  have HH : Holds (((w.alloc (.cells #[.int .u64 (a0 : Nat), .int .u64 (a1 : Nat), .int .u64 (a2 : Nat), .int .u64 (a3 : Nat)] 25)).alloc (.cells #[.int .u64 (b0 : Nat), .int .u64 (b1 : Nat), .int .u64 (b2 : Nat), .int .u64 (b3 : Nat)] 25)).alloc (.cells #[.int .u8 (hb 0 : Nat), .int .u8 (hb 1 : Nat), .int .u8 (hb 2 : Nat), .int .u8 (hb 3 : Nat), .int .u8 (hb 4 : Nat), .int .u8 (hb 5 : Nat), .int .u8 (hb 6 : Nat), .int .u8 (hb 7 : Nat), .int .u8 (hb 8 : Nat), .int .u8 (hb 9 : Nat), .int .u8 (hb 10 : Nat), .int .u8 (hb 11 : Nat), .int .u8 (hb 12 : Nat), .int .u8 (hb 13 : Nat), .int .u8 (hb 14 : Nat), .int .u8 (hb 15 : Nat), .int .u8 (hb 16 : Nat), .int .u8 (hb 17 : Nat), .int .u8 (hb 18 : Nat), .int .u8 (hb 19 : Nat), .int .u8 (hb 20 : Nat), .int .u8 (hb 21 : Nat), .int .u8 (hb 22 : Nat), .int .u8 (hb 23 : Nat), .int .u8 (hb 24 : Nat), .int .u8 (hb 25 : Nat), .int .u8 (hb 26 : Nat), .int .u8 (hb 27 : Nat), .int .u8 (hb 28 : Nat), .int .u8 (hb 29 : Nat), .int .u8 (hb 30 : Nat), .int .u8 (hb 31 : Nat)] 32)) (w.heap.size + 1 + 1) #[.int .u8 (hb 0 : Nat), .int .u8 (hb 1 : Nat), .int .u8 (hb 2 : Nat), .int .u8 (hb 3 : Nat), .int .u8 (hb 4 : Nat), .int .u8 (hb 5 : Nat), .int .u8 (hb 6 : Nat), .int .u8 (hb 7 : Nat), .int .u8 (hb 8 : Nat), .int .u8 (hb 9 : Nat), .int .u8 (hb 10 : Nat), .int .u8 (hb 11 : Nat), .int .u8 (hb 12 : Nat), .int .u8 (hb 13 : Nat), .int .u8 (hb 14 : Nat), .int .u8 (hb 15 : Nat), .int .u8 (hb 16 : Nat), .int .u8 (hb 17 : Nat), .int .u8 (hb 18 : Nat), .int .u8 (hb 19 : Nat), .int .u8 (hb 20 : Nat), .int .u8 (hb 21 : Nat), .int .u8 (hb 22 : Nat), .int .u8 (hb 23 : Nat), .int .u8 (hb 24 : Nat), .int .u8 (hb 25 : Nat), .int .u8 (hb 26 : Nat), .int .u8 (hb 27 : Nat), .int .u8 (hb 28 : Nat), .int .u8 (hb 29 : Nat), .int .u8 (hb 30 : Nat), .int .u8 (hb 31 : Nat)] 32 := by
    have h := Holds.new ((w.alloc (.cells #[.int .u64 (a0 : Nat), .int .u64 (a1 : Nat), .int .u64 (a2 : Nat), .int .u64 (a3 : Nat)] 25)).alloc (.cells #[.int .u64 (b0 : Nat), .int .u64 (b1 : Nat), .int .u64 (b2 : Nat), .int .u64 (b3 : Nat)] 25)) #[.int .u8 (hb 0 : Nat), .int .u8 (hb 1 : Nat), .int .u8 (hb 2 : Nat), .int .u8 (hb 3 : Nat), .int .u8 (hb 4 : Nat), .int .u8 (hb 5 : Nat), .int .u8 (hb 6 : Nat), .int .u8 (hb 7 : Nat), .int .u8 (hb 8 : Nat), .int .u8 (hb 9 : Nat), .int .u8 (hb 10 : Nat), .int .u8 (hb 11 : Nat), .int .u8 (hb 12 : Nat), .int .u8 (hb 13 : Nat), .int .u8 (hb 14 : Nat), .int .u8 (hb 15 : Nat), .int .u8 (hb 16 : Nat), .int .u8 (hb 17 : Nat), .int .u8 (hb 18 : Nat), .int .u8 (hb 19 : Nat), .int .u8 (hb 20 : Nat), .int .u8 (hb 21 : Nat), .int .u8 (hb 22 : Nat), .int .u8 (hb 23 : Nat), .int .u8 (hb 24 : Nat), .int .u8 (hb 25 : Nat), .int .u8 (hb 26 : Nat), .int .u8 (hb 27 : Nat), .int .u8 (hb 28 : Nat), .int .u8 (hb 29 : Nat), .int .u8 (hb 30 : Nat), .int .u8 (hb 31 : Nat)] 32
    simpa using h
  generalize ((w.alloc (.cells #[.int .u64 (a0 : Nat), .int .u64 (a1 : Nat), .int .u64 (a2 : Nat), .int .u64 (a3 : Nat)] 25)).alloc (.cells #[.int .u64 (b0 : Nat), .int .u64 (b1 : Nat), .int .u64 (b2 : Nat), .int .u64 (b3 : Nat)] 25)).alloc (.cells #[.int .u8 (hb 0 : Nat), .int .u8 (hb 1 : Nat), .int .u8 (hb 2 : Nat), .int .u8 (hb 3 : Nat), .int .u8 (hb 4 : Nat), .int .u8 (hb 5 : Nat), .int .u8 (hb 6 : Nat), .int .u8 (hb 7 : Nat), .int .u8 (hb 8 : Nat), .int .u8 (hb 9 : Nat), .int .u8 (hb 10 : Nat), .int .u8 (hb 11 : Nat), .int .u8 (hb 12 : Nat), .int .u8 (hb 13 : Nat), .int .u8 (hb 14 : Nat), .int .u8 (hb 15 : Nat), .int .u8 (hb 16 : Nat), .int .u8 (hb 17 : Nat), .int .u8 (hb 18 : Nat), .int .u8 (hb 19 : Nat), .int .u8 (hb 20 : Nat), .int .u8 (hb 21 : Nat), .int .u8 (hb 22 : Nat), .int .u8 (hb 23 : Nat), .int .u8 (hb 24 : Nat), .int .u8 (hb 25 : Nat), .int .u8 (hb 26 : Nat), .int .u8 (hb 27 : Nat), .int .u8 (hb 28 : Nat), .int .u8 (hb 29 : Nat), .int .u8 (hb 30 : Nat), .int .u8 (hb 31 : Nat)] 32) = W1 at *
  generalize w.heap.size + 1 + 1 = Bh at *
  generalize w.heap.size + 1 = Bb at *
  refine (WAH.out _).mono ?_
  rintro e w2 ⟨rfl, hc⟩
  replace xa := xa.later hc
  replace xb := xb.later hc
  replace HH := HH.later hc
  have PC := below_step PB hc
  clear PB hc
  have PB := PC
  clear PC
  have cb := xb
  obtain ⟨cb0, cb1, cb2, cb3⟩ := cb
  have lb := World.block_lt_of_cell? _ _ cb0
  simp only [] at lb
  have HPB := Lib.hid PB
  clear PB
  go_wp2_with fail
  have PB := HPB.out
  clear HPB
  clear cb0 cb1 cb2 cb3 lb
  replace xa := xa.alloc (.cells #[.int .u64 (k0 : Nat), .int .u64 (k1 : Nat), .int .u64 (k2 : Nat), .int .u64 (k3 : Nat)] 25)
  replace xb := xb.alloc (.cells #[.int .u64 (k0 : Nat), .int .u64 (k1 : Nat), .int .u64 (k2 : Nat), .int .u64 (k3 : Nat)] 25)
  replace HH := HH.later ((Below.refl _ _).alloc (Nat.le_refl _) (.cells #[.int .u64 (k0 : Nat), .int .u64 (k1 : Nat), .int .u64 (k2 : Nat), .int .u64 (k3 : Nat)] 25))
  have xk := Box.new (w2) (k0 : Nat) (k1 : Nat) (k2 : Nat) (k3 : Nat) 25
  have PC := below_alloc PB (.cells #[.int .u64 (k0 : Nat), .int .u64 (k1 : Nat), .int .u64 (k2 : Nat), .int .u64 (k3 : Nat)] 25)
  clear PB
  have PB := PC
  clear PC
  generalize (w2).alloc (.cells #[.int .u64 (k0 : Nat), .int .u64 (k1 : Nat), .int .u64 (k2 : Nat), .int .u64 (k3 : Nat)] 25) = W3 at *
  generalize w2.heap.size = Bk at *
  refine (WBH.out _).mono ?_
  rintro e w4 ⟨rfl, hc⟩
  replace xa := xa.later hc
  replace xb := xb.later hc
  replace xk := xk.later hc
  replace HH := HH.later hc
  have PC := below_step PB hc
  clear PB hc
  have PB := PC
  clear PC
  have ca := xa
  obtain ⟨ca0, ca1, ca2, ca3⟩ := ca
  have la := World.block_lt_of_cell? _ _ ca0
  simp only [] at la
  have cb := xb
  obtain ⟨cb0, cb1, cb2, cb3⟩ := cb
  have lb := World.block_lt_of_cell? _ _ cb0
  simp only [] at lb
  have HPB := Lib.hid PB
  clear PB
  go_wp2_with fail
  have PB := HPB.out
  clear HPB
  clear ca0 ca1 ca2 ca3 cb0 cb1 cb2 cb3 la lb
  replace xa := xa.alloc (.cells #[.int .u64 (j0 : Nat), .int .u64 (j1 : Nat), .int .u64 (j2 : Nat), .int .u64 (j3 : Nat)] 25)
  replace xb := xb.alloc (.cells #[.int .u64 (j0 : Nat), .int .u64 (j1 : Nat), .int .u64 (j2 : Nat), .int .u64 (j3 : Nat)] 25)
  replace xk := xk.alloc (.cells #[.int .u64 (j0 : Nat), .int .u64 (j1 : Nat), .int .u64 (j2 : Nat), .int .u64 (j3 : Nat)] 25)
  replace HH := HH.later ((Below.refl _ _).alloc (Nat.le_refl _) (.cells #[.int .u64 (j0 : Nat), .int .u64 (j1 : Nat), .int .u64 (j2 : Nat), .int .u64 (j3 : Nat)] 25))
  have xj := Box.new (w4) (j0 : Nat) (j1 : Nat) (j2 : Nat) (j3 : Nat) 25
  have PC := below_alloc PB (.cells #[.int .u64 (j0 : Nat), .int .u64 (j1 : Nat), .int .u64 (j2 : Nat), .int .u64 (j3 : Nat)] 25)
  clear PB
  have PB := PC
  clear PC
  generalize (w4).alloc (.cells #[.int .u64 (j0 : Nat), .int .u64 (j1 : Nat), .int .u64 (j2 : Nat), .int .u64 (j3 : Nat)] 25) = W5 at *
  generalize w4.heap.size = Bj at *
  refine (LESS1H.out _).mono ?_
  rintro e w6 ⟨rfl, hc⟩
  replace xa := xa.later hc
  replace xb := xb.later hc
  replace xk := xk.later hc
  replace xj := xj.later hc
  replace HH := HH.later hc
  have PC := below_step PB hc
  clear PB hc
  have PB := PC
  clear PC
  have ca := xa
  obtain ⟨ca0, ca1, ca2, ca3⟩ := ca
  have la := World.block_lt_of_cell? _ _ ca0
  simp only [] at la
  have cb := xb
  obtain ⟨cb0, cb1, cb2, cb3⟩ := cb
  have lb := World.block_lt_of_cell? _ _ cb0
  simp only [] at lb
  have HPB := Lib.hid PB
  clear PB
  go_wp2_with fail
  have PB := HPB.out
  clear HPB
  clear ca0 ca1 ca2 ca3 cb0 cb1 cb2 cb3 la lb
  replace xa := xa.alloc (.cells #[.int .u64 0, .int .u64 0, .int .u64 0, .int .u64 0] 25)
  replace xb := xb.alloc (.cells #[.int .u64 0, .int .u64 0, .int .u64 0, .int .u64 0] 25)
  replace xk := xk.alloc (.cells #[.int .u64 0, .int .u64 0, .int .u64 0, .int .u64 0] 25)
  replace xj := xj.alloc (.cells #[.int .u64 0, .int .u64 0, .int .u64 0, .int .u64 0] 25)
  replace HH := HH.later ((Below.refl _ _).alloc (Nat.le_refl _) (.cells #[.int .u64 0, .int .u64 0, .int .u64 0, .int .u64 0] 25))
  have xn := Box.new (w6) 0 0 0 0 25
  have PC := below_alloc PB (.cells #[.int .u64 0, .int .u64 0, .int .u64 0, .int .u64 0] 25)
  clear PB
  have PB := PC
  clear PC
  generalize (w6).alloc (.cells #[.int .u64 0, .int .u64 0, .int .u64 0, .int .u64 0] 25) = W7 at *
  generalize w6.heap.size = Bn at *
  have HPB := Lib.hid PB
  clear PB
  refine wp_region_grow 6 (by kernel_rfl) (Nat.le_of_ble_eq_true (by kernel_rfl)) (by kernel_rfl) (by kernel_rfl) (fun _ _ _ _ _ h => h) ?_
  apply Exists.intro
  refine ⟨?_, ?_⟩
  · intro wg hg
    simp only [List.take_succ_cons, List.take_zero]
    have ca := xa.later hg
    obtain ⟨ca0, ca1, ca2, ca3⟩ := ca
    have ua0 : ∀ u : After wg, u.w.cell? ⟨w.heap.size, 0, none⟩ = some (.int .u64 (a0 : Nat)) := fun u => u.cell ca0
    have ua1 : ∀ u : After wg, u.w.cell? ⟨w.heap.size, 1, none⟩ = some (.int .u64 (a1 : Nat)) := fun u => u.cell ca1
    have ua2 : ∀ u : After wg, u.w.cell? ⟨w.heap.size, 2, none⟩ = some (.int .u64 (a2 : Nat)) := fun u => u.cell ca2
    have ua3 : ∀ u : After wg, u.w.cell? ⟨w.heap.size, 3, none⟩ = some (.int .u64 (a3 : Nat)) := fun u => u.cell ca3
    repeat (go_big_quiet_step ((first | (go_at_call 24; exact after_call (of_int 1 _)) | (go_at_call 23; exact after_call (ADDH.out.one _)))))
    refine wpQuiet_nil ?_
    exact rfl
  intro wg hg
  show wpK _ _ _ _ _ 3 _ _ _
  refine wpK_box1 (f := 2) (i := 6) (c := #[.int .u64 0, .int .u64 0, .int .u64 0, .int .u64 0]) (T := 25) (by kernel_rfl) rfl rfl rfl (fun w => by go_simp) hg ?_
  intro Bd wh gh ld Hd
  replace ld := Nat.le_trans hg.size ld
  have ge := hg.trans gh
  clear hg gh
  refine wpK_one (f := 1) (i := 7) (by kernel_rfl) rfl rfl ?_
  intro wc gc K hK
  replace ge := ge.trans gc
  replace Hd := Hd.later gc
  have ic0 : wc.cell? ⟨Bd, 0, none⟩ = some (.int .u64 0) := Hd.cell 0
  have iz0 : wc.frozen? ⟨Bd, 0, none⟩ = false := Hd.free 0
  have ic1 : wc.cell? ⟨Bd, 1, none⟩ = some (.int .u64 0) := Hd.cell 1
  have iz1 : wc.frozen? ⟨Bd, 1, none⟩ = false := Hd.free 1
  have ic2 : wc.cell? ⟨Bd, 2, none⟩ = some (.int .u64 0) := Hd.cell 2
  have iz2 : wc.frozen? ⟨Bd, 2, none⟩ = false := Hd.free 2
  have ic3 : wc.cell? ⟨Bd, 3, none⟩ = some (.int .u64 0) := Hd.cell 3
  have iz3 : wc.frozen? ⟨Bd, 3, none⟩ = false := Hd.free 3
  have HGE := Lib.hid ge
  clear ge gc
  go_simp
  have ge : Grows W7 ((((wc.setCell ⟨Bd, 0, none⟩ (.int .u64 (d0 : Nat))).setCell ⟨Bd, 1, none⟩ (.int .u64 (d1 : Nat))).setCell ⟨Bd, 2, none⟩ (.int .u64 (d2 : Nat))).setCell ⟨Bd, 3, none⟩ (.int .u64 (d3 : Nat))) := (((HGE.out.setCell ld _).setCell ld _).setCell ld _).setCell ld _
  replace Hd : Holds ((((wc.setCell ⟨Bd, 0, none⟩ (.int .u64 (d0 : Nat))).setCell ⟨Bd, 1, none⟩ (.int .u64 (d1 : Nat))).setCell ⟨Bd, 2, none⟩ (.int .u64 (d2 : Nat))).setCell ⟨Bd, 3, none⟩ (.int .u64 (d3 : Nat))) Bd #[.int .u64 (d0 : Nat), .int .u64 (d1 : Nat), .int .u64 (d2 : Nat), .int .u64 (d3 : Nat)] 25 := (((Hd.set _).set _).set _).set _
  clear ic0 ic1 ic2 ic3 iz0 iz1 iz2 iz3 HGE
  refine hK _ _ ge ?_
  clear hK K
  generalize (((wc.setCell ⟨Bd, 0, none⟩ (.int .u64 (d0 : Nat))).setCell ⟨Bd, 1, none⟩ (.int .u64 (d1 : Nat))).setCell ⟨Bd, 2, none⟩ (.int .u64 (d2 : Nat))).setCell ⟨Bd, 3, none⟩ (.int .u64 (d3 : Nat)) = wd at *
  clear wc
  refine wpK_one (f := 0) (i := 8) (by kernel_rfl) rfl rfl ?_
  intro wc gc K hK
  go_simp
  replace Hd := Hd.later gc
  replace ge := ge.trans gc
  refine hK _ _ ge ?_
  clear hK K gc
  refine wpK_end (by kernel_rfl) ?_
  intro W8 gf
  replace Hd := Hd.later gf
  replace ge := ge.trans gf
  clear gf
  replace xa := xa.later ge
  replace xb := xb.later ge
  replace xk := xk.later ge
  replace xj := xj.later ge
  replace xn := xn.later ge
  replace HH := HH.later ge
  have PB := below_step HPB.out ge
  clear ge HPB
  have xd : Box W8 Bd (d0 : Nat) (d1 : Nat) (d2 : Nat) (d3 : Nat) := ⟨Hd.cell 0, Hd.cell 1, Hd.cell 2, Hd.cell 3⟩
  clear Hd
  clear ld
  have ca := xa
  obtain ⟨ca0, ca1, ca2, ca3⟩ := ca
  have la := World.block_lt_of_cell? _ _ ca0
  simp only [] at la
  have cn := xn
  obtain ⟨cn0, cn1, cn2, cn3⟩ := cn
  have ln := World.block_lt_of_cell? _ _ cn0
  simp only [] at ln
  have HPB := Lib.hid PB
  clear PB
  go_wp2_with fail
  have PB := HPB.out
  clear HPB
  clear ca0 ca1 ca2 ca3 cn0 cn1 cn2 cn3 la ln
  have ca := xa
  obtain ⟨ca0, ca1, ca2, ca3⟩ := ca
  have la := World.block_lt_of_cell? _ _ ca0
  simp only [] at la
  have cn := xn
  obtain ⟨cn0, cn1, cn2, cn3⟩ := cn
  have ln := World.block_lt_of_cell? _ _ cn0
  simp only [] at ln
  have ck := xk
  obtain ⟨ck0, ck1, ck2, ck3⟩ := ck
  have lk := World.block_lt_of_cell? _ _ ck0
  simp only [] at lk
  have ua0 : ∀ u : After W8, u.w.cell? ⟨w.heap.size, 0, none⟩ = some (.int .u64 (a0 : Nat)) := fun u => u.cell ca0
  have ua1 : ∀ u : After W8, u.w.cell? ⟨w.heap.size, 1, none⟩ = some (.int .u64 (a1 : Nat)) := fun u => u.cell ca1
  have ua2 : ∀ u : After W8, u.w.cell? ⟨w.heap.size, 2, none⟩ = some (.int .u64 (a2 : Nat)) := fun u => u.cell ca2
  have ua3 : ∀ u : After W8, u.w.cell? ⟨w.heap.size, 3, none⟩ = some (.int .u64 (a3 : Nat)) := fun u => u.cell ca3
  have un0 : ∀ u : After W8, u.w.cell? ⟨Bn, 0, none⟩ = some (.int .u64 0) := fun u => u.cell cn0
  have un1 : ∀ u : After W8, u.w.cell? ⟨Bn, 1, none⟩ = some (.int .u64 0) := fun u => u.cell cn1
  have un2 : ∀ u : After W8, u.w.cell? ⟨Bn, 2, none⟩ = some (.int .u64 0) := fun u => u.cell cn2
  have un3 : ∀ u : After W8, u.w.cell? ⟨Bn, 3, none⟩ = some (.int .u64 0) := fun u => u.cell cn3
  have uk0 : ∀ u : After W8, u.w.cell? ⟨Bk, 0, none⟩ = some (.int .u64 (k0 : Nat)) := fun u => u.cell ck0
  have uk1 : ∀ u : After W8, u.w.cell? ⟨Bk, 1, none⟩ = some (.int .u64 (k1 : Nat)) := fun u => u.cell ck1
  have uk2 : ∀ u : After W8, u.w.cell? ⟨Bk, 2, none⟩ = some (.int .u64 (k2 : Nat)) := fun u => u.cell ck2
  have uk3 : ∀ u : After W8, u.w.cell? ⟨Bk, 3, none⟩ = some (.int .u64 (k3 : Nat)) := fun u => u.cell ck3
  have HPB := Lib.hid PB
  clear PB
  refine wp_region_after (by kernel_rfl) (by kernel_rfl) ?_
  repeat (go_big_quiet_step ((first | (go_at_call 12; exact after_call (works_any _)))))
  refine wpQuiet_nil ?_
  rintro _ ⟨u, rfl⟩
  clear ca0 ca1 ca2 ca3 cn0 cn1 cn2 cn3 ck0 ck1 ck2 ck3 la ln lk
  clear ua0 ua1 ua2 ua3 un0 un1 un2 un3 uk0 uk1 uk2 uk3
  replace xa := xa.later u.below
  replace xb := xb.later u.below
  replace xk := xk.later u.below
  replace xj := xj.later u.below
  replace xn := xn.later u.below
  replace xd := xd.later u.below
  replace HH := HH.later u.below
  have PB := below_step HPB.out u.below
  clear HPB
  generalize u.w = W9 at *
  clear u
  have HPB := Lib.hid PB
  clear PB
  go_wp2_with fail
  have PB := HPB.out
  clear HPB
  go_ret
  exact ⟨rfl, PB⟩

set_option maxRecDepth 100000 in
set_option maxHeartbeats 16000000 in
theorem order_f_f_n_t (hb : Nat → Nat) (a0 a1 a2 a3 b0 b1 b2 b3 k0 k1 k2 k3 j0 j1 j2 j3 d0 d1 d2 d3 : Nat) (w : World) (wa : WorkIs a0 a1 a2 a3 k0 k1 k2 k3) (wb : WorkIs b0 b1 b2 b3 j0 j1 j2 j3) (less1 : LessIs a0 a1 a2 a3 b0 b1 b2 b3 false) (ea : EqZ a0 a1 a2 a3 false) (add : AddIs a0 a1 a2 a3 1 0 0 0 d0 d1 d2 d3 true) (ek : EqO k0 k1 k2 k3 true) :
    Calls Try.prog 6 #[.agg #[.int .u64 (a0 : Nat), .int .u64 (a1 : Nat), .int .u64 (a2 : Nat), .int .u64 (a3 : Nat)], .agg #[.int .u64 (b0 : Nat), .int .u64 (b1 : Nat), .int .u64 (b2 : Nat), .int .u64 (b3 : Nat)], .agg #[.int .u8 (hb 0 : Nat), .int .u8 (hb 1 : Nat), .int .u8 (hb 2 : Nat), .int .u8 (hb 3 : Nat), .int .u8 (hb 4 : Nat), .int .u8 (hb 5 : Nat), .int .u8 (hb 6 : Nat), .int .u8 (hb 7 : Nat), .int .u8 (hb 8 : Nat), .int .u8 (hb 9 : Nat), .int .u8 (hb 10 : Nat), .int .u8 (hb 11 : Nat), .int .u8 (hb 12 : Nat), .int .u8 (hb 13 : Nat), .int .u8 (hb 14 : Nat), .int .u8 (hb 15 : Nat), .int .u8 (hb 16 : Nat), .int .u8 (hb 17 : Nat), .int .u8 (hb 18 : Nat), .int .u8 (hb 19 : Nat), .int .u8 (hb 20 : Nat), .int .u8 (hb 21 : Nat), .int .u8 (hb 22 : Nat), .int .u8 (hb 23 : Nat), .int .u8 (hb 24 : Nat), .int .u8 (hb 25 : Nat), .int .u8 (hb 26 : Nat), .int .u8 (hb 27 : Nat), .int .u8 (hb 28 : Nat), .int .u8 (hb 29 : Nat), .int .u8 (hb 30 : Nat), .int .u8 (hb 31 : Nat)]] w fun e w' => e = .returned (.bool true) ∧ Below w.heap.size w w' := by
  have WAH := Lib.hid wa
  have WBH := Lib.hid wb
  have LESS1H := Lib.hid less1
  have ADDH := Lib.hid add
  clear wa wb less1 add
  unfold EqZ at ea
  unfold EqO at ek
  go_enter Try.func6, Try.ntmps6
  go_wp2_with fail
  have PB : Below w.heap.size w (((w.alloc (.cells #[.int .u64 (a0 : Nat), .int .u64 (a1 : Nat), .int .u64 (a2 : Nat), .int .u64 (a3 : Nat)] 25)).alloc (.cells #[.int .u64 (b0 : Nat), .int .u64 (b1 : Nat), .int .u64 (b2 : Nat), .int .u64 (b3 : Nat)] 25)).alloc (.cells #[.int .u8 (hb 0 : Nat), .int .u8 (hb 1 : Nat), .int .u8 (hb 2 : Nat), .int .u8 (hb 3 : Nat), .int .u8 (hb 4 : Nat), .int .u8 (hb 5 : Nat), .int .u8 (hb 6 : Nat), .int .u8 (hb 7 : Nat), .int .u8 (hb 8 : Nat), .int .u8 (hb 9 : Nat), .int .u8 (hb 10 : Nat), .int .u8 (hb 11 : Nat), .int .u8 (hb 12 : Nat), .int .u8 (hb 13 : Nat), .int .u8 (hb 14 : Nat), .int .u8 (hb 15 : Nat), .int .u8 (hb 16 : Nat), .int .u8 (hb 17 : Nat), .int .u8 (hb 18 : Nat), .int .u8 (hb 19 : Nat), .int .u8 (hb 20 : Nat), .int .u8 (hb 21 : Nat), .int .u8 (hb 22 : Nat), .int .u8 (hb 23 : Nat), .int .u8 (hb 24 : Nat), .int .u8 (hb 25 : Nat), .int .u8 (hb 26 : Nat), .int .u8 (hb 27 : Nat), .int .u8 (hb 28 : Nat), .int .u8 (hb 29 : Nat), .int .u8 (hb 30 : Nat), .int .u8 (hb 31 : Nat)] 32)) := (((Below.refl _ _).alloc (Nat.le_refl _) _).alloc (by simp) _).alloc (by simp; omega) _
  have xa : Box (((w.alloc (.cells #[.int .u64 (a0 : Nat), .int .u64 (a1 : Nat), .int .u64 (a2 : Nat), .int .u64 (a3 : Nat)] 25)).alloc (.cells #[.int .u64 (b0 : Nat), .int .u64 (b1 : Nat), .int .u64 (b2 : Nat), .int .u64 (b3 : Nat)] 25)).alloc (.cells #[.int .u8 (hb 0 : Nat), .int .u8 (hb 1 : Nat), .int .u8 (hb 2 : Nat), .int .u8 (hb 3 : Nat), .int .u8 (hb 4 : Nat), .int .u8 (hb 5 : Nat), .int .u8 (hb 6 : Nat), .int .u8 (hb 7 : Nat), .int .u8 (hb 8 : Nat), .int .u8 (hb 9 : Nat), .int .u8 (hb 10 : Nat), .int .u8 (hb 11 : Nat), .int .u8 (hb 12 : Nat), .int .u8 (hb 13 : Nat), .int .u8 (hb 14 : Nat), .int .u8 (hb 15 : Nat), .int .u8 (hb 16 : Nat), .int .u8 (hb 17 : Nat), .int .u8 (hb 18 : Nat), .int .u8 (hb 19 : Nat), .int .u8 (hb 20 : Nat), .int .u8 (hb 21 : Nat), .int .u8 (hb 22 : Nat), .int .u8 (hb 23 : Nat), .int .u8 (hb 24 : Nat), .int .u8 (hb 25 : Nat), .int .u8 (hb 26 : Nat), .int .u8 (hb 27 : Nat), .int .u8 (hb 28 : Nat), .int .u8 (hb 29 : Nat), .int .u8 (hb 30 : Nat), .int .u8 (hb 31 : Nat)] 32)) w.heap.size a0 a1 a2 a3 := ((Box.new w (a0 : Nat) (a1 : Nat) (a2 : Nat) (a3 : Nat) 25).alloc _).alloc _
  have xb : Box (((w.alloc (.cells #[.int .u64 (a0 : Nat), .int .u64 (a1 : Nat), .int .u64 (a2 : Nat), .int .u64 (a3 : Nat)] 25)).alloc (.cells #[.int .u64 (b0 : Nat), .int .u64 (b1 : Nat), .int .u64 (b2 : Nat), .int .u64 (b3 : Nat)] 25)).alloc (.cells #[.int .u8 (hb 0 : Nat), .int .u8 (hb 1 : Nat), .int .u8 (hb 2 : Nat), .int .u8 (hb 3 : Nat), .int .u8 (hb 4 : Nat), .int .u8 (hb 5 : Nat), .int .u8 (hb 6 : Nat), .int .u8 (hb 7 : Nat), .int .u8 (hb 8 : Nat), .int .u8 (hb 9 : Nat), .int .u8 (hb 10 : Nat), .int .u8 (hb 11 : Nat), .int .u8 (hb 12 : Nat), .int .u8 (hb 13 : Nat), .int .u8 (hb 14 : Nat), .int .u8 (hb 15 : Nat), .int .u8 (hb 16 : Nat), .int .u8 (hb 17 : Nat), .int .u8 (hb 18 : Nat), .int .u8 (hb 19 : Nat), .int .u8 (hb 20 : Nat), .int .u8 (hb 21 : Nat), .int .u8 (hb 22 : Nat), .int .u8 (hb 23 : Nat), .int .u8 (hb 24 : Nat), .int .u8 (hb 25 : Nat), .int .u8 (hb 26 : Nat), .int .u8 (hb 27 : Nat), .int .u8 (hb 28 : Nat), .int .u8 (hb 29 : Nat), .int .u8 (hb 30 : Nat), .int .u8 (hb 31 : Nat)] 32)) (w.heap.size + 1) b0 b1 b2 b3 := by
    have h := (Box.new (w.alloc (.cells #[.int .u64 (a0 : Nat), .int .u64 (a1 : Nat), .int .u64 (a2 : Nat), .int .u64 (a3 : Nat)] 25)) (b0 : Nat) (b1 : Nat) (b2 : Nat) (b3 : Nat) 25).alloc (.cells #[.int .u8 (hb 0 : Nat), .int .u8 (hb 1 : Nat), .int .u8 (hb 2 : Nat), .int .u8 (hb 3 : Nat), .int .u8 (hb 4 : Nat), .int .u8 (hb 5 : Nat), .int .u8 (hb 6 : Nat), .int .u8 (hb 7 : Nat), .int .u8 (hb 8 : Nat), .int .u8 (hb 9 : Nat), .int .u8 (hb 10 : Nat), .int .u8 (hb 11 : Nat), .int .u8 (hb 12 : Nat), .int .u8 (hb 13 : Nat), .int .u8 (hb 14 : Nat), .int .u8 (hb 15 : Nat), .int .u8 (hb 16 : Nat), .int .u8 (hb 17 : Nat), .int .u8 (hb 18 : Nat), .int .u8 (hb 19 : Nat), .int .u8 (hb 20 : Nat), .int .u8 (hb 21 : Nat), .int .u8 (hb 22 : Nat), .int .u8 (hb 23 : Nat), .int .u8 (hb 24 : Nat), .int .u8 (hb 25 : Nat), .int .u8 (hb 26 : Nat), .int .u8 (hb 27 : Nat), .int .u8 (hb 28 : Nat), .int .u8 (hb 29 : Nat), .int .u8 (hb 30 : Nat), .int .u8 (hb 31 : Nat)] 32)
    simpa using h
  have HH : Holds (((w.alloc (.cells #[.int .u64 (a0 : Nat), .int .u64 (a1 : Nat), .int .u64 (a2 : Nat), .int .u64 (a3 : Nat)] 25)).alloc (.cells #[.int .u64 (b0 : Nat), .int .u64 (b1 : Nat), .int .u64 (b2 : Nat), .int .u64 (b3 : Nat)] 25)).alloc (.cells #[.int .u8 (hb 0 : Nat), .int .u8 (hb 1 : Nat), .int .u8 (hb 2 : Nat), .int .u8 (hb 3 : Nat), .int .u8 (hb 4 : Nat), .int .u8 (hb 5 : Nat), .int .u8 (hb 6 : Nat), .int .u8 (hb 7 : Nat), .int .u8 (hb 8 : Nat), .int .u8 (hb 9 : Nat), .int .u8 (hb 10 : Nat), .int .u8 (hb 11 : Nat), .int .u8 (hb 12 : Nat), .int .u8 (hb 13 : Nat), .int .u8 (hb 14 : Nat), .int .u8 (hb 15 : Nat), .int .u8 (hb 16 : Nat), .int .u8 (hb 17 : Nat), .int .u8 (hb 18 : Nat), .int .u8 (hb 19 : Nat), .int .u8 (hb 20 : Nat), .int .u8 (hb 21 : Nat), .int .u8 (hb 22 : Nat), .int .u8 (hb 23 : Nat), .int .u8 (hb 24 : Nat), .int .u8 (hb 25 : Nat), .int .u8 (hb 26 : Nat), .int .u8 (hb 27 : Nat), .int .u8 (hb 28 : Nat), .int .u8 (hb 29 : Nat), .int .u8 (hb 30 : Nat), .int .u8 (hb 31 : Nat)] 32)) (w.heap.size + 1 + 1) #[.int .u8 (hb 0 : Nat), .int .u8 (hb 1 : Nat), .int .u8 (hb 2 : Nat), .int .u8 (hb 3 : Nat), .int .u8 (hb 4 : Nat), .int .u8 (hb 5 : Nat), .int .u8 (hb 6 : Nat), .int .u8 (hb 7 : Nat), .int .u8 (hb 8 : Nat), .int .u8 (hb 9 : Nat), .int .u8 (hb 10 : Nat), .int .u8 (hb 11 : Nat), .int .u8 (hb 12 : Nat), .int .u8 (hb 13 : Nat), .int .u8 (hb 14 : Nat), .int .u8 (hb 15 : Nat), .int .u8 (hb 16 : Nat), .int .u8 (hb 17 : Nat), .int .u8 (hb 18 : Nat), .int .u8 (hb 19 : Nat), .int .u8 (hb 20 : Nat), .int .u8 (hb 21 : Nat), .int .u8 (hb 22 : Nat), .int .u8 (hb 23 : Nat), .int .u8 (hb 24 : Nat), .int .u8 (hb 25 : Nat), .int .u8 (hb 26 : Nat), .int .u8 (hb 27 : Nat), .int .u8 (hb 28 : Nat), .int .u8 (hb 29 : Nat), .int .u8 (hb 30 : Nat), .int .u8 (hb 31 : Nat)] 32 := by
    have h := Holds.new ((w.alloc (.cells #[.int .u64 (a0 : Nat), .int .u64 (a1 : Nat), .int .u64 (a2 : Nat), .int .u64 (a3 : Nat)] 25)).alloc (.cells #[.int .u64 (b0 : Nat), .int .u64 (b1 : Nat), .int .u64 (b2 : Nat), .int .u64 (b3 : Nat)] 25)) #[.int .u8 (hb 0 : Nat), .int .u8 (hb 1 : Nat), .int .u8 (hb 2 : Nat), .int .u8 (hb 3 : Nat), .int .u8 (hb 4 : Nat), .int .u8 (hb 5 : Nat), .int .u8 (hb 6 : Nat), .int .u8 (hb 7 : Nat), .int .u8 (hb 8 : Nat), .int .u8 (hb 9 : Nat), .int .u8 (hb 10 : Nat), .int .u8 (hb 11 : Nat), .int .u8 (hb 12 : Nat), .int .u8 (hb 13 : Nat), .int .u8 (hb 14 : Nat), .int .u8 (hb 15 : Nat), .int .u8 (hb 16 : Nat), .int .u8 (hb 17 : Nat), .int .u8 (hb 18 : Nat), .int .u8 (hb 19 : Nat), .int .u8 (hb 20 : Nat), .int .u8 (hb 21 : Nat), .int .u8 (hb 22 : Nat), .int .u8 (hb 23 : Nat), .int .u8 (hb 24 : Nat), .int .u8 (hb 25 : Nat), .int .u8 (hb 26 : Nat), .int .u8 (hb 27 : Nat), .int .u8 (hb 28 : Nat), .int .u8 (hb 29 : Nat), .int .u8 (hb 30 : Nat), .int .u8 (hb 31 : Nat)] 32
    simpa using h
  generalize ((w.alloc (.cells #[.int .u64 (a0 : Nat), .int .u64 (a1 : Nat), .int .u64 (a2 : Nat), .int .u64 (a3 : Nat)] 25)).alloc (.cells #[.int .u64 (b0 : Nat), .int .u64 (b1 : Nat), .int .u64 (b2 : Nat), .int .u64 (b3 : Nat)] 25)).alloc (.cells #[.int .u8 (hb 0 : Nat), .int .u8 (hb 1 : Nat), .int .u8 (hb 2 : Nat), .int .u8 (hb 3 : Nat), .int .u8 (hb 4 : Nat), .int .u8 (hb 5 : Nat), .int .u8 (hb 6 : Nat), .int .u8 (hb 7 : Nat), .int .u8 (hb 8 : Nat), .int .u8 (hb 9 : Nat), .int .u8 (hb 10 : Nat), .int .u8 (hb 11 : Nat), .int .u8 (hb 12 : Nat), .int .u8 (hb 13 : Nat), .int .u8 (hb 14 : Nat), .int .u8 (hb 15 : Nat), .int .u8 (hb 16 : Nat), .int .u8 (hb 17 : Nat), .int .u8 (hb 18 : Nat), .int .u8 (hb 19 : Nat), .int .u8 (hb 20 : Nat), .int .u8 (hb 21 : Nat), .int .u8 (hb 22 : Nat), .int .u8 (hb 23 : Nat), .int .u8 (hb 24 : Nat), .int .u8 (hb 25 : Nat), .int .u8 (hb 26 : Nat), .int .u8 (hb 27 : Nat), .int .u8 (hb 28 : Nat), .int .u8 (hb 29 : Nat), .int .u8 (hb 30 : Nat), .int .u8 (hb 31 : Nat)] 32) = W1 at *
  generalize w.heap.size + 1 + 1 = Bh at *
  generalize w.heap.size + 1 = Bb at *
  refine (WAH.out _).mono ?_
  rintro e w2 ⟨rfl, hc⟩
  replace xa := xa.later hc
  replace xb := xb.later hc
  replace HH := HH.later hc
  have PC := below_step PB hc
  clear PB hc
  have PB := PC
  clear PC
  have cb := xb
  obtain ⟨cb0, cb1, cb2, cb3⟩ := cb
  have lb := World.block_lt_of_cell? _ _ cb0
  simp only [] at lb
  have HPB := Lib.hid PB
  clear PB
  go_wp2_with fail
  have PB := HPB.out
  clear HPB
  clear cb0 cb1 cb2 cb3 lb
  replace xa := xa.alloc (.cells #[.int .u64 (k0 : Nat), .int .u64 (k1 : Nat), .int .u64 (k2 : Nat), .int .u64 (k3 : Nat)] 25)
  replace xb := xb.alloc (.cells #[.int .u64 (k0 : Nat), .int .u64 (k1 : Nat), .int .u64 (k2 : Nat), .int .u64 (k3 : Nat)] 25)
  replace HH := HH.later ((Below.refl _ _).alloc (Nat.le_refl _) (.cells #[.int .u64 (k0 : Nat), .int .u64 (k1 : Nat), .int .u64 (k2 : Nat), .int .u64 (k3 : Nat)] 25))
  have xk := Box.new (w2) (k0 : Nat) (k1 : Nat) (k2 : Nat) (k3 : Nat) 25
  have PC := below_alloc PB (.cells #[.int .u64 (k0 : Nat), .int .u64 (k1 : Nat), .int .u64 (k2 : Nat), .int .u64 (k3 : Nat)] 25)
  clear PB
  have PB := PC
  clear PC
  generalize (w2).alloc (.cells #[.int .u64 (k0 : Nat), .int .u64 (k1 : Nat), .int .u64 (k2 : Nat), .int .u64 (k3 : Nat)] 25) = W3 at *
  generalize w2.heap.size = Bk at *
  refine (WBH.out _).mono ?_
  rintro e w4 ⟨rfl, hc⟩
  replace xa := xa.later hc
  replace xb := xb.later hc
  replace xk := xk.later hc
  replace HH := HH.later hc
  have PC := below_step PB hc
  clear PB hc
  have PB := PC
  clear PC
  have ca := xa
  obtain ⟨ca0, ca1, ca2, ca3⟩ := ca
  have la := World.block_lt_of_cell? _ _ ca0
  simp only [] at la
  have cb := xb
  obtain ⟨cb0, cb1, cb2, cb3⟩ := cb
  have lb := World.block_lt_of_cell? _ _ cb0
  simp only [] at lb
  have HPB := Lib.hid PB
  clear PB
  go_wp2_with fail
  have PB := HPB.out
  clear HPB
  clear ca0 ca1 ca2 ca3 cb0 cb1 cb2 cb3 la lb
  replace xa := xa.alloc (.cells #[.int .u64 (j0 : Nat), .int .u64 (j1 : Nat), .int .u64 (j2 : Nat), .int .u64 (j3 : Nat)] 25)
  replace xb := xb.alloc (.cells #[.int .u64 (j0 : Nat), .int .u64 (j1 : Nat), .int .u64 (j2 : Nat), .int .u64 (j3 : Nat)] 25)
  replace xk := xk.alloc (.cells #[.int .u64 (j0 : Nat), .int .u64 (j1 : Nat), .int .u64 (j2 : Nat), .int .u64 (j3 : Nat)] 25)
  replace HH := HH.later ((Below.refl _ _).alloc (Nat.le_refl _) (.cells #[.int .u64 (j0 : Nat), .int .u64 (j1 : Nat), .int .u64 (j2 : Nat), .int .u64 (j3 : Nat)] 25))
  have xj := Box.new (w4) (j0 : Nat) (j1 : Nat) (j2 : Nat) (j3 : Nat) 25
  have PC := below_alloc PB (.cells #[.int .u64 (j0 : Nat), .int .u64 (j1 : Nat), .int .u64 (j2 : Nat), .int .u64 (j3 : Nat)] 25)
  clear PB
  have PB := PC
  clear PC
  generalize (w4).alloc (.cells #[.int .u64 (j0 : Nat), .int .u64 (j1 : Nat), .int .u64 (j2 : Nat), .int .u64 (j3 : Nat)] 25) = W5 at *
  generalize w4.heap.size = Bj at *
  refine (LESS1H.out _).mono ?_
  rintro e w6 ⟨rfl, hc⟩
  replace xa := xa.later hc
  replace xb := xb.later hc
  replace xk := xk.later hc
  replace xj := xj.later hc
  replace HH := HH.later hc
  have PC := below_step PB hc
  clear PB hc
  have PB := PC
  clear PC
  have ca := xa
  obtain ⟨ca0, ca1, ca2, ca3⟩ := ca
  have la := World.block_lt_of_cell? _ _ ca0
  simp only [] at la
  have cb := xb
  obtain ⟨cb0, cb1, cb2, cb3⟩ := cb
  have lb := World.block_lt_of_cell? _ _ cb0
  simp only [] at lb
  have HPB := Lib.hid PB
  clear PB
  go_wp2_with fail
  have PB := HPB.out
  clear HPB
  clear ca0 ca1 ca2 ca3 cb0 cb1 cb2 cb3 la lb
  replace xa := xa.alloc (.cells #[.int .u64 0, .int .u64 0, .int .u64 0, .int .u64 0] 25)
  replace xb := xb.alloc (.cells #[.int .u64 0, .int .u64 0, .int .u64 0, .int .u64 0] 25)
  replace xk := xk.alloc (.cells #[.int .u64 0, .int .u64 0, .int .u64 0, .int .u64 0] 25)
  replace xj := xj.alloc (.cells #[.int .u64 0, .int .u64 0, .int .u64 0, .int .u64 0] 25)
  replace HH := HH.later ((Below.refl _ _).alloc (Nat.le_refl _) (.cells #[.int .u64 0, .int .u64 0, .int .u64 0, .int .u64 0] 25))
  have xn := Box.new (w6) 0 0 0 0 25
  have PC := below_alloc PB (.cells #[.int .u64 0, .int .u64 0, .int .u64 0, .int .u64 0] 25)
  clear PB
  have PB := PC
  clear PC
  generalize (w6).alloc (.cells #[.int .u64 0, .int .u64 0, .int .u64 0, .int .u64 0] 25) = W7 at *
  generalize w6.heap.size = Bn at *
  refine (LESS1H.out _).mono ?_
  rintro e w8 ⟨rfl, hc⟩
  replace xa := xa.later hc
  replace xb := xb.later hc
  replace xk := xk.later hc
  replace xj := xj.later hc
  replace xn := xn.later hc
  replace HH := HH.later hc
  have PC := below_step PB hc
  clear PB hc
  have PB := PC
  clear PC
  have HPB := Lib.hid PB
  clear PB
  go_wp2_with fail
  have PB := HPB.out
  clear HPB
  have HPB := Lib.hid PB
  clear PB
  refine wp_region_grow 6 (by kernel_rfl) (Nat.le_of_ble_eq_true (by kernel_rfl)) (by kernel_rfl) (by kernel_rfl) (fun _ _ _ _ _ h => h) ?_
  apply Exists.intro
  refine ⟨?_, ?_⟩
  · intro wg hg
    simp only [List.take_succ_cons, List.take_zero]
    have ca := xa.later hg
    obtain ⟨ca0, ca1, ca2, ca3⟩ := ca
    have ua0 : ∀ u : After wg, u.w.cell? ⟨w.heap.size, 0, none⟩ = some (.int .u64 (a0 : Nat)) := fun u => u.cell ca0
    have ua1 : ∀ u : After wg, u.w.cell? ⟨w.heap.size, 1, none⟩ = some (.int .u64 (a1 : Nat)) := fun u => u.cell ca1
    have ua2 : ∀ u : After wg, u.w.cell? ⟨w.heap.size, 2, none⟩ = some (.int .u64 (a2 : Nat)) := fun u => u.cell ca2
    have ua3 : ∀ u : After wg, u.w.cell? ⟨w.heap.size, 3, none⟩ = some (.int .u64 (a3 : Nat)) := fun u => u.cell ca3
    repeat (go_big_quiet_step ((first | (go_at_call 24; exact after_call (of_int 1 _)) | (go_at_call 23; exact after_call (ADDH.out.one _)))))
    refine wpQuiet_nil ?_
    exact rfl
  intro wg hg
  show wpK _ _ _ _ _ 3 _ _ _
  refine wpK_box1 (f := 2) (i := 6) (c := #[.int .u64 0, .int .u64 0, .int .u64 0, .int .u64 0]) (T := 25) (by kernel_rfl) rfl rfl rfl (fun w => by go_simp) hg ?_
  intro Bd wh gh ld Hd
  replace ld := Nat.le_trans hg.size ld
  have ge := hg.trans gh
  clear hg gh
  refine wpK_one (f := 1) (i := 7) (by kernel_rfl) rfl rfl ?_
  intro wc gc K hK
  replace ge := ge.trans gc
  replace Hd := Hd.later gc
  have ic0 : wc.cell? ⟨Bd, 0, none⟩ = some (.int .u64 0) := Hd.cell 0
  have iz0 : wc.frozen? ⟨Bd, 0, none⟩ = false := Hd.free 0
  have ic1 : wc.cell? ⟨Bd, 1, none⟩ = some (.int .u64 0) := Hd.cell 1
  have iz1 : wc.frozen? ⟨Bd, 1, none⟩ = false := Hd.free 1
  have ic2 : wc.cell? ⟨Bd, 2, none⟩ = some (.int .u64 0) := Hd.cell 2
  have iz2 : wc.frozen? ⟨Bd, 2, none⟩ = false := Hd.free 2
  have ic3 : wc.cell? ⟨Bd, 3, none⟩ = some (.int .u64 0) := Hd.cell 3
  have iz3 : wc.frozen? ⟨Bd, 3, none⟩ = false := Hd.free 3
  have HGE := Lib.hid ge
  clear ge gc
  go_simp
  have ge : Grows w8 ((((wc.setCell ⟨Bd, 0, none⟩ (.int .u64 (d0 : Nat))).setCell ⟨Bd, 1, none⟩ (.int .u64 (d1 : Nat))).setCell ⟨Bd, 2, none⟩ (.int .u64 (d2 : Nat))).setCell ⟨Bd, 3, none⟩ (.int .u64 (d3 : Nat))) := (((HGE.out.setCell ld _).setCell ld _).setCell ld _).setCell ld _
  replace Hd : Holds ((((wc.setCell ⟨Bd, 0, none⟩ (.int .u64 (d0 : Nat))).setCell ⟨Bd, 1, none⟩ (.int .u64 (d1 : Nat))).setCell ⟨Bd, 2, none⟩ (.int .u64 (d2 : Nat))).setCell ⟨Bd, 3, none⟩ (.int .u64 (d3 : Nat))) Bd #[.int .u64 (d0 : Nat), .int .u64 (d1 : Nat), .int .u64 (d2 : Nat), .int .u64 (d3 : Nat)] 25 := (((Hd.set _).set _).set _).set _
  clear ic0 ic1 ic2 ic3 iz0 iz1 iz2 iz3 HGE
  refine hK _ _ ge ?_
  clear hK K
  generalize (((wc.setCell ⟨Bd, 0, none⟩ (.int .u64 (d0 : Nat))).setCell ⟨Bd, 1, none⟩ (.int .u64 (d1 : Nat))).setCell ⟨Bd, 2, none⟩ (.int .u64 (d2 : Nat))).setCell ⟨Bd, 3, none⟩ (.int .u64 (d3 : Nat)) = wd at *
  clear wc
  refine wpK_one (f := 0) (i := 8) (by kernel_rfl) rfl rfl ?_
  intro wc gc K hK
  go_simp
  replace Hd := Hd.later gc
  replace ge := ge.trans gc
  refine hK _ _ ge ?_
  clear hK K gc
  refine wpK_end (by kernel_rfl) ?_
  intro W9 gf
  replace Hd := Hd.later gf
  replace ge := ge.trans gf
  clear gf
  replace xa := xa.later ge
  replace xb := xb.later ge
  replace xk := xk.later ge
  replace xj := xj.later ge
  replace xn := xn.later ge
  replace HH := HH.later ge
  have PB := below_step HPB.out ge
  clear ge HPB
  have xd : Box W9 Bd (d0 : Nat) (d1 : Nat) (d2 : Nat) (d3 : Nat) := ⟨Hd.cell 0, Hd.cell 1, Hd.cell 2, Hd.cell 3⟩
  clear Hd
  clear ld
  have ca := xa
  obtain ⟨ca0, ca1, ca2, ca3⟩ := ca
  have la := World.block_lt_of_cell? _ _ ca0
  simp only [] at la
  have cn := xn
  obtain ⟨cn0, cn1, cn2, cn3⟩ := cn
  have ln := World.block_lt_of_cell? _ _ cn0
  simp only [] at ln
  have HPB := Lib.hid PB
  clear PB
  go_wp2_with fail
  have PB := HPB.out
  clear HPB
  clear ca0 ca1 ca2 ca3 cn0 cn1 cn2 cn3 la ln
  have ca := xa
  obtain ⟨ca0, ca1, ca2, ca3⟩ := ca
  have la := World.block_lt_of_cell? _ _ ca0
  simp only [] at la
  have cn := xn
  obtain ⟨cn0, cn1, cn2, cn3⟩ := cn
  have ln := World.block_lt_of_cell? _ _ cn0
  simp only [] at ln
  have ck := xk
  obtain ⟨ck0, ck1, ck2, ck3⟩ := ck
  have lk := World.block_lt_of_cell? _ _ ck0
  simp only [] at lk
  have ua0 : ∀ u : After W9, u.w.cell? ⟨w.heap.size, 0, none⟩ = some (.int .u64 (a0 : Nat)) := fun u => u.cell ca0
  have ua1 : ∀ u : After W9, u.w.cell? ⟨w.heap.size, 1, none⟩ = some (.int .u64 (a1 : Nat)) := fun u => u.cell ca1
  have ua2 : ∀ u : After W9, u.w.cell? ⟨w.heap.size, 2, none⟩ = some (.int .u64 (a2 : Nat)) := fun u => u.cell ca2
  have ua3 : ∀ u : After W9, u.w.cell? ⟨w.heap.size, 3, none⟩ = some (.int .u64 (a3 : Nat)) := fun u => u.cell ca3
  have un0 : ∀ u : After W9, u.w.cell? ⟨Bn, 0, none⟩ = some (.int .u64 0) := fun u => u.cell cn0
  have un1 : ∀ u : After W9, u.w.cell? ⟨Bn, 1, none⟩ = some (.int .u64 0) := fun u => u.cell cn1
  have un2 : ∀ u : After W9, u.w.cell? ⟨Bn, 2, none⟩ = some (.int .u64 0) := fun u => u.cell cn2
  have un3 : ∀ u : After W9, u.w.cell? ⟨Bn, 3, none⟩ = some (.int .u64 0) := fun u => u.cell cn3
  have uk0 : ∀ u : After W9, u.w.cell? ⟨Bk, 0, none⟩ = some (.int .u64 (k0 : Nat)) := fun u => u.cell ck0
  have uk1 : ∀ u : After W9, u.w.cell? ⟨Bk, 1, none⟩ = some (.int .u64 (k1 : Nat)) := fun u => u.cell ck1
  have uk2 : ∀ u : After W9, u.w.cell? ⟨Bk, 2, none⟩ = some (.int .u64 (k2 : Nat)) := fun u => u.cell ck2
  have uk3 : ∀ u : After W9, u.w.cell? ⟨Bk, 3, none⟩ = some (.int .u64 (k3 : Nat)) := fun u => u.cell ck3
  have HPB := Lib.hid PB
  clear PB
  refine wp_region_after (by kernel_rfl) (by kernel_rfl) ?_
  repeat (go_big_quiet_step ((first | (go_at_call 12; exact after_call (works_any _)) | (go_at_call 24; exact after_call (of_int 1 _)))))
  refine wpQuiet_nil ?_
  rintro _ ⟨u, rfl⟩
  clear ca0 ca1 ca2 ca3 cn0 cn1 cn2 cn3 ck0 ck1 ck2 ck3 la ln lk
  clear ua0 ua1 ua2 ua3 un0 un1 un2 un3 uk0 uk1 uk2 uk3
  replace xa := xa.later u.below
  replace xb := xb.later u.below
  replace xk := xk.later u.below
  replace xj := xj.later u.below
  replace xn := xn.later u.below
  replace xd := xd.later u.below
  replace HH := HH.later u.below
  have PB := below_step HPB.out u.below
  clear HPB
  generalize u.w = W10 at *
  clear u
  have HPB := Lib.hid PB
  clear PB
  go_wp2_with fail
  have PB := HPB.out
  clear HPB
  go_ret
  exact ⟨rfl, PB⟩

end Go.Proofs.Ytnipajfglmahiaa
