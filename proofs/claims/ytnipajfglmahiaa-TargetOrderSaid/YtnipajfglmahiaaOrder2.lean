/- TargetOrder of the statements of layer 3, walked to its end: the quotient. -/
import Derived.Test.YtnipajfglmahiaaOrder1
namespace Go.Proofs.Ytnipajfglmahiaa
open Go.RowKit

set_option maxRecDepth 100000 in
set_option maxHeartbeats 16000000 in
theorem order_f_f_n_f (hb : Nat → Nat) (a0 a1 a2 a3 b0 b1 b2 b3 k0 k1 k2 k3 j0 j1 j2 j3 d0 d1 d2 d3 r0 r1 r2 r3 l0 l1 l2 l3 x0 x1 x2 x3 : Nat) (o : Bool) (w : World) (wa : WorkIs a0 a1 a2 a3 k0 k1 k2 k3) (wb : WorkIs b0 b1 b2 b3 j0 j1 j2 j3) (less1 : LessIs a0 a1 a2 a3 b0 b1 b2 b3 false) (ea : EqZ a0 a1 a2 a3 false) (add : AddIs a0 a1 a2 a3 1 0 0 0 d0 d1 d2 d3 false) (sub1 : SubIs 0 0 0 0 d0 d1 d2 d3 r0 r1 r2 r3 o) (sub2 : SubIs k0 k1 k2 k3 1 0 0 0 l0 l1 l2 l3 false) (div : DivIs r0 r1 r2 r3 d0 d1 d2 d3 l0 l1 l2 l3 x0 x1 x2 x3) (el : EqIs l0 l1 l2 l3 l0 l1 l2 l3 true) (ekz : EqZ k0 k1 k2 k3 false) :
    Calls Try.prog 6 #[.agg #[.int .u64 (a0 : Nat), .int .u64 (a1 : Nat), .int .u64 (a2 : Nat), .int .u64 (a3 : Nat)], .agg #[.int .u64 (b0 : Nat), .int .u64 (b1 : Nat), .int .u64 (b2 : Nat), .int .u64 (b3 : Nat)], .agg #[.int .u8 (hb 0 : Nat), .int .u8 (hb 1 : Nat), .int .u8 (hb 2 : Nat), .int .u8 (hb 3 : Nat), .int .u8 (hb 4 : Nat), .int .u8 (hb 5 : Nat), .int .u8 (hb 6 : Nat), .int .u8 (hb 7 : Nat), .int .u8 (hb 8 : Nat), .int .u8 (hb 9 : Nat), .int .u8 (hb 10 : Nat), .int .u8 (hb 11 : Nat), .int .u8 (hb 12 : Nat), .int .u8 (hb 13 : Nat), .int .u8 (hb 14 : Nat), .int .u8 (hb 15 : Nat), .int .u8 (hb 16 : Nat), .int .u8 (hb 17 : Nat), .int .u8 (hb 18 : Nat), .int .u8 (hb 19 : Nat), .int .u8 (hb 20 : Nat), .int .u8 (hb 21 : Nat), .int .u8 (hb 22 : Nat), .int .u8 (hb 23 : Nat), .int .u8 (hb 24 : Nat), .int .u8 (hb 25 : Nat), .int .u8 (hb 26 : Nat), .int .u8 (hb 27 : Nat), .int .u8 (hb 28 : Nat), .int .u8 (hb 29 : Nat), .int .u8 (hb 30 : Nat), .int .u8 (hb 31 : Nat)]] w fun e w' => e = .returned (.bool true) ∧ Below w.heap.size w w' := by
  have WAH := Lib.hid wa
  have WBH := Lib.hid wb
  have LESS1H := Lib.hid less1
  have ADDH := Lib.hid add
  have SUB1H := Lib.hid sub1
  have SUB2H := Lib.hid sub2
  have DIVH := Lib.hid div
  clear wa wb less1 add sub1 sub2 div
  unfold EqZ at ea
  unfold EqIs at el
  unfold EqZ at ekz
  go_enter Try.func6, Try.ntmps6
  go_wp2_with fail
  have PB : Below w.heap.size w (((w.alloc (.cells #[.int .u64 (a0 : Nat), .int .u64 (a1 : Nat), .int .u64 (a2 : Nat), .int .u64 (a3 : Nat)] 25)).alloc (.cells #[.int .u64 (b0 : Nat), .int .u64 (b1 : Nat), .int .u64 (b2 : Nat), .int .u64 (b3 : Nat)] 25)).alloc (.cells #[.int .u8 (hb 0 : Nat), .int .u8 (hb 1 : Nat), .int .u8 (hb 2 : Nat), .int .u8 (hb 3 : Nat), .int .u8 (hb 4 : Nat), .int .u8 (hb 5 : Nat), .int .u8 (hb 6 : Nat), .int .u8 (hb 7 : Nat), .int .u8 (hb 8 : Nat), .int .u8 (hb 9 : Nat), .int .u8 (hb 10 : Nat), .int .u8 (hb 11 : Nat), .int .u8 (hb 12 : Nat), .int .u8 (hb 13 : Nat), .int .u8 (hb 14 : Nat), .int .u8 (hb 15 : Nat), .int .u8 (hb 16 : Nat), .int .u8 (hb 17 : Nat), .int .u8 (hb 18 : Nat), .int .u8 (hb 19 : Nat), .int .u8 (hb 20 : Nat), .int .u8 (hb 21 : Nat), .int .u8 (hb 22 : Nat), .int .u8 (hb 23 : Nat), .int .u8 (hb 24 : Nat), .int .u8 (hb 25 : Nat), .int .u8 (hb 26 : Nat), .int .u8 (hb 27 : Nat), .int .u8 (hb 28 : Nat), .int .u8 (hb 29 : Nat), .int .u8 (hb 30 : Nat), .int .u8 (hb 31 : Nat)] 32)) := (((Below.refl _ _).alloc (Nat.le_refl _) _).alloc (by simp) _).alloc (by simp; omega) _
  have xa : Box (((w.alloc (.cells #[.int .u64 (a0 : Nat), .int .u64 (a1 : Nat), .int .u64 (a2 : Nat), .int .u64 (a3 : Nat)] 25)).alloc (.cells #[.int .u64 (b0 : Nat), .int .u64 (b1 : Nat), .int .u64 (b2 : Nat), .int .u64 (b3 : Nat)] 25)).alloc (.cells #[.int .u8 (hb 0 : Nat), .int .u8 (hb 1 : Nat), .int .u8 (hb 2 : Nat), .int .u8 (hb 3 : Nat), .int .u8 (hb 4 : Nat), .int .u8 (hb 5 : Nat), .int .u8 (hb 6 : Nat), .int .u8 (hb 7 : Nat), .int .u8 (hb 8 : Nat), .int .u8 (hb 9 : Nat), .int .u8 (hb 10 : Nat), .int .u8 (hb 11 : Nat), .int .u8 (hb 12 : Nat), .int .u8 (hb 13 : Nat), .int .u8 (hb 14 : Nat), .int .u8 (hb 15 : Nat), .int .u8 (hb 16 : Nat), .int .u8 (hb 17 : Nat), .int .u8 (hb 18 : Nat), .int .u8 (hb 19 : Nat), .int .u8 (hb 20 : Nat), .int .u8 (hb 21 : Nat), .int .u8 (hb 22 : Nat), .int .u8 (hb 23 : Nat), .int .u8 (hb 24 : Nat), .int .u8 (hb 25 : Nat), .int .u8 (hb 26 : Nat), .int .u8 (hb 27 : Nat), .int .u8 (hb 28 : Nat), .int .u8 (hb 29 : Nat), .int .u8 (hb 30 : Nat), .int .u8 (hb 31 : Nat)] 32)) w.heap.size a0 a1 a2 a3 := ((Box.new w (a0 : Nat) (a1 : Nat) (a2 : Nat) (a3 : Nat) 25).alloc _).alloc _
  have xb : Box (((w.alloc (.cells #[.int .u64 (a0 : Nat), .int .u64 (a1 : Nat), .int .u64 (a2 : Nat), .int .u64 (a3 : Nat)] 25)).alloc (.cells #[.int .u64 (b0 : Nat), .int .u64 (b1 : Nat), .int .u64 (b2 : Nat), .int .u64 (b3 : Nat)] 25)).alloc (.cells #[.int .u8 (hb 0 : Nat), .int .u8 (hb 1 : Nat), .int .u8 (hb 2 : Nat), .int .u8 (hb 3 : Nat), .int .u8 (hb 4 : Nat), .int .u8 (hb 5 : Nat), .int .u8 (hb 6 : Nat), .int .u8 (hb 7 : Nat), .int .u8 (hb 8 : Nat), .int .u8 (hb 9 : Nat), .int .u8 (hb 10 : Nat), .int .u8 (hb 11 : Nat), .int .u8 (hb 12 : Nat), .int .u8 (hb 13 : Nat), .int .u8 (hb 14 : Nat), .int .u8 (hb 15 : Nat), .int .u8 (hb 16 : Nat), .int .u8 (hb 17 : Nat), .int .u8 (hb 18 : Nat), .int .u8 (hb 19 : Nat), .int .u8 (hb 20 : Nat), .int .u8 (hb 21 : Nat), .int .u8 (hb 22 : Nat), .int .u8 (hb 23 : Nat), .int .u8 (hb 24 : Nat), .int .u8 (hb 25 : Nat), .int .u8 (hb 26 : Nat), .int .u8 (hb 27 : Nat), .int .u8 (hb 28 : Nat), .int .u8 (hb 29 : Nat), .int .u8 (hb 30 : Nat), .int .u8 (hb 31 : Nat)] 32)) (w.heap.size + 1) b0 b1 b2 b3 := by
    have h := (Box.new (w.alloc (.cells #[.int .u64 (a0 : Nat), .int .u64 (a1 : Nat), .int .u64 (a2 : Nat), .int .u64 (a3 : Nat)] 25)) (b0 : Nat) (b1 : Nat) (b2 : Nat) (b3 : Nat) 25).alloc (.cells #[.int .u8 (hb 0 : Nat), .int .u8 (hb 1 : Nat), .int .u8 (hb 2 : Nat), .int .u8 (hb 3 : Nat), .int .u8 (hb 4 : Nat), .int .u8 (hb 5 : Nat), .int .u8 (hb 6 : Nat), .int .u8 (hb 7 : Nat), .int .u8 (hb 8 : Nat), .int .u8 (hb 9 : Nat), .int .u8 (hb 10 : Nat), .int .u8 (hb 11 : Nat), .int .u8 (hb 12 : Nat), .int .u8 (hb 13 : Nat), .int .u8 (hb 14 : Nat), .int .u8 (hb 15 : Nat), .int .u8 (hb 16 : Nat), .int .u8 (hb 17 : Nat), .int .u8 (hb 18 : Nat), .int .u8 (hb 19 : Nat), .int .u8 (hb 20 : Nat), .int .u8 (hb 21 : Nat), .int .u8 (hb 22 : Nat), .int .u8 (hb 23 : Nat), .int .u8 (hb 24 : Nat), .int .u8 (hb 25 : Nat), .int .u8 (hb 26 : Nat), .int .u8 (hb 27 : Nat), .int .u8 (hb 28 : Nat), .int .u8 (hb 29 : Nat), .int .u8 (hb 30 : Nat), .int .u8 (hb 31 : Nat)] 32)
    simpa using h
  have HH : Holds (((w.alloc (.cells #[.int .u64 (a0 : Nat), .int .u64 (a1 : Nat), .int .u64 (a2 : Nat), .int .u64 (a3 : Nat)] 25)).alloc (.cells #[.int .u64 (b0 : Nat), .int .u64 (b1 : Nat), .int .u64 (b2 : Nat), .int .u64 (b3 : Nat)] 25)).alloc (.cells #[.int .u8 (hb 0 : Nat), .int .u8 (hb 1 : Nat), .int .u8 (hb 2 : Nat), .int .u8 (hb 3 : Nat), .int .u8 (hb 4 : Nat), .int .u8 (hb 5 : Nat), .int .u8 (hb 6 : Nat), .int .u8 (hb 7 : Nat), .int .u8 (hb 8 : Nat), .int .u8 (hb 9 : Nat), .int .u8 (hb 10 : Nat), .int .u8 (hb 11 : Nat), .int .u8 (hb 12 : Nat), .int .u8 (hb 13 : Nat), .int .u8 (hb 14 : Nat), .int .u8 (hb 15 : Nat), .int .u8 (hb 16 : Nat), .int .u8 (hb 17 : Nat), .int .u8 (hb 18 : Nat), .int .u8 (hb 19 : Nat), .int .u8 (hb 20 : Nat), .int .u8 (hb 21 : Nat), .int .u8 (hb 22 : Nat), .int .u8 (hb 23 : Nat), .int .u8 (hb 24 : Nat), .int .u8 (hb 25 : Nat), .int .u8 (hb 26 : Nat), .int .u8 (hb 27 : Nat), .int .u8 (hb 28 : Nat), .int .u8 (hb 29 : Nat), .int .u8 (hb 30 : Nat), .int .u8 (hb 31 : Nat)] 32)) (w.heap.size + 1 + 1) #[.int .u8 (hb 0 : Nat), .int .u8 (hb 1 : Nat), .int .u8 (hb 2 : Nat), .int .u8 (hb 3 : Nat), .int .u8 (hb 4 : Nat), .int .u8 (hb 5 : Nat), .int .u8 (hb 6 : Nat), .int .u8 (hb 7 : Nat), .int .u8 (hb 8 : Nat), .int .u8 (hb 9 : Nat), .int .u8 (hb 10 : Nat), .int .u8 (hb 11 : Nat), .int .u8 (hb 12 : Nat), .int .u8 (hb 13 : Nat), .int .u8 (hb 14 : Nat), .int .u8 (hb 15 : Nat), .int .u8 (hb 16 : Nat), .int .u8 (hb 17 : Nat), .int .u8 (hb 18 : Nat), .int .u8 (hb 19 : Nat), .int .u8 (hb 20 : Nat), .int .u8 (hb 21 : Nat), .int .u8 (hb 22 : Nat), .int .u8 (hb 23 : Nat), .int .u8 (hb 24 : Nat), .int .u8 (hb 25 : Nat), .int .u8 (hb 26 : Nat), .int .u8 (hb 27 : Nat), .int .u8 (hb 28 : Nat), .int .u8 (hb 29 : Nat), .int .u8 (hb 30 : Nat), .int .u8 (hb 31 : Nat)] 32 := by
    have h := Holds.new ((w.alloc (.cells #[.int .u64 (a0 : Nat), .int .u64 (a1 : Nat), .int .u64 (a2 : Nat), .int .u64 (a3 : Nat)] 25)).alloc (.cells #[.int .u64 (b0 : Nat), .int .u64 (b1 : Nat), .int .u64 (b2 : Nat), .int .u64 (b3 : Nat)] 25)) #[.int .u8 (hb 0 : Nat), .int .u8 (hb 1 : Nat), .int .u8 (hb 2 : Nat), .int .u8 (hb 3 : Nat), .int .u8 (hb 4 : Nat), .int .u8 (hb 5 : Nat), .int .u8 (hb 6 : Nat), .int .u8 (hb 7 : Nat), .int .u8 (hb 8 : Nat), .int .u8 (hb 9 : Nat), .int .u8 (hb 10 : Nat), .int .u8 (hb 11 : Nat), .int .u8 (hb 12 : Nat), .int .u8 (hb 13 : Nat), .int .u8 (hb 14 : Nat), .int .u8 (hb 15 : Nat), .int .u8 (hb 16 : Nat), .int .u8 (hb 17 : Nat), .int .u8 (hb 18 : Nat), .int .u8 (hb 19 : Nat), .int .u8 (hb 20 : Nat), .int .u8 (hb 21 : Nat), .int .u8 (hb 22 : Nat), .int .u8 (hb 23 : Nat), .int .u8 (hb 24 : Nat), .int .u8 (hb 25 : Nat), .int .u8 (hb 26 : Nat), .int .u8 (hb 27 : Nat), .int .u8 (hb 28 : Nat), .int .u8 (hb 29 : Nat), .int .u8 (hb 30 : Nat), .int .u8 (hb 31 : Nat)] 32
    simpa using h
  generalize ((w.alloc (.cells #[.int .u64 (a0 : Nat), .int .u64 (a1 : Nat), .int .u64 (a2 : Nat), .int .u64 (a3 : Nat)] 25)).alloc (.cells #[.int .u64 (b0 : Nat), .int .u64 (b1 : Nat), .int .u64 (b2 : Nat), .int .u64 (b3 : Nat)] 25)).alloc (.cells #[.int .u8 (hb 0 : Nat), .int .u8 (hb 1 : Nat), .int .u8 (hb 2 : Nat), .int .u8 (hb 3 : Nat), .int .u8 (hb 4 : Nat), .int .u8 (hb 5 : Nat), .int .u8 (hb 6 : Nat), .int .u8 (hb 7 : Nat), .int .u8 (hb 8 : Nat), .int .u8 (hb 9 : Nat), .int .u8 (hb 10 : Nat), .int .u8 (hb 11 : Nat), .int .u8 (hb 12 : Nat), .int .u8 (hb 13 : Nat), .int .u8 (hb 14 : Nat), .int .u8 (hb 15 : Nat), .int .u8 (hb 16 : Nat), .int .u8 (hb 17 : Nat), .int .u8 (hb 18 : Nat), .int .u8 (hb 19 : Nat), .int .u8 (hb 20 : Nat), .int .u8 (hb 21 : Nat), .int .u8 (hb 22 : Nat), .int .u8 (hb 23 : Nat), .int .u8 (hb 24 : Nat), .int .u8 (hb 25 : Nat), .int .u8 (hb 26 : Nat), .int .u8 (hb 27 : Nat), .int .u8 (hb 28 : Nat), .int .u8 (hb 29 : Nat), .int .u8 (hb 30 : Nat), .int .u8 (hb 31 : Nat)] 32) = W1 at *
  generalize w.heap.size + 1 + 1 = Bh at *
  generalize w.heap.size + 1 = Bb at *
  refine (WAH.out _).mono ?_
  rintro e w2 ⟨rfl, hc⟩
  replace xa := xa.later hc
  replace xb := xb.later hc
  replace HH := HH.later hc
  have PC := below_step PB hc
  clear PB hc
  have PB := PC
  clear PC
  have cb := xb
  obtain ⟨cb0, cb1, cb2, cb3⟩ := cb
  have lb := World.block_lt_of_cell? _ _ cb0
  simp only [] at lb
  have HPB := Lib.hid PB
  clear PB
  go_wp2_with fail
  have PB := HPB.out
  clear HPB
  clear cb0 cb1 cb2 cb3 lb
  replace xa := xa.alloc (.cells #[.int .u64 (k0 : Nat), .int .u64 (k1 : Nat), .int .u64 (k2 : Nat), .int .u64 (k3 : Nat)] 25)
  replace xb := xb.alloc (.cells #[.int .u64 (k0 : Nat), .int .u64 (k1 : Nat), .int .u64 (k2 : Nat), .int .u64 (k3 : Nat)] 25)
  replace HH := HH.later ((Below.refl _ _).alloc (Nat.le_refl _) (.cells #[.int .u64 (k0 : Nat), .int .u64 (k1 : Nat), .int .u64 (k2 : Nat), .int .u64 (k3 : Nat)] 25))
  have xk := Box.new (w2) (k0 : Nat) (k1 : Nat) (k2 : Nat) (k3 : Nat) 25
  have PC := below_alloc PB (.cells #[.int .u64 (k0 : Nat), .int .u64 (k1 : Nat), .int .u64 (k2 : Nat), .int .u64 (k3 : Nat)] 25)
  clear PB
  have PB := PC
  clear PC
  generalize (w2).alloc (.cells #[.int .u64 (k0 : Nat), .int .u64 (k1 : Nat), .int .u64 (k2 : Nat), .int .u64 (k3 : Nat)] 25) = W3 at *
  generalize w2.heap.size = Bk at *
  refine (WBH.out _).mono ?_
  rintro e w4 ⟨rfl, hc⟩
  replace xa := xa.later hc
  replace xb := xb.later hc
  replace xk := xk.later hc
  replace HH := HH.later hc
  have PC := below_step PB hc
  clear PB hc
  have PB := PC
  clear PC
  have ca := xa
  obtain ⟨ca0, ca1, ca2, ca3⟩ := ca
  have la := World.block_lt_of_cell? _ _ ca0
  simp only [] at la
  have cb := xb
  obtain ⟨cb0, cb1, cb2, cb3⟩ := cb
  have lb := World.block_lt_of_cell? _ _ cb0
  simp only [] at lb
  have HPB := Lib.hid PB
  clear PB
  go_wp2_with fail
  have PB := HPB.out
  clear HPB
  clear ca0 ca1 ca2 ca3 cb0 cb1 cb2 cb3 la lb
  replace xa := xa.alloc (.cells #[.int .u64 (j0 : Nat), .int .u64 (j1 : Nat), .int .u64 (j2 : Nat), .int .u64 (j3 : Nat)] 25)
  replace xb := xb.alloc (.cells #[.int .u64 (j0 : Nat), .int .u64 (j1 : Nat), .int .u64 (j2 : Nat), .int .u64 (j3 : Nat)] 25)
  replace xk := xk.alloc (.cells #[.int .u64 (j0 : Nat), .int .u64 (j1 : Nat), .int .u64 (j2 : Nat), .int .u64 (j3 : Nat)] 25)
  replace HH := HH.later ((Below.refl _ _).alloc (Nat.le_refl _) (.cells #[.int .u64 (j0 : Nat), .int .u64 (j1 : Nat), .int .u64 (j2 : Nat), .int .u64 (j3 : Nat)] 25))
  have xj := Box.new (w4) (j0 : Nat) (j1 : Nat) (j2 : Nat) (j3 : Nat) 25
  have PC := below_alloc PB (.cells #[.int .u64 (j0 : Nat), .int .u64 (j1 : Nat), .int .u64 (j2 : Nat), .int .u64 (j3 : Nat)] 25)
  clear PB
  have PB := PC
  clear PC
  generalize (w4).alloc (.cells #[.int .u64 (j0 : Nat), .int .u64 (j1 : Nat), .int .u64 (j2 : Nat), .int .u64 (j3 : Nat)] 25) = W5 at *
  generalize w4.heap.size = Bj at *
  refine (LESS1H.out _).mono ?_
  rintro e w6 ⟨rfl, hc⟩
  replace xa := xa.later hc
  replace xb := xb.later hc
  replace xk := xk.later hc
  replace xj := xj.later hc
  replace HH := HH.later hc
  have PC := below_step PB hc
  clear PB hc
  have PB := PC
  clear PC
  have ca := xa
  obtain ⟨ca0, ca1, ca2, ca3⟩ := ca
  have la := World.block_lt_of_cell? _ _ ca0
  simp only [] at la
  have cb := xb
  obtain ⟨cb0, cb1, cb2, cb3⟩ := cb
  have lb := World.block_lt_of_cell? _ _ cb0
  simp only [] at lb
  have HPB := Lib.hid PB
  clear PB
  go_wp2_with fail
  have PB := HPB.out
  clear HPB
  clear ca0 ca1 ca2 ca3 cb0 cb1 cb2 cb3 la lb
  replace xa := xa.alloc (.cells #[.int .u64 0, .int .u64 0, .int .u64 0, .int .u64 0] 25)
  replace xb := xb.alloc (.cells #[.int .u64 0, .int .u64 0, .int .u64 0, .int .u64 0] 25)
  replace xk := xk.alloc (.cells #[.int .u64 0, .int .u64 0, .int .u64 0, .int .u64 0] 25)
  replace xj := xj.alloc (.cells #[.int .u64 0, .int .u64 0, .int .u64 0, .int .u64 0] 25)
  replace HH := HH.later ((Below.refl _ _).alloc (Nat.le_refl _) (.cells #[.int .u64 0, .int .u64 0, .int .u64 0, .int .u64 0] 25))
  have xn := Box.new (w6) 0 0 0 0 25
  have PC := below_alloc PB (.cells #[.int .u64 0, .int .u64 0, .int .u64 0, .int .u64 0] 25)
  clear PB
  have PB := PC
  clear PC
  generalize (w6).alloc (.cells #[.int .u64 0, .int .u64 0, .int .u64 0, .int .u64 0] 25) = W7 at *
  generalize w6.heap.size = Bn at *
  refine (LESS1H.out _).mono ?_
  rintro e w8 ⟨rfl, hc⟩
  replace xa := xa.later hc
  replace xb := xb.later hc
  replace xk := xk.later hc
  replace xj := xj.later hc
  replace xn := xn.later hc
  replace HH := HH.later hc
  have PC := below_step PB hc
  clear PB hc
  have PB := PC
  clear PC
  have HPB := Lib.hid PB
  clear PB
  go_wp2_with fail
  have PB := HPB.out
  clear HPB
  have HPB := Lib.hid PB
  clear PB
  refine wp_region_grow 6 (by kernel_rfl) (Nat.le_of_ble_eq_true (by kernel_rfl)) (by kernel_rfl) (by kernel_rfl) (fun _ _ _ _ _ h => h) ?_
  apply Exists.intro
  refine ⟨?_, ?_⟩
  · intro wg hg
    simp only [List.take_succ_cons, List.take_zero]
    have ca := xa.later hg
    obtain ⟨ca0, ca1, ca2, ca3⟩ := ca
    have ua0 : ∀ u : After wg, u.w.cell? ⟨w.heap.size, 0, none⟩ = some (.int .u64 (a0 : Nat)) := fun u => u.cell ca0
    have ua1 : ∀ u : After wg, u.w.cell? ⟨w.heap.size, 1, none⟩ = some (.int .u64 (a1 : Nat)) := fun u => u.cell ca1
    have ua2 : ∀ u : After wg, u.w.cell? ⟨w.heap.size, 2, none⟩ = some (.int .u64 (a2 : Nat)) := fun u => u.cell ca2
    have ua3 : ∀ u : After wg, u.w.cell? ⟨w.heap.size, 3, none⟩ = some (.int .u64 (a3 : Nat)) := fun u => u.cell ca3
    repeat (go_big_quiet_step ((first | (go_at_call 24; exact after_call (of_int 1 _)) | (go_at_call 23; exact after_call (ADDH.out.one _)))))
    refine wpQuiet_nil ?_
    exact rfl
  intro wg hg
  show wpK _ _ _ _ _ 3 _ _ _
  refine wpK_box1 (f := 2) (i := 6) (c := #[.int .u64 0, .int .u64 0, .int .u64 0, .int .u64 0]) (T := 25) (by kernel_rfl) rfl rfl rfl (fun w => by go_simp) hg ?_
  intro Bd wh gh ld Hd
  replace ld := Nat.le_trans hg.size ld
  have ge := hg.trans gh
  clear hg gh
  refine wpK_one (f := 1) (i := 7) (by kernel_rfl) rfl rfl ?_
  intro wc gc K hK
  replace ge := ge.trans gc
  replace Hd := Hd.later gc
  have ic0 : wc.cell? ⟨Bd, 0, none⟩ = some (.int .u64 0) := Hd.cell 0
  have iz0 : wc.frozen? ⟨Bd, 0, none⟩ = false := Hd.free 0
  have ic1 : wc.cell? ⟨Bd, 1, none⟩ = some (.int .u64 0) := Hd.cell 1
  have iz1 : wc.frozen? ⟨Bd, 1, none⟩ = false := Hd.free 1
  have ic2 : wc.cell? ⟨Bd, 2, none⟩ = some (.int .u64 0) := Hd.cell 2
  have iz2 : wc.frozen? ⟨Bd, 2, none⟩ = false := Hd.free 2
  have ic3 : wc.cell? ⟨Bd, 3, none⟩ = some (.int .u64 0) := Hd.cell 3
  have iz3 : wc.frozen? ⟨Bd, 3, none⟩ = false := Hd.free 3
  have HGE := Lib.hid ge
  clear ge gc
  go_simp
  have ge : Grows w8 ((((wc.setCell ⟨Bd, 0, none⟩ (.int .u64 (d0 : Nat))).setCell ⟨Bd, 1, none⟩ (.int .u64 (d1 : Nat))).setCell ⟨Bd, 2, none⟩ (.int .u64 (d2 : Nat))).setCell ⟨Bd, 3, none⟩ (.int .u64 (d3 : Nat))) := (((HGE.out.setCell ld _).setCell ld _).setCell ld _).setCell ld _
  replace Hd : Holds ((((wc.setCell ⟨Bd, 0, none⟩ (.int .u64 (d0 : Nat))).setCell ⟨Bd, 1, none⟩ (.int .u64 (d1 : Nat))).setCell ⟨Bd, 2, none⟩ (.int .u64 (d2 : Nat))).setCell ⟨Bd, 3, none⟩ (.int .u64 (d3 : Nat))) Bd #[.int .u64 (d0 : Nat), .int .u64 (d1 : Nat), .int .u64 (d2 : Nat), .int .u64 (d3 : Nat)] 25 := (((Hd.set _).set _).set _).set _
  clear ic0 ic1 ic2 ic3 iz0 iz1 iz2 iz3 HGE
  refine hK _ _ ge ?_
  clear hK K
  generalize (((wc.setCell ⟨Bd, 0, none⟩ (.int .u64 (d0 : Nat))).setCell ⟨Bd, 1, none⟩ (.int .u64 (d1 : Nat))).setCell ⟨Bd, 2, none⟩ (.int .u64 (d2 : Nat))).setCell ⟨Bd, 3, none⟩ (.int .u64 (d3 : Nat)) = wd at *
  clear wc
  refine wpK_one (f := 0) (i := 8) (by kernel_rfl) rfl rfl ?_
  intro wc gc K hK
  go_simp
  replace Hd := Hd.later gc
  replace ge := ge.trans gc
  refine hK _ _ ge ?_
  clear hK K gc
  refine wpK_end (by kernel_rfl) ?_
  intro W9 gf
  replace Hd := Hd.later gf
  replace ge := ge.trans gf
  clear gf
  replace xa := xa.later ge
  replace xb := xb.later ge
  replace xk := xk.later ge
  replace xj := xj.later ge
  replace xn := xn.later ge
  replace HH := HH.later ge
  have PB := below_step HPB.out ge
  clear ge HPB
  have xd : Box W9 Bd (d0 : Nat) (d1 : Nat) (d2 : Nat) (d3 : Nat) := ⟨Hd.cell 0, Hd.cell 1, Hd.cell 2, Hd.cell 3⟩
  clear Hd
  clear ld
  have ca := xa
  obtain ⟨ca0, ca1, ca2, ca3⟩ := ca
  have la := World.block_lt_of_cell? _ _ ca0
  simp only [] at la
  have cn := xn
  obtain ⟨cn0, cn1, cn2, cn3⟩ := cn
  have ln := World.block_lt_of_cell? _ _ cn0
  simp only [] at ln
  have cd := xd
  obtain ⟨cd0, cd1, cd2, cd3⟩ := cd
  have ld := World.block_lt_of_cell? _ _ cd0
  simp only [] at ld
  have HPB := Lib.hid PB
  clear PB
  go_wp2_with fail
  have PB := HPB.out
  clear HPB
  clear ca0 ca1 ca2 ca3 cn0 cn1 cn2 cn3 cd0 cd1 cd2 cd3 la ln ld
  refine (SUB1H.out.none _).mono ?_
  rintro e w10 ⟨rfl, hc⟩
  replace xa := xa.later hc
  replace xb := xb.later hc
  replace xk := xk.later hc
  replace xj := xj.later hc
  replace xn := xn.later hc
  replace xd := xd.later hc
  replace HH := HH.later hc
  have PC := below_step PB hc
  clear PB hc
  have PB := PC
  clear PC
  have HPB := Lib.hid PB
  clear PB
  go_wp2_with fail
  have PB := HPB.out
  clear HPB
  replace xa := xa.alloc (.cells #[.int .u64 (r0 : Nat), .int .u64 (r1 : Nat), .int .u64 (r2 : Nat), .int .u64 (r3 : Nat)] 25)
  replace xb := xb.alloc (.cells #[.int .u64 (r0 : Nat), .int .u64 (r1 : Nat), .int .u64 (r2 : Nat), .int .u64 (r3 : Nat)] 25)
  replace xk := xk.alloc (.cells #[.int .u64 (r0 : Nat), .int .u64 (r1 : Nat), .int .u64 (r2 : Nat), .int .u64 (r3 : Nat)] 25)
  replace xj := xj.alloc (.cells #[.int .u64 (r0 : Nat), .int .u64 (r1 : Nat), .int .u64 (r2 : Nat), .int .u64 (r3 : Nat)] 25)
  replace xn := xn.alloc (.cells #[.int .u64 (r0 : Nat), .int .u64 (r1 : Nat), .int .u64 (r2 : Nat), .int .u64 (r3 : Nat)] 25)
  replace xd := xd.alloc (.cells #[.int .u64 (r0 : Nat), .int .u64 (r1 : Nat), .int .u64 (r2 : Nat), .int .u64 (r3 : Nat)] 25)
  replace HH := HH.later ((Below.refl _ _).alloc (Nat.le_refl _) (.cells #[.int .u64 (r0 : Nat), .int .u64 (r1 : Nat), .int .u64 (r2 : Nat), .int .u64 (r3 : Nat)] 25))
  have xr := Box.new (w10) (r0 : Nat) (r1 : Nat) (r2 : Nat) (r3 : Nat) 25
  have PC := below_alloc PB (.cells #[.int .u64 (r0 : Nat), .int .u64 (r1 : Nat), .int .u64 (r2 : Nat), .int .u64 (r3 : Nat)] 25)
  clear PB
  have PB := PC
  clear PC
  generalize (w10).alloc (.cells #[.int .u64 (r0 : Nat), .int .u64 (r1 : Nat), .int .u64 (r2 : Nat), .int .u64 (r3 : Nat)] 25) = W11 at *
  generalize w10.heap.size = Br at *
  have HPB := Lib.hid PB
  clear PB
  refine wp_region_grow 6 (by kernel_rfl) (Nat.le_of_ble_eq_true (by kernel_rfl)) (by kernel_rfl) (by kernel_rfl) (fun _ _ _ _ _ h => h) ?_
  apply Exists.intro
  refine ⟨?_, ?_⟩
  · intro wg hg
    simp only [List.take_succ_cons, List.take_zero]
    have ck := xk.later hg
    obtain ⟨ck0, ck1, ck2, ck3⟩ := ck
    have uk0 : ∀ u : After wg, u.w.cell? ⟨Bk, 0, none⟩ = some (.int .u64 (k0 : Nat)) := fun u => u.cell ck0
    have uk1 : ∀ u : After wg, u.w.cell? ⟨Bk, 1, none⟩ = some (.int .u64 (k1 : Nat)) := fun u => u.cell ck1
    have uk2 : ∀ u : After wg, u.w.cell? ⟨Bk, 2, none⟩ = some (.int .u64 (k2 : Nat)) := fun u => u.cell ck2
    have uk3 : ∀ u : After wg, u.w.cell? ⟨Bk, 3, none⟩ = some (.int .u64 (k3 : Nat)) := fun u => u.cell ck3
    repeat (go_big_quiet_step ((first | (go_at_call 24; exact after_call (of_int 1 _)) | (go_at_call 21; exact after_call (SUB2H.out.one _)))))
    refine wpQuiet_nil ?_
    exact rfl
  intro wg hg
  show wpK _ _ _ _ _ 3 _ _ _
  refine wpK_box1 (f := 2) (i := 6) (c := #[.int .u64 0, .int .u64 0, .int .u64 0, .int .u64 0]) (T := 25) (by kernel_rfl) rfl rfl rfl (fun w => by go_simp) hg ?_
  intro Bl wh gh ll Hl
  replace ll := Nat.le_trans hg.size ll
  have ge := hg.trans gh
  clear hg gh
  refine wpK_one (f := 1) (i := 7) (by kernel_rfl) rfl rfl ?_
  intro wc gc K hK
  replace ge := ge.trans gc
  replace Hl := Hl.later gc
  have ic0 : wc.cell? ⟨Bl, 0, none⟩ = some (.int .u64 0) := Hl.cell 0
  have iz0 : wc.frozen? ⟨Bl, 0, none⟩ = false := Hl.free 0
  have ic1 : wc.cell? ⟨Bl, 1, none⟩ = some (.int .u64 0) := Hl.cell 1
  have iz1 : wc.frozen? ⟨Bl, 1, none⟩ = false := Hl.free 1
  have ic2 : wc.cell? ⟨Bl, 2, none⟩ = some (.int .u64 0) := Hl.cell 2
  have iz2 : wc.frozen? ⟨Bl, 2, none⟩ = false := Hl.free 2
  have ic3 : wc.cell? ⟨Bl, 3, none⟩ = some (.int .u64 0) := Hl.cell 3
  have iz3 : wc.frozen? ⟨Bl, 3, none⟩ = false := Hl.free 3
  have HGE := Lib.hid ge
  clear ge gc
  go_simp
  have ge : Grows W11 ((((wc.setCell ⟨Bl, 0, none⟩ (.int .u64 (l0 : Nat))).setCell ⟨Bl, 1, none⟩ (.int .u64 (l1 : Nat))).setCell ⟨Bl, 2, none⟩ (.int .u64 (l2 : Nat))).setCell ⟨Bl, 3, none⟩ (.int .u64 (l3 : Nat))) := (((HGE.out.setCell ll _).setCell ll _).setCell ll _).setCell ll _
  replace Hl : Holds ((((wc.setCell ⟨Bl, 0, none⟩ (.int .u64 (l0 : Nat))).setCell ⟨Bl, 1, none⟩ (.int .u64 (l1 : Nat))).setCell ⟨Bl, 2, none⟩ (.int .u64 (l2 : Nat))).setCell ⟨Bl, 3, none⟩ (.int .u64 (l3 : Nat))) Bl #[.int .u64 (l0 : Nat), .int .u64 (l1 : Nat), .int .u64 (l2 : Nat), .int .u64 (l3 : Nat)] 25 := (((Hl.set _).set _).set _).set _
  clear ic0 ic1 ic2 ic3 iz0 iz1 iz2 iz3 HGE
  refine hK _ _ ge ?_
  clear hK K
  generalize (((wc.setCell ⟨Bl, 0, none⟩ (.int .u64 (l0 : Nat))).setCell ⟨Bl, 1, none⟩ (.int .u64 (l1 : Nat))).setCell ⟨Bl, 2, none⟩ (.int .u64 (l2 : Nat))).setCell ⟨Bl, 3, none⟩ (.int .u64 (l3 : Nat)) = wd at *
  clear wc
  refine wpK_one (f := 0) (i := 8) (by kernel_rfl) rfl rfl ?_
  intro wc gc K hK
  go_simp
  replace Hl := Hl.later gc
  replace ge := ge.trans gc
  refine hK _ _ ge ?_
  clear hK K gc
  refine wpK_end (by kernel_rfl) ?_
  intro W12 gf
  replace Hl := Hl.later gf
  replace ge := ge.trans gf
  clear gf
  replace xa := xa.later ge
  replace xb := xb.later ge
  replace xk := xk.later ge
  replace xj := xj.later ge
  replace xn := xn.later ge
  replace xd := xd.later ge
  replace xr := xr.later ge
  replace HH := HH.later ge
  have PB := below_step HPB.out ge
  clear ge HPB
  have xl : Box W12 Bl (l0 : Nat) (l1 : Nat) (l2 : Nat) (l3 : Nat) := ⟨Hl.cell 0, Hl.cell 1, Hl.cell 2, Hl.cell 3⟩
  clear Hl
  clear ll
  have cr := xr
  obtain ⟨cr0, cr1, cr2, cr3⟩ := cr
  have lr := World.block_lt_of_cell? _ _ cr0
  simp only [] at lr
  have cd := xd
  obtain ⟨cd0, cd1, cd2, cd3⟩ := cd
  have ld := World.block_lt_of_cell? _ _ cd0
  simp only [] at ld
  have HPB := Lib.hid PB
  clear PB
  go_wp2_with fail
  have PB := HPB.out
  clear HPB
  clear cr0 cr1 cr2 cr3 cd0 cd1 cd2 cd3 lr ld
  refine (DIVH.out _).mono ?_
  rintro e w13 ⟨rfl, hc⟩
  replace xa := xa.later hc
  replace xb := xb.later hc
  replace xk := xk.later hc
  replace xj := xj.later hc
  replace xn := xn.later hc
  replace xd := xd.later hc
  replace xr := xr.later hc
  replace xl := xl.later hc
  replace HH := HH.later hc
  have PC := below_step PB hc
  clear PB hc
  have PB := PC
  clear PC
  have cl := xl
  obtain ⟨cl0, cl1, cl2, cl3⟩ := cl
  have ll := World.block_lt_of_cell? _ _ cl0
  simp only [] at ll
  have ck := xk
  obtain ⟨ck0, ck1, ck2, ck3⟩ := ck
  have lk := World.block_lt_of_cell? _ _ ck0
  simp only [] at lk
  have cn := xn
  obtain ⟨cn0, cn1, cn2, cn3⟩ := cn
  have ln := World.block_lt_of_cell? _ _ cn0
  simp only [] at ln
  have HPB := Lib.hid PB
  clear PB
  go_wp2_with fail
  have PB := HPB.out
  clear HPB
  clear cl0 cl1 cl2 cl3 ck0 ck1 ck2 ck3 cn0 cn1 cn2 cn3 ll lk ln
  replace xa := xa.alloc (.cells #[.int .u64 (l0 : Nat), .int .u64 (l1 : Nat), .int .u64 (l2 : Nat), .int .u64 (l3 : Nat)] 25)
  replace xb := xb.alloc (.cells #[.int .u64 (l0 : Nat), .int .u64 (l1 : Nat), .int .u64 (l2 : Nat), .int .u64 (l3 : Nat)] 25)
  replace xk := xk.alloc (.cells #[.int .u64 (l0 : Nat), .int .u64 (l1 : Nat), .int .u64 (l2 : Nat), .int .u64 (l3 : Nat)] 25)
  replace xj := xj.alloc (.cells #[.int .u64 (l0 : Nat), .int .u64 (l1 : Nat), .int .u64 (l2 : Nat), .int .u64 (l3 : Nat)] 25)
  replace xn := xn.alloc (.cells #[.int .u64 (l0 : Nat), .int .u64 (l1 : Nat), .int .u64 (l2 : Nat), .int .u64 (l3 : Nat)] 25)
  replace xd := xd.alloc (.cells #[.int .u64 (l0 : Nat), .int .u64 (l1 : Nat), .int .u64 (l2 : Nat), .int .u64 (l3 : Nat)] 25)
  replace xr := xr.alloc (.cells #[.int .u64 (l0 : Nat), .int .u64 (l1 : Nat), .int .u64 (l2 : Nat), .int .u64 (l3 : Nat)] 25)
  replace xl := xl.alloc (.cells #[.int .u64 (l0 : Nat), .int .u64 (l1 : Nat), .int .u64 (l2 : Nat), .int .u64 (l3 : Nat)] 25)
  replace HH := HH.later ((Below.refl _ _).alloc (Nat.le_refl _) (.cells #[.int .u64 (l0 : Nat), .int .u64 (l1 : Nat), .int .u64 (l2 : Nat), .int .u64 (l3 : Nat)] 25))
  have xq := Box.new (w13) (l0 : Nat) (l1 : Nat) (l2 : Nat) (l3 : Nat) 25
  have PC := below_alloc PB (.cells #[.int .u64 (l0 : Nat), .int .u64 (l1 : Nat), .int .u64 (l2 : Nat), .int .u64 (l3 : Nat)] 25)
  clear PB
  have PB := PC
  clear PC
  replace xa := xa.alloc (.cells #[.int .u64 (x0 : Nat), .int .u64 (x1 : Nat), .int .u64 (x2 : Nat), .int .u64 (x3 : Nat)] 25)
  replace xb := xb.alloc (.cells #[.int .u64 (x0 : Nat), .int .u64 (x1 : Nat), .int .u64 (x2 : Nat), .int .u64 (x3 : Nat)] 25)
  replace xk := xk.alloc (.cells #[.int .u64 (x0 : Nat), .int .u64 (x1 : Nat), .int .u64 (x2 : Nat), .int .u64 (x3 : Nat)] 25)
  replace xj := xj.alloc (.cells #[.int .u64 (x0 : Nat), .int .u64 (x1 : Nat), .int .u64 (x2 : Nat), .int .u64 (x3 : Nat)] 25)
  replace xn := xn.alloc (.cells #[.int .u64 (x0 : Nat), .int .u64 (x1 : Nat), .int .u64 (x2 : Nat), .int .u64 (x3 : Nat)] 25)
  replace xd := xd.alloc (.cells #[.int .u64 (x0 : Nat), .int .u64 (x1 : Nat), .int .u64 (x2 : Nat), .int .u64 (x3 : Nat)] 25)
  replace xr := xr.alloc (.cells #[.int .u64 (x0 : Nat), .int .u64 (x1 : Nat), .int .u64 (x2 : Nat), .int .u64 (x3 : Nat)] 25)
  replace xl := xl.alloc (.cells #[.int .u64 (x0 : Nat), .int .u64 (x1 : Nat), .int .u64 (x2 : Nat), .int .u64 (x3 : Nat)] 25)
  replace xq := xq.alloc (.cells #[.int .u64 (x0 : Nat), .int .u64 (x1 : Nat), .int .u64 (x2 : Nat), .int .u64 (x3 : Nat)] 25)
  replace HH := HH.later ((Below.refl _ _).alloc (Nat.le_refl _) (.cells #[.int .u64 (x0 : Nat), .int .u64 (x1 : Nat), .int .u64 (x2 : Nat), .int .u64 (x3 : Nat)] 25))
  have xx := Box.new ((w13).alloc (.cells #[.int .u64 (l0 : Nat), .int .u64 (l1 : Nat), .int .u64 (l2 : Nat), .int .u64 (l3 : Nat)] 25)) (x0 : Nat) (x1 : Nat) (x2 : Nat) (x3 : Nat) 25
  simp only [World.size_alloc] at xx
  have PC := below_alloc PB (.cells #[.int .u64 (x0 : Nat), .int .u64 (x1 : Nat), .int .u64 (x2 : Nat), .int .u64 (x3 : Nat)] 25)
  clear PB
  have PB := PC
  clear PC
  generalize ((w13).alloc (.cells #[.int .u64 (l0 : Nat), .int .u64 (l1 : Nat), .int .u64 (l2 : Nat), .int .u64 (l3 : Nat)] 25)).alloc (.cells #[.int .u64 (x0 : Nat), .int .u64 (x1 : Nat), .int .u64 (x2 : Nat), .int .u64 (x3 : Nat)] 25) = W14 at *
  generalize w13.heap.size + 1 = Bx at *
  generalize w13.heap.size = Bq at *
  refine (works_any _).mono ?_
  rintro e w15 ⟨rfl, hc⟩
  replace xa := xa.later hc
  replace xb := xb.later hc
  replace xk := xk.later hc
  replace xj := xj.later hc
  replace xn := xn.later hc
  replace xd := xd.later hc
  replace xr := xr.later hc
  replace xl := xl.later hc
  replace xq := xq.later hc
  replace xx := xx.later hc
  replace HH := HH.later hc
  have PC := below_step PB hc
  clear PB hc
  have PB := PC
  clear PC
  have HPB := Lib.hid PB
  clear PB
  go_wp2_with fail
  have PB := HPB.out
  clear HPB
  go_ret
  exact ⟨rfl, PB⟩

set_option maxRecDepth 100000 in
set_option maxHeartbeats 16000000 in
theorem order_f_t_t_f (hb : Nat → Nat) (a0 a1 a2 a3 b0 b1 b2 b3 k0 k1 k2 k3 j0 j1 j2 j3 d0 d1 d2 d3 r0 r1 r2 r3 l0 l1 l2 l3 x0 x1 x2 x3 : Nat) (o : Bool) (w : World) (wa : WorkIs a0 a1 a2 a3 k0 k1 k2 k3) (wb : WorkIs b0 b1 b2 b3 j0 j1 j2 j3) (less1 : LessIs a0 a1 a2 a3 b0 b1 b2 b3 true) (less2 : LessIs k0 k1 k2 k3 j0 j1 j2 j3 false) (ea : EqZ a0 a1 a2 a3 false) (ma : MeetsIs hb a0 a1 a2 a3 true) (mb : MeetsIs hb b0 b1 b2 b3 true) (add : AddIs a0 a1 a2 a3 1 0 0 0 d0 d1 d2 d3 false) (sub1 : SubIs 0 0 0 0 d0 d1 d2 d3 r0 r1 r2 r3 o) (sub2 : SubIs k0 k1 k2 k3 1 0 0 0 l0 l1 l2 l3 false) (div : DivIs r0 r1 r2 r3 d0 d1 d2 d3 l0 l1 l2 l3 x0 x1 x2 x3) (el : EqIs l0 l1 l2 l3 l0 l1 l2 l3 true) (ekz : EqZ k0 k1 k2 k3 false) :
    Calls Try.prog 6 #[.agg #[.int .u64 (a0 : Nat), .int .u64 (a1 : Nat), .int .u64 (a2 : Nat), .int .u64 (a3 : Nat)], .agg #[.int .u64 (b0 : Nat), .int .u64 (b1 : Nat), .int .u64 (b2 : Nat), .int .u64 (b3 : Nat)], .agg #[.int .u8 (hb 0 : Nat), .int .u8 (hb 1 : Nat), .int .u8 (hb 2 : Nat), .int .u8 (hb 3 : Nat), .int .u8 (hb 4 : Nat), .int .u8 (hb 5 : Nat), .int .u8 (hb 6 : Nat), .int .u8 (hb 7 : Nat), .int .u8 (hb 8 : Nat), .int .u8 (hb 9 : Nat), .int .u8 (hb 10 : Nat), .int .u8 (hb 11 : Nat), .int .u8 (hb 12 : Nat), .int .u8 (hb 13 : Nat), .int .u8 (hb 14 : Nat), .int .u8 (hb 15 : Nat), .int .u8 (hb 16 : Nat), .int .u8 (hb 17 : Nat), .int .u8 (hb 18 : Nat), .int .u8 (hb 19 : Nat), .int .u8 (hb 20 : Nat), .int .u8 (hb 21 : Nat), .int .u8 (hb 22 : Nat), .int .u8 (hb 23 : Nat), .int .u8 (hb 24 : Nat), .int .u8 (hb 25 : Nat), .int .u8 (hb 26 : Nat), .int .u8 (hb 27 : Nat), .int .u8 (hb 28 : Nat), .int .u8 (hb 29 : Nat), .int .u8 (hb 30 : Nat), .int .u8 (hb 31 : Nat)]] w fun e w' => e = .returned (.bool true) ∧ Below w.heap.size w w' := by
  have WAH := Lib.hid wa
  have WBH := Lib.hid wb
  have LESS1H := Lib.hid less1
  have LESS2H := Lib.hid less2
  have MAH := Lib.hid ma
  have MBH := Lib.hid mb
  have ADDH := Lib.hid add
  have SUB1H := Lib.hid sub1
  have SUB2H := Lib.hid sub2
  have DIVH := Lib.hid div
  clear wa wb less1 less2 ma mb add sub1 sub2 div
  unfold EqZ at ea
  unfold EqIs at el
  unfold EqZ at ekz
  go_enter Try.func6, Try.ntmps6
  go_wp2_with fail
  have PB : Below w.heap.size w (((w.alloc (.cells #[.int .u64 (a0 : Nat), .int .u64 (a1 : Nat), .int .u64 (a2 : Nat), .int .u64 (a3 : Nat)] 25)).alloc (.cells #[.int .u64 (b0 : Nat), .int .u64 (b1 : Nat), .int .u64 (b2 : Nat), .int .u64 (b3 : Nat)] 25)).alloc (.cells #[.int .u8 (hb 0 : Nat), .int .u8 (hb 1 : Nat), .int .u8 (hb 2 : Nat), .int .u8 (hb 3 : Nat), .int .u8 (hb 4 : Nat), .int .u8 (hb 5 : Nat), .int .u8 (hb 6 : Nat), .int .u8 (hb 7 : Nat), .int .u8 (hb 8 : Nat), .int .u8 (hb 9 : Nat), .int .u8 (hb 10 : Nat), .int .u8 (hb 11 : Nat), .int .u8 (hb 12 : Nat), .int .u8 (hb 13 : Nat), .int .u8 (hb 14 : Nat), .int .u8 (hb 15 : Nat), .int .u8 (hb 16 : Nat), .int .u8 (hb 17 : Nat), .int .u8 (hb 18 : Nat), .int .u8 (hb 19 : Nat), .int .u8 (hb 20 : Nat), .int .u8 (hb 21 : Nat), .int .u8 (hb 22 : Nat), .int .u8 (hb 23 : Nat), .int .u8 (hb 24 : Nat), .int .u8 (hb 25 : Nat), .int .u8 (hb 26 : Nat), .int .u8 (hb 27 : Nat), .int .u8 (hb 28 : Nat), .int .u8 (hb 29 : Nat), .int .u8 (hb 30 : Nat), .int .u8 (hb 31 : Nat)] 32)) := (((Below.refl _ _).alloc (Nat.le_refl _) _).alloc (by simp) _).alloc (by simp; omega) _
  have xa : Box (((w.alloc (.cells #[.int .u64 (a0 : Nat), .int .u64 (a1 : Nat), .int .u64 (a2 : Nat), .int .u64 (a3 : Nat)] 25)).alloc (.cells #[.int .u64 (b0 : Nat), .int .u64 (b1 : Nat), .int .u64 (b2 : Nat), .int .u64 (b3 : Nat)] 25)).alloc (.cells #[.int .u8 (hb 0 : Nat), .int .u8 (hb 1 : Nat), .int .u8 (hb 2 : Nat), .int .u8 (hb 3 : Nat), .int .u8 (hb 4 : Nat), .int .u8 (hb 5 : Nat), .int .u8 (hb 6 : Nat), .int .u8 (hb 7 : Nat), .int .u8 (hb 8 : Nat), .int .u8 (hb 9 : Nat), .int .u8 (hb 10 : Nat), .int .u8 (hb 11 : Nat), .int .u8 (hb 12 : Nat), .int .u8 (hb 13 : Nat), .int .u8 (hb 14 : Nat), .int .u8 (hb 15 : Nat), .int .u8 (hb 16 : Nat), .int .u8 (hb 17 : Nat), .int .u8 (hb 18 : Nat), .int .u8 (hb 19 : Nat), .int .u8 (hb 20 : Nat), .int .u8 (hb 21 : Nat), .int .u8 (hb 22 : Nat), .int .u8 (hb 23 : Nat), .int .u8 (hb 24 : Nat), .int .u8 (hb 25 : Nat), .int .u8 (hb 26 : Nat), .int .u8 (hb 27 : Nat), .int .u8 (hb 28 : Nat), .int .u8 (hb 29 : Nat), .int .u8 (hb 30 : Nat), .int .u8 (hb 31 : Nat)] 32)) w.heap.size a0 a1 a2 a3 := ((Box.new w (a0 : Nat) (a1 : Nat) (a2 : Nat) (a3 : Nat) 25).alloc _).alloc _
  have xb : Box (((w.alloc (.cells #[.int .u64 (a0 : Nat), .int .u64 (a1 : Nat), .int .u64 (a2 : Nat), .int .u64 (a3 : Nat)] 25)).alloc (.cells #[.int .u64 (b0 : Nat), .int .u64 (b1 : Nat), .int .u64 (b2 : Nat), .int .u64 (b3 : Nat)] 25)).alloc (.cells #[.int .u8 (hb 0 : Nat), .int .u8 (hb 1 : Nat), .int .u8 (hb 2 : Nat), .int .u8 (hb 3 : Nat), .int .u8 (hb 4 : Nat), .int .u8 (hb 5 : Nat), .int .u8 (hb 6 : Nat), .int .u8 (hb 7 : Nat), .int .u8 (hb 8 : Nat), .int .u8 (hb 9 : Nat), .int .u8 (hb 10 : Nat), .int .u8 (hb 11 : Nat), .int .u8 (hb 12 : Nat), .int .u8 (hb 13 : Nat), .int .u8 (hb 14 : Nat), .int .u8 (hb 15 : Nat), .int .u8 (hb 16 : Nat), .int .u8 (hb 17 : Nat), .int .u8 (hb 18 : Nat), .int .u8 (hb 19 : Nat), .int .u8 (hb 20 : Nat), .int .u8 (hb 21 : Nat), .int .u8 (hb 22 : Nat), .int .u8 (hb 23 : Nat), .int .u8 (hb 24 : Nat), .int .u8 (hb 25 : Nat), .int .u8 (hb 26 : Nat), .int .u8 (hb 27 : Nat), .int .u8 (hb 28 : Nat), .int .u8 (hb 29 : Nat), .int .u8 (hb 30 : Nat), .int .u8 (hb 31 : Nat)] 32)) (w.heap.size + 1) b0 b1 b2 b3 := by
    have h := (Box.new (w.alloc (.cells #[.int .u64 (a0 : Nat), .int .u64 (a1 : Nat), .int .u64 (a2 : Nat), .int .u64 (a3 : Nat)] 25)) (b0 : Nat) (b1 : Nat) (b2 : Nat) (b3 : Nat) 25).alloc (.cells #[.int .u8 (hb 0 : Nat), .int .u8 (hb 1 : Nat), .int .u8 (hb 2 : Nat), .int .u8 (hb 3 : Nat), .int .u8 (hb 4 : Nat), .int .u8 (hb 5 : Nat), .int .u8 (hb 6 : Nat), .int .u8 (hb 7 : Nat), .int .u8 (hb 8 : Nat), .int .u8 (hb 9 : Nat), .int .u8 (hb 10 : Nat), .int .u8 (hb 11 : Nat), .int .u8 (hb 12 : Nat), .int .u8 (hb 13 : Nat), .int .u8 (hb 14 : Nat), .int .u8 (hb 15 : Nat), .int .u8 (hb 16 : Nat), .int .u8 (hb 17 : Nat), .int .u8 (hb 18 : Nat), .int .u8 (hb 19 : Nat), .int .u8 (hb 20 : Nat), .int .u8 (hb 21 : Nat), .int .u8 (hb 22 : Nat), .int .u8 (hb 23 : Nat), .int .u8 (hb 24 : Nat), .int .u8 (hb 25 : Nat), .int .u8 (hb 26 : Nat), .int .u8 (hb 27 : Nat), .int .u8 (hb 28 : Nat), .int .u8 (hb 29 : Nat), .int .u8 (hb 30 : Nat), .int .u8 (hb 31 : Nat)] 32)
    simpa using h
  have HH : Holds (((w.alloc (.cells #[.int .u64 (a0 : Nat), .int .u64 (a1 : Nat), .int .u64 (a2 : Nat), .int .u64 (a3 : Nat)] 25)).alloc (.cells #[.int .u64 (b0 : Nat), .int .u64 (b1 : Nat), .int .u64 (b2 : Nat), .int .u64 (b3 : Nat)] 25)).alloc (.cells #[.int .u8 (hb 0 : Nat), .int .u8 (hb 1 : Nat), .int .u8 (hb 2 : Nat), .int .u8 (hb 3 : Nat), .int .u8 (hb 4 : Nat), .int .u8 (hb 5 : Nat), .int .u8 (hb 6 : Nat), .int .u8 (hb 7 : Nat), .int .u8 (hb 8 : Nat), .int .u8 (hb 9 : Nat), .int .u8 (hb 10 : Nat), .int .u8 (hb 11 : Nat), .int .u8 (hb 12 : Nat), .int .u8 (hb 13 : Nat), .int .u8 (hb 14 : Nat), .int .u8 (hb 15 : Nat), .int .u8 (hb 16 : Nat), .int .u8 (hb 17 : Nat), .int .u8 (hb 18 : Nat), .int .u8 (hb 19 : Nat), .int .u8 (hb 20 : Nat), .int .u8 (hb 21 : Nat), .int .u8 (hb 22 : Nat), .int .u8 (hb 23 : Nat), .int .u8 (hb 24 : Nat), .int .u8 (hb 25 : Nat), .int .u8 (hb 26 : Nat), .int .u8 (hb 27 : Nat), .int .u8 (hb 28 : Nat), .int .u8 (hb 29 : Nat), .int .u8 (hb 30 : Nat), .int .u8 (hb 31 : Nat)] 32)) (w.heap.size + 1 + 1) #[.int .u8 (hb 0 : Nat), .int .u8 (hb 1 : Nat), .int .u8 (hb 2 : Nat), .int .u8 (hb 3 : Nat), .int .u8 (hb 4 : Nat), .int .u8 (hb 5 : Nat), .int .u8 (hb 6 : Nat), .int .u8 (hb 7 : Nat), .int .u8 (hb 8 : Nat), .int .u8 (hb 9 : Nat), .int .u8 (hb 10 : Nat), .int .u8 (hb 11 : Nat), .int .u8 (hb 12 : Nat), .int .u8 (hb 13 : Nat), .int .u8 (hb 14 : Nat), .int .u8 (hb 15 : Nat), .int .u8 (hb 16 : Nat), .int .u8 (hb 17 : Nat), .int .u8 (hb 18 : Nat), .int .u8 (hb 19 : Nat), .int .u8 (hb 20 : Nat), .int .u8 (hb 21 : Nat), .int .u8 (hb 22 : Nat), .int .u8 (hb 23 : Nat), .int .u8 (hb 24 : Nat), .int .u8 (hb 25 : Nat), .int .u8 (hb 26 : Nat), .int .u8 (hb 27 : Nat), .int .u8 (hb 28 : Nat), .int .u8 (hb 29 : Nat), .int .u8 (hb 30 : Nat), .int .u8 (hb 31 : Nat)] 32 := by
    have h := Holds.new ((w.alloc (.cells #[.int .u64 (a0 : Nat), .int .u64 (a1 : Nat), .int .u64 (a2 : Nat), .int .u64 (a3 : Nat)] 25)).alloc (.cells #[.int .u64 (b0 : Nat), .int .u64 (b1 : Nat), .int .u64 (b2 : Nat), .int .u64 (b3 : Nat)] 25)) #[.int .u8 (hb 0 : Nat), .int .u8 (hb 1 : Nat), .int .u8 (hb 2 : Nat), .int .u8 (hb 3 : Nat), .int .u8 (hb 4 : Nat), .int .u8 (hb 5 : Nat), .int .u8 (hb 6 : Nat), .int .u8 (hb 7 : Nat), .int .u8 (hb 8 : Nat), .int .u8 (hb 9 : Nat), .int .u8 (hb 10 : Nat), .int .u8 (hb 11 : Nat), .int .u8 (hb 12 : Nat), .int .u8 (hb 13 : Nat), .int .u8 (hb 14 : Nat), .int .u8 (hb 15 : Nat), .int .u8 (hb 16 : Nat), .int .u8 (hb 17 : Nat), .int .u8 (hb 18 : Nat), .int .u8 (hb 19 : Nat), .int .u8 (hb 20 : Nat), .int .u8 (hb 21 : Nat), .int .u8 (hb 22 : Nat), .int .u8 (hb 23 : Nat), .int .u8 (hb 24 : Nat), .int .u8 (hb 25 : Nat), .int .u8 (hb 26 : Nat), .int .u8 (hb 27 : Nat), .int .u8 (hb 28 : Nat), .int .u8 (hb 29 : Nat), .int .u8 (hb 30 : Nat), .int .u8 (hb 31 : Nat)] 32
    simpa using h
  generalize ((w.alloc (.cells #[.int .u64 (a0 : Nat), .int .u64 (a1 : Nat), .int .u64 (a2 : Nat), .int .u64 (a3 : Nat)] 25)).alloc (.cells #[.int .u64 (b0 : Nat), .int .u64 (b1 : Nat), .int .u64 (b2 : Nat), .int .u64 (b3 : Nat)] 25)).alloc (.cells #[.int .u8 (hb 0 : Nat), .int .u8 (hb 1 : Nat), .int .u8 (hb 2 : Nat), .int .u8 (hb 3 : Nat), .int .u8 (hb 4 : Nat), .int .u8 (hb 5 : Nat), .int .u8 (hb 6 : Nat), .int .u8 (hb 7 : Nat), .int .u8 (hb 8 : Nat), .int .u8 (hb 9 : Nat), .int .u8 (hb 10 : Nat), .int .u8 (hb 11 : Nat), .int .u8 (hb 12 : Nat), .int .u8 (hb 13 : Nat), .int .u8 (hb 14 : Nat), .int .u8 (hb 15 : Nat), .int .u8 (hb 16 : Nat), .int .u8 (hb 17 : Nat), .int .u8 (hb 18 : Nat), .int .u8 (hb 19 : Nat), .int .u8 (hb 20 : Nat), .int .u8 (hb 21 : Nat), .int .u8 (hb 22 : Nat), .int .u8 (hb 23 : Nat), .int .u8 (hb 24 : Nat), .int .u8 (hb 25 : Nat), .int .u8 (hb 26 : Nat), .int .u8 (hb 27 : Nat), .int .u8 (hb 28 : Nat), .int .u8 (hb 29 : Nat), .int .u8 (hb 30 : Nat), .int .u8 (hb 31 : Nat)] 32) = W1 at *
  generalize w.heap.size + 1 + 1 = Bh at *
  generalize w.heap.size + 1 = Bb at *
  refine (WAH.out _).mono ?_
  rintro e w2 ⟨rfl, hc⟩
  replace xa := xa.later hc
  replace xb := xb.later hc
  replace HH := HH.later hc
  have PC := below_step PB hc
  clear PB hc
  have PB := PC
  clear PC
  have cb := xb
  obtain ⟨cb0, cb1, cb2, cb3⟩ := cb
  have lb := World.block_lt_of_cell? _ _ cb0
  simp only [] at lb
  have HPB := Lib.hid PB
  clear PB
  go_wp2_with fail
  have PB := HPB.out
  clear HPB
  clear cb0 cb1 cb2 cb3 lb
  replace xa := xa.alloc (.cells #[.int .u64 (k0 : Nat), .int .u64 (k1 : Nat), .int .u64 (k2 : Nat), .int .u64 (k3 : Nat)] 25)
  replace xb := xb.alloc (.cells #[.int .u64 (k0 : Nat), .int .u64 (k1 : Nat), .int .u64 (k2 : Nat), .int .u64 (k3 : Nat)] 25)
  replace HH := HH.later ((Below.refl _ _).alloc (Nat.le_refl _) (.cells #[.int .u64 (k0 : Nat), .int .u64 (k1 : Nat), .int .u64 (k2 : Nat), .int .u64 (k3 : Nat)] 25))
  have xk := Box.new (w2) (k0 : Nat) (k1 : Nat) (k2 : Nat) (k3 : Nat) 25
  have PC := below_alloc PB (.cells #[.int .u64 (k0 : Nat), .int .u64 (k1 : Nat), .int .u64 (k2 : Nat), .int .u64 (k3 : Nat)] 25)
  clear PB
  have PB := PC
  clear PC
  generalize (w2).alloc (.cells #[.int .u64 (k0 : Nat), .int .u64 (k1 : Nat), .int .u64 (k2 : Nat), .int .u64 (k3 : Nat)] 25) = W3 at *
  generalize w2.heap.size = Bk at *
  refine (WBH.out _).mono ?_
  rintro e w4 ⟨rfl, hc⟩
  replace xa := xa.later hc
  replace xb := xb.later hc
  replace xk := xk.later hc
  replace HH := HH.later hc
  have PC := below_step PB hc
  clear PB hc
  have PB := PC
  clear PC
  have ca := xa
  obtain ⟨ca0, ca1, ca2, ca3⟩ := ca
  have la := World.block_lt_of_cell? _ _ ca0
  simp only [] at la
  have cb := xb
  obtain ⟨cb0, cb1, cb2, cb3⟩ := cb
  have lb := World.block_lt_of_cell? _ _ cb0
  simp only [] at lb
  have HPB := Lib.hid PB
  clear PB
  go_wp2_with fail
  have PB := HPB.out
  clear HPB
  clear ca0 ca1 ca2 ca3 cb0 cb1 cb2 cb3 la lb
  replace xa := xa.alloc (.cells #[.int .u64 (j0 : Nat), .int .u64 (j1 : Nat), .int .u64 (j2 : Nat), .int .u64 (j3 : Nat)] 25)
  replace xb := xb.alloc (.cells #[.int .u64 (j0 : Nat), .int .u64 (j1 : Nat), .int .u64 (j2 : Nat), .int .u64 (j3 : Nat)] 25)
  replace xk := xk.alloc (.cells #[.int .u64 (j0 : Nat), .int .u64 (j1 : Nat), .int .u64 (j2 : Nat), .int .u64 (j3 : Nat)] 25)
  replace HH := HH.later ((Below.refl _ _).alloc (Nat.le_refl _) (.cells #[.int .u64 (j0 : Nat), .int .u64 (j1 : Nat), .int .u64 (j2 : Nat), .int .u64 (j3 : Nat)] 25))
  have xj := Box.new (w4) (j0 : Nat) (j1 : Nat) (j2 : Nat) (j3 : Nat) 25
  have PC := below_alloc PB (.cells #[.int .u64 (j0 : Nat), .int .u64 (j1 : Nat), .int .u64 (j2 : Nat), .int .u64 (j3 : Nat)] 25)
  clear PB
  have PB := PC
  clear PC
  generalize (w4).alloc (.cells #[.int .u64 (j0 : Nat), .int .u64 (j1 : Nat), .int .u64 (j2 : Nat), .int .u64 (j3 : Nat)] 25) = W5 at *
  generalize w4.heap.size = Bj at *
  refine (LESS1H.out _).mono ?_
  rintro e w6 ⟨rfl, hc⟩
  replace xa := xa.later hc
  replace xb := xb.later hc
  replace xk := xk.later hc
  replace xj := xj.later hc
  replace HH := HH.later hc
  have PC := below_step PB hc
  clear PB hc
  have PB := PC
  clear PC
  have ck := xk
  obtain ⟨ck0, ck1, ck2, ck3⟩ := ck
  have lk := World.block_lt_of_cell? _ _ ck0
  simp only [] at lk
  have cj := xj
  obtain ⟨cj0, cj1, cj2, cj3⟩ := cj
  have lj := World.block_lt_of_cell? _ _ cj0
  simp only [] at lj
  have HPB := Lib.hid PB
  clear PB
  go_wp2_with fail
  have PB := HPB.out
  clear HPB
  clear ck0 ck1 ck2 ck3 cj0 cj1 cj2 cj3 lk lj
  refine (LESS2H.out _).mono ?_
  rintro e w7 ⟨rfl, hc⟩
  replace xa := xa.later hc
  replace xb := xb.later hc
  replace xk := xk.later hc
  replace xj := xj.later hc
  replace HH := HH.later hc
  have PC := below_step PB hc
  clear PB hc
  have PB := PC
  clear PC
  have ca := xa
  obtain ⟨ca0, ca1, ca2, ca3⟩ := ca
  have la := World.block_lt_of_cell? _ _ ca0
  simp only [] at la
  have cb := xb
  obtain ⟨cb0, cb1, cb2, cb3⟩ := cb
  have lb := World.block_lt_of_cell? _ _ cb0
  simp only [] at lb
  have HPB := Lib.hid PB
  clear PB
  go_wp2_with fail
  have PB := HPB.out
  clear HPB
  clear ca0 ca1 ca2 ca3 cb0 cb1 cb2 cb3 la lb
  replace xa := xa.alloc (.cells #[.int .u64 0, .int .u64 0, .int .u64 0, .int .u64 0] 25)
  replace xb := xb.alloc (.cells #[.int .u64 0, .int .u64 0, .int .u64 0, .int .u64 0] 25)
  replace xk := xk.alloc (.cells #[.int .u64 0, .int .u64 0, .int .u64 0, .int .u64 0] 25)
  replace xj := xj.alloc (.cells #[.int .u64 0, .int .u64 0, .int .u64 0, .int .u64 0] 25)
  replace HH := HH.later ((Below.refl _ _).alloc (Nat.le_refl _) (.cells #[.int .u64 0, .int .u64 0, .int .u64 0, .int .u64 0] 25))
  have xn := Box.new (w7) 0 0 0 0 25
  have PC := below_alloc PB (.cells #[.int .u64 0, .int .u64 0, .int .u64 0, .int .u64 0] 25)
  clear PB
  have PB := PC
  clear PC
  generalize (w7).alloc (.cells #[.int .u64 0, .int .u64 0, .int .u64 0, .int .u64 0] 25) = W8 at *
  generalize w7.heap.size = Bn at *
  refine (LESS1H.out _).mono ?_
  rintro e w9 ⟨rfl, hc⟩
  replace xa := xa.later hc
  replace xb := xb.later hc
  replace xk := xk.later hc
  replace xj := xj.later hc
  replace xn := xn.later hc
  replace HH := HH.later hc
  have PC := below_step PB hc
  clear PB hc
  have PB := PC
  clear PC
  have ca := xa
  obtain ⟨ca0, ca1, ca2, ca3⟩ := ca
  have la := World.block_lt_of_cell? _ _ ca0
  simp only [] at la
  have HPB := Lib.hid PB
  clear PB
  go_wp2_with (refine BigFrame.wpList_want (by rfl) fun K hK => wp_load_row 32 (.tmp 5) rfl Bh rfl 32 #[.int .u8 (hb 0 : Nat), .int .u8 (hb 1 : Nat), .int .u8 (hb 2 : Nat), .int .u8 (hb 3 : Nat), .int .u8 (hb 4 : Nat), .int .u8 (hb 5 : Nat), .int .u8 (hb 6 : Nat), .int .u8 (hb 7 : Nat), .int .u8 (hb 8 : Nat), .int .u8 (hb 9 : Nat), .int .u8 (hb 10 : Nat), .int .u8 (hb 11 : Nat), .int .u8 (hb 12 : Nat), .int .u8 (hb 13 : Nat), .int .u8 (hb 14 : Nat), .int .u8 (hb 15 : Nat), .int .u8 (hb 16 : Nat), .int .u8 (hb 17 : Nat), .int .u8 (hb 18 : Nat), .int .u8 (hb 19 : Nat), .int .u8 (hb 20 : Nat), .int .u8 (hb 21 : Nat), .int .u8 (hb 22 : Nat), .int .u8 (hb 23 : Nat), .int .u8 (hb 24 : Nat), .int .u8 (hb 25 : Nat), .int .u8 (hb 26 : Nat), .int .u8 (hb 27 : Nat), .int .u8 (hb 28 : Nat), .int .u8 (hb 29 : Nat), .int .u8 (hb 30 : Nat), .int .u8 (hb 31 : Nat)] (0, 0) _ HH Try.underlying32 rfl (by kernel_rfl) (hK _ _ ?_))
  have PB := HPB.out
  clear HPB
  clear ca0 ca1 ca2 ca3 la
  refine (MAH.out _).mono ?_
  rintro e w10 ⟨rfl, hc⟩
  replace xa := xa.later hc
  replace xb := xb.later hc
  replace xk := xk.later hc
  replace xj := xj.later hc
  replace xn := xn.later hc
  replace HH := HH.later hc
  have PC := below_step PB hc
  clear PB hc
  have PB := PC
  clear PC
  have cb := xb
  obtain ⟨cb0, cb1, cb2, cb3⟩ := cb
  have lb := World.block_lt_of_cell? _ _ cb0
  simp only [] at lb
  have HPB := Lib.hid PB
  clear PB
  go_wp2_with (refine BigFrame.wpList_want (by rfl) fun K hK => wp_load_row 32 (.tmp 5) rfl Bh rfl 32 #[.int .u8 (hb 0 : Nat), .int .u8 (hb 1 : Nat), .int .u8 (hb 2 : Nat), .int .u8 (hb 3 : Nat), .int .u8 (hb 4 : Nat), .int .u8 (hb 5 : Nat), .int .u8 (hb 6 : Nat), .int .u8 (hb 7 : Nat), .int .u8 (hb 8 : Nat), .int .u8 (hb 9 : Nat), .int .u8 (hb 10 : Nat), .int .u8 (hb 11 : Nat), .int .u8 (hb 12 : Nat), .int .u8 (hb 13 : Nat), .int .u8 (hb 14 : Nat), .int .u8 (hb 15 : Nat), .int .u8 (hb 16 : Nat), .int .u8 (hb 17 : Nat), .int .u8 (hb 18 : Nat), .int .u8 (hb 19 : Nat), .int .u8 (hb 20 : Nat), .int .u8 (hb 21 : Nat), .int .u8 (hb 22 : Nat), .int .u8 (hb 23 : Nat), .int .u8 (hb 24 : Nat), .int .u8 (hb 25 : Nat), .int .u8 (hb 26 : Nat), .int .u8 (hb 27 : Nat), .int .u8 (hb 28 : Nat), .int .u8 (hb 29 : Nat), .int .u8 (hb 30 : Nat), .int .u8 (hb 31 : Nat)] (0, 0) _ HH Try.underlying32 rfl (by kernel_rfl) (hK _ _ ?_))
  have PB := HPB.out
  clear HPB
  clear cb0 cb1 cb2 cb3 lb
  refine (MBH.out _).mono ?_
  rintro e w11 ⟨rfl, hc⟩
  replace xa := xa.later hc
  replace xb := xb.later hc
  replace xk := xk.later hc
  replace xj := xj.later hc
  replace xn := xn.later hc
  replace HH := HH.later hc
  have PC := below_step PB hc
  clear PB hc
  have PB := PC
  clear PC
  have HPB := Lib.hid PB
  clear PB
  go_wp2_with fail
  have PB := HPB.out
  clear HPB
  have HPB := Lib.hid PB
  clear PB
  refine wp_region_grow 6 (by kernel_rfl) (Nat.le_of_ble_eq_true (by kernel_rfl)) (by kernel_rfl) (by kernel_rfl) (fun _ _ _ _ _ h => h) ?_
  apply Exists.intro
  refine ⟨?_, ?_⟩
  · intro wg hg
    simp only [List.take_succ_cons, List.take_zero]
    have ca := xa.later hg
    obtain ⟨ca0, ca1, ca2, ca3⟩ := ca
    have ua0 : ∀ u : After wg, u.w.cell? ⟨w.heap.size, 0, none⟩ = some (.int .u64 (a0 : Nat)) := fun u => u.cell ca0
    have ua1 : ∀ u : After wg, u.w.cell? ⟨w.heap.size, 1, none⟩ = some (.int .u64 (a1 : Nat)) := fun u => u.cell ca1
    have ua2 : ∀ u : After wg, u.w.cell? ⟨w.heap.size, 2, none⟩ = some (.int .u64 (a2 : Nat)) := fun u => u.cell ca2
    have ua3 : ∀ u : After wg, u.w.cell? ⟨w.heap.size, 3, none⟩ = some (.int .u64 (a3 : Nat)) := fun u => u.cell ca3
    repeat (go_big_quiet_step ((first | (go_at_call 24; exact after_call (of_int 1 _)) | (go_at_call 23; exact after_call (ADDH.out.one _)))))
    refine wpQuiet_nil ?_
    exact rfl
  intro wg hg
  show wpK _ _ _ _ _ 3 _ _ _
  refine wpK_box1 (f := 2) (i := 6) (c := #[.int .u64 0, .int .u64 0, .int .u64 0, .int .u64 0]) (T := 25) (by kernel_rfl) rfl rfl rfl (fun w => by go_simp) hg ?_
  intro Bd wh gh ld Hd
  replace ld := Nat.le_trans hg.size ld
  have ge := hg.trans gh
  clear hg gh
  refine wpK_one (f := 1) (i := 7) (by kernel_rfl) rfl rfl ?_
  intro wc gc K hK
  replace ge := ge.trans gc
  replace Hd := Hd.later gc
  have ic0 : wc.cell? ⟨Bd, 0, none⟩ = some (.int .u64 0) := Hd.cell 0
  have iz0 : wc.frozen? ⟨Bd, 0, none⟩ = false := Hd.free 0
  have ic1 : wc.cell? ⟨Bd, 1, none⟩ = some (.int .u64 0) := Hd.cell 1
  have iz1 : wc.frozen? ⟨Bd, 1, none⟩ = false := Hd.free 1
  have ic2 : wc.cell? ⟨Bd, 2, none⟩ = some (.int .u64 0) := Hd.cell 2
  have iz2 : wc.frozen? ⟨Bd, 2, none⟩ = false := Hd.free 2
  have ic3 : wc.cell? ⟨Bd, 3, none⟩ = some (.int .u64 0) := Hd.cell 3
  have iz3 : wc.frozen? ⟨Bd, 3, none⟩ = false := Hd.free 3
  have HGE := Lib.hid ge
  clear ge gc
  go_simp
  have ge : Grows w11 ((((wc.setCell ⟨Bd, 0, none⟩ (.int .u64 (d0 : Nat))).setCell ⟨Bd, 1, none⟩ (.int .u64 (d1 : Nat))).setCell ⟨Bd, 2, none⟩ (.int .u64 (d2 : Nat))).setCell ⟨Bd, 3, none⟩ (.int .u64 (d3 : Nat))) := (((HGE.out.setCell ld _).setCell ld _).setCell ld _).setCell ld _
  replace Hd : Holds ((((wc.setCell ⟨Bd, 0, none⟩ (.int .u64 (d0 : Nat))).setCell ⟨Bd, 1, none⟩ (.int .u64 (d1 : Nat))).setCell ⟨Bd, 2, none⟩ (.int .u64 (d2 : Nat))).setCell ⟨Bd, 3, none⟩ (.int .u64 (d3 : Nat))) Bd #[.int .u64 (d0 : Nat), .int .u64 (d1 : Nat), .int .u64 (d2 : Nat), .int .u64 (d3 : Nat)] 25 := (((Hd.set _).set _).set _).set _
  clear ic0 ic1 ic2 ic3 iz0 iz1 iz2 iz3 HGE
  refine hK _ _ ge ?_
  clear hK K
  generalize (((wc.setCell ⟨Bd, 0, none⟩ (.int .u64 (d0 : Nat))).setCell ⟨Bd, 1, none⟩ (.int .u64 (d1 : Nat))).setCell ⟨Bd, 2, none⟩ (.int .u64 (d2 : Nat))).setCell ⟨Bd, 3, none⟩ (.int .u64 (d3 : Nat)) = wd at *
  clear wc
  refine wpK_one (f := 0) (i := 8) (by kernel_rfl) rfl rfl ?_
  intro wc gc K hK
  go_simp
  replace Hd := Hd.later gc
  replace ge := ge.trans gc
  refine hK _ _ ge ?_
  clear hK K gc
  refine wpK_end (by kernel_rfl) ?_
  intro W12 gf
  replace Hd := Hd.later gf
  replace ge := ge.trans gf
  clear gf
  replace xa := xa.later ge
  replace xb := xb.later ge
  replace xk := xk.later ge
  replace xj := xj.later ge
  replace xn := xn.later ge
  replace HH := HH.later ge
  have PB := below_step HPB.out ge
  clear ge HPB
  have xd : Box W12 Bd (d0 : Nat) (d1 : Nat) (d2 : Nat) (d3 : Nat) := ⟨Hd.cell 0, Hd.cell 1, Hd.cell 2, Hd.cell 3⟩
  clear Hd
  clear ld
  have ca := xa
  obtain ⟨ca0, ca1, ca2, ca3⟩ := ca
  have la := World.block_lt_of_cell? _ _ ca0
  simp only [] at la
  have cn := xn
  obtain ⟨cn0, cn1, cn2, cn3⟩ := cn
  have ln := World.block_lt_of_cell? _ _ cn0
  simp only [] at ln
  have cd := xd
  obtain ⟨cd0, cd1, cd2, cd3⟩ := cd
  have ld := World.block_lt_of_cell? _ _ cd0
  simp only [] at ld
  have HPB := Lib.hid PB
  clear PB
  go_wp2_with fail
  have PB := HPB.out
  clear HPB
  clear ca0 ca1 ca2 ca3 cn0 cn1 cn2 cn3 cd0 cd1 cd2 cd3 la ln ld
  refine (SUB1H.out.none _).mono ?_
  rintro e w13 ⟨rfl, hc⟩
  replace xa := xa.later hc
  replace xb := xb.later hc
  replace xk := xk.later hc
  replace xj := xj.later hc
  replace xn := xn.later hc
  replace xd := xd.later hc
  replace HH := HH.later hc
  have PC := below_step PB hc
  clear PB hc
  have PB := PC
  clear PC
  have HPB := Lib.hid PB
  clear PB
  go_wp2_with fail
  have PB := HPB.out
  clear HPB
  replace xa := xa.alloc (.cells #[.int .u64 (r0 : Nat), .int .u64 (r1 : Nat), .int .u64 (r2 : Nat), .int .u64 (r3 : Nat)] 25)
  replace xb := xb.alloc (.cells #[.int .u64 (r0 : Nat), .int .u64 (r1 : Nat), .int .u64 (r2 : Nat), .int .u64 (r3 : Nat)] 25)
  replace xk := xk.alloc (.cells #[.int .u64 (r0 : Nat), .int .u64 (r1 : Nat), .int .u64 (r2 : Nat), .int .u64 (r3 : Nat)] 25)
  replace xj := xj.alloc (.cells #[.int .u64 (r0 : Nat), .int .u64 (r1 : Nat), .int .u64 (r2 : Nat), .int .u64 (r3 : Nat)] 25)
  replace xn := xn.alloc (.cells #[.int .u64 (r0 : Nat), .int .u64 (r1 : Nat), .int .u64 (r2 : Nat), .int .u64 (r3 : Nat)] 25)
  replace xd := xd.alloc (.cells #[.int .u64 (r0 : Nat), .int .u64 (r1 : Nat), .int .u64 (r2 : Nat), .int .u64 (r3 : Nat)] 25)
  replace HH := HH.later ((Below.refl _ _).alloc (Nat.le_refl _) (.cells #[.int .u64 (r0 : Nat), .int .u64 (r1 : Nat), .int .u64 (r2 : Nat), .int .u64 (r3 : Nat)] 25))
  have xr := Box.new (w13) (r0 : Nat) (r1 : Nat) (r2 : Nat) (r3 : Nat) 25
  have PC := below_alloc PB (.cells #[.int .u64 (r0 : Nat), .int .u64 (r1 : Nat), .int .u64 (r2 : Nat), .int .u64 (r3 : Nat)] 25)
  clear PB
  have PB := PC
  clear PC
  generalize (w13).alloc (.cells #[.int .u64 (r0 : Nat), .int .u64 (r1 : Nat), .int .u64 (r2 : Nat), .int .u64 (r3 : Nat)] 25) = W14 at *
  generalize w13.heap.size = Br at *
  have HPB := Lib.hid PB
  clear PB
  refine wp_region_grow 6 (by kernel_rfl) (Nat.le_of_ble_eq_true (by kernel_rfl)) (by kernel_rfl) (by kernel_rfl) (fun _ _ _ _ _ h => h) ?_
  apply Exists.intro
  refine ⟨?_, ?_⟩
  · intro wg hg
    simp only [List.take_succ_cons, List.take_zero]
    have ck := xk.later hg
    obtain ⟨ck0, ck1, ck2, ck3⟩ := ck
    have uk0 : ∀ u : After wg, u.w.cell? ⟨Bk, 0, none⟩ = some (.int .u64 (k0 : Nat)) := fun u => u.cell ck0
    have uk1 : ∀ u : After wg, u.w.cell? ⟨Bk, 1, none⟩ = some (.int .u64 (k1 : Nat)) := fun u => u.cell ck1
    have uk2 : ∀ u : After wg, u.w.cell? ⟨Bk, 2, none⟩ = some (.int .u64 (k2 : Nat)) := fun u => u.cell ck2
    have uk3 : ∀ u : After wg, u.w.cell? ⟨Bk, 3, none⟩ = some (.int .u64 (k3 : Nat)) := fun u => u.cell ck3
    repeat (go_big_quiet_step ((first | (go_at_call 24; exact after_call (of_int 1 _)) | (go_at_call 21; exact after_call (SUB2H.out.one _)))))
    refine wpQuiet_nil ?_
    exact rfl
  intro wg hg
  show wpK _ _ _ _ _ 3 _ _ _
  refine wpK_box1 (f := 2) (i := 6) (c := #[.int .u64 0, .int .u64 0, .int .u64 0, .int .u64 0]) (T := 25) (by kernel_rfl) rfl rfl rfl (fun w => by go_simp) hg ?_
  intro Bl wh gh ll Hl
  replace ll := Nat.le_trans hg.size ll
  have ge := hg.trans gh
  clear hg gh
  refine wpK_one (f := 1) (i := 7) (by kernel_rfl) rfl rfl ?_
  intro wc gc K hK
  replace ge := ge.trans gc
  replace Hl := Hl.later gc
  have ic0 : wc.cell? ⟨Bl, 0, none⟩ = some (.int .u64 0) := Hl.cell 0
  have iz0 : wc.frozen? ⟨Bl, 0, none⟩ = false := Hl.free 0
  have ic1 : wc.cell? ⟨Bl, 1, none⟩ = some (.int .u64 0) := Hl.cell 1
  have iz1 : wc.frozen? ⟨Bl, 1, none⟩ = false := Hl.free 1
  have ic2 : wc.cell? ⟨Bl, 2, none⟩ = some (.int .u64 0) := Hl.cell 2
  have iz2 : wc.frozen? ⟨Bl, 2, none⟩ = false := Hl.free 2
  have ic3 : wc.cell? ⟨Bl, 3, none⟩ = some (.int .u64 0) := Hl.cell 3
  have iz3 : wc.frozen? ⟨Bl, 3, none⟩ = false := Hl.free 3
  have HGE := Lib.hid ge
  clear ge gc
  go_simp
  have ge : Grows W14 ((((wc.setCell ⟨Bl, 0, none⟩ (.int .u64 (l0 : Nat))).setCell ⟨Bl, 1, none⟩ (.int .u64 (l1 : Nat))).setCell ⟨Bl, 2, none⟩ (.int .u64 (l2 : Nat))).setCell ⟨Bl, 3, none⟩ (.int .u64 (l3 : Nat))) := (((HGE.out.setCell ll _).setCell ll _).setCell ll _).setCell ll _
  replace Hl : Holds ((((wc.setCell ⟨Bl, 0, none⟩ (.int .u64 (l0 : Nat))).setCell ⟨Bl, 1, none⟩ (.int .u64 (l1 : Nat))).setCell ⟨Bl, 2, none⟩ (.int .u64 (l2 : Nat))).setCell ⟨Bl, 3, none⟩ (.int .u64 (l3 : Nat))) Bl #[.int .u64 (l0 : Nat), .int .u64 (l1 : Nat), .int .u64 (l2 : Nat), .int .u64 (l3 : Nat)] 25 := (((Hl.set _).set _).set _).set _
  clear ic0 ic1 ic2 ic3 iz0 iz1 iz2 iz3 HGE
  refine hK _ _ ge ?_
  clear hK K
  generalize (((wc.setCell ⟨Bl, 0, none⟩ (.int .u64 (l0 : Nat))).setCell ⟨Bl, 1, none⟩ (.int .u64 (l1 : Nat))).setCell ⟨Bl, 2, none⟩ (.int .u64 (l2 : Nat))).setCell ⟨Bl, 3, none⟩ (.int .u64 (l3 : Nat)) = wd at *
  clear wc
  refine wpK_one (f := 0) (i := 8) (by kernel_rfl) rfl rfl ?_
  intro wc gc K hK
  go_simp
  replace Hl := Hl.later gc
  replace ge := ge.trans gc
  refine hK _ _ ge ?_
  clear hK K gc
  refine wpK_end (by kernel_rfl) ?_
  intro W15 gf
  replace Hl := Hl.later gf
  replace ge := ge.trans gf
  clear gf
  replace xa := xa.later ge
  replace xb := xb.later ge
  replace xk := xk.later ge
  replace xj := xj.later ge
  replace xn := xn.later ge
  replace xd := xd.later ge
  replace xr := xr.later ge
  replace HH := HH.later ge
  have PB := below_step HPB.out ge
  clear ge HPB
  have xl : Box W15 Bl (l0 : Nat) (l1 : Nat) (l2 : Nat) (l3 : Nat) := ⟨Hl.cell 0, Hl.cell 1, Hl.cell 2, Hl.cell 3⟩
  clear Hl
  clear ll
  have cr := xr
  obtain ⟨cr0, cr1, cr2, cr3⟩ := cr
  have lr := World.block_lt_of_cell? _ _ cr0
  simp only [] at lr
  have cd := xd
  obtain ⟨cd0, cd1, cd2, cd3⟩ := cd
  have ld := World.block_lt_of_cell? _ _ cd0
  simp only [] at ld
  have HPB := Lib.hid PB
  clear PB
  go_wp2_with fail
  have PB := HPB.out
  clear HPB
  clear cr0 cr1 cr2 cr3 cd0 cd1 cd2 cd3 lr ld
  refine (DIVH.out _).mono ?_
  rintro e w16 ⟨rfl, hc⟩
  replace xa := xa.later hc
  replace xb := xb.later hc
  replace xk := xk.later hc
  replace xj := xj.later hc
  replace xn := xn.later hc
  replace xd := xd.later hc
  replace xr := xr.later hc
  replace xl := xl.later hc
  replace HH := HH.later hc
  have PC := below_step PB hc
  clear PB hc
  have PB := PC
  clear PC
  have cl := xl
  obtain ⟨cl0, cl1, cl2, cl3⟩ := cl
  have ll := World.block_lt_of_cell? _ _ cl0
  simp only [] at ll
  have ck := xk
  obtain ⟨ck0, ck1, ck2, ck3⟩ := ck
  have lk := World.block_lt_of_cell? _ _ ck0
  simp only [] at lk
  have cn := xn
  obtain ⟨cn0, cn1, cn2, cn3⟩ := cn
  have ln := World.block_lt_of_cell? _ _ cn0
  simp only [] at ln
  have HPB := Lib.hid PB
  clear PB
  go_wp2_with fail
  have PB := HPB.out
  clear HPB
  clear cl0 cl1 cl2 cl3 ck0 ck1 ck2 ck3 cn0 cn1 cn2 cn3 ll lk ln
  replace xa := xa.alloc (.cells #[.int .u64 (l0 : Nat), .int .u64 (l1 : Nat), .int .u64 (l2 : Nat), .int .u64 (l3 : Nat)] 25)
  replace xb := xb.alloc (.cells #[.int .u64 (l0 : Nat), .int .u64 (l1 : Nat), .int .u64 (l2 : Nat), .int .u64 (l3 : Nat)] 25)
  replace xk := xk.alloc (.cells #[.int .u64 (l0 : Nat), .int .u64 (l1 : Nat), .int .u64 (l2 : Nat), .int .u64 (l3 : Nat)] 25)
  replace xj := xj.alloc (.cells #[.int .u64 (l0 : Nat), .int .u64 (l1 : Nat), .int .u64 (l2 : Nat), .int .u64 (l3 : Nat)] 25)
  replace xn := xn.alloc (.cells #[.int .u64 (l0 : Nat), .int .u64 (l1 : Nat), .int .u64 (l2 : Nat), .int .u64 (l3 : Nat)] 25)
  replace xd := xd.alloc (.cells #[.int .u64 (l0 : Nat), .int .u64 (l1 : Nat), .int .u64 (l2 : Nat), .int .u64 (l3 : Nat)] 25)
  replace xr := xr.alloc (.cells #[.int .u64 (l0 : Nat), .int .u64 (l1 : Nat), .int .u64 (l2 : Nat), .int .u64 (l3 : Nat)] 25)
  replace xl := xl.alloc (.cells #[.int .u64 (l0 : Nat), .int .u64 (l1 : Nat), .int .u64 (l2 : Nat), .int .u64 (l3 : Nat)] 25)
  replace HH := HH.later ((Below.refl _ _).alloc (Nat.le_refl _) (.cells #[.int .u64 (l0 : Nat), .int .u64 (l1 : Nat), .int .u64 (l2 : Nat), .int .u64 (l3 : Nat)] 25))
  have xq := Box.new (w16) (l0 : Nat) (l1 : Nat) (l2 : Nat) (l3 : Nat) 25
  have PC := below_alloc PB (.cells #[.int .u64 (l0 : Nat), .int .u64 (l1 : Nat), .int .u64 (l2 : Nat), .int .u64 (l3 : Nat)] 25)
  clear PB
  have PB := PC
  clear PC
  replace xa := xa.alloc (.cells #[.int .u64 (x0 : Nat), .int .u64 (x1 : Nat), .int .u64 (x2 : Nat), .int .u64 (x3 : Nat)] 25)
  replace xb := xb.alloc (.cells #[.int .u64 (x0 : Nat), .int .u64 (x1 : Nat), .int .u64 (x2 : Nat), .int .u64 (x3 : Nat)] 25)
  replace xk := xk.alloc (.cells #[.int .u64 (x0 : Nat), .int .u64 (x1 : Nat), .int .u64 (x2 : Nat), .int .u64 (x3 : Nat)] 25)
  replace xj := xj.alloc (.cells #[.int .u64 (x0 : Nat), .int .u64 (x1 : Nat), .int .u64 (x2 : Nat), .int .u64 (x3 : Nat)] 25)
  replace xn := xn.alloc (.cells #[.int .u64 (x0 : Nat), .int .u64 (x1 : Nat), .int .u64 (x2 : Nat), .int .u64 (x3 : Nat)] 25)
  replace xd := xd.alloc (.cells #[.int .u64 (x0 : Nat), .int .u64 (x1 : Nat), .int .u64 (x2 : Nat), .int .u64 (x3 : Nat)] 25)
  replace xr := xr.alloc (.cells #[.int .u64 (x0 : Nat), .int .u64 (x1 : Nat), .int .u64 (x2 : Nat), .int .u64 (x3 : Nat)] 25)
  replace xl := xl.alloc (.cells #[.int .u64 (x0 : Nat), .int .u64 (x1 : Nat), .int .u64 (x2 : Nat), .int .u64 (x3 : Nat)] 25)
  replace xq := xq.alloc (.cells #[.int .u64 (x0 : Nat), .int .u64 (x1 : Nat), .int .u64 (x2 : Nat), .int .u64 (x3 : Nat)] 25)
  replace HH := HH.later ((Below.refl _ _).alloc (Nat.le_refl _) (.cells #[.int .u64 (x0 : Nat), .int .u64 (x1 : Nat), .int .u64 (x2 : Nat), .int .u64 (x3 : Nat)] 25))
  have xx := Box.new ((w16).alloc (.cells #[.int .u64 (l0 : Nat), .int .u64 (l1 : Nat), .int .u64 (l2 : Nat), .int .u64 (l3 : Nat)] 25)) (x0 : Nat) (x1 : Nat) (x2 : Nat) (x3 : Nat) 25
  simp only [World.size_alloc] at xx
  have PC := below_alloc PB (.cells #[.int .u64 (x0 : Nat), .int .u64 (x1 : Nat), .int .u64 (x2 : Nat), .int .u64 (x3 : Nat)] 25)
  clear PB
  have PB := PC
  clear PC
  generalize ((w16).alloc (.cells #[.int .u64 (l0 : Nat), .int .u64 (l1 : Nat), .int .u64 (l2 : Nat), .int .u64 (l3 : Nat)] 25)).alloc (.cells #[.int .u64 (x0 : Nat), .int .u64 (x1 : Nat), .int .u64 (x2 : Nat), .int .u64 (x3 : Nat)] 25) = W17 at *
  generalize w16.heap.size + 1 = Bx at *
  generalize w16.heap.size = Bq at *
  refine (works_any _).mono ?_
  rintro e w18 ⟨rfl, hc⟩
  replace xa := xa.later hc
  replace xb := xb.later hc
  replace xk := xk.later hc
  replace xj := xj.later hc
  replace xn := xn.later hc
  replace xd := xd.later hc
  replace xr := xr.later hc
  replace xl := xl.later hc
  replace xq := xq.later hc
  replace xx := xx.later hc
  replace HH := HH.later hc
  have PC := below_step PB hc
  clear PB hc
  have PB := PC
  clear PC
  have HPB := Lib.hid PB
  clear PB
  go_wp2_with fail
  have PB := HPB.out
  clear HPB
  go_ret
  exact ⟨rfl, PB⟩

set_option maxRecDepth 100000 in
set_option maxHeartbeats 16000000 in
theorem order_f_t_f_f (hb : Nat → Nat) (a0 a1 a2 a3 b0 b1 b2 b3 k0 k1 k2 k3 j0 j1 j2 j3 d0 d1 d2 d3 r0 r1 r2 r3 l0 l1 l2 l3 x0 x1 x2 x3 : Nat) (o : Bool) (w : World) (wa : WorkIs a0 a1 a2 a3 k0 k1 k2 k3) (wb : WorkIs b0 b1 b2 b3 j0 j1 j2 j3) (less1 : LessIs a0 a1 a2 a3 b0 b1 b2 b3 true) (less2 : LessIs k0 k1 k2 k3 j0 j1 j2 j3 false) (ea : EqZ a0 a1 a2 a3 false) (ma : MeetsIs hb a0 a1 a2 a3 false) (add : AddIs a0 a1 a2 a3 1 0 0 0 d0 d1 d2 d3 false) (sub1 : SubIs 0 0 0 0 d0 d1 d2 d3 r0 r1 r2 r3 o) (sub2 : SubIs k0 k1 k2 k3 1 0 0 0 l0 l1 l2 l3 false) (div : DivIs r0 r1 r2 r3 d0 d1 d2 d3 l0 l1 l2 l3 x0 x1 x2 x3) (el : EqIs l0 l1 l2 l3 l0 l1 l2 l3 true) (ekz : EqZ k0 k1 k2 k3 false) :
    Calls Try.prog 6 #[.agg #[.int .u64 (a0 : Nat), .int .u64 (a1 : Nat), .int .u64 (a2 : Nat), .int .u64 (a3 : Nat)], .agg #[.int .u64 (b0 : Nat), .int .u64 (b1 : Nat), .int .u64 (b2 : Nat), .int .u64 (b3 : Nat)], .agg #[.int .u8 (hb 0 : Nat), .int .u8 (hb 1 : Nat), .int .u8 (hb 2 : Nat), .int .u8 (hb 3 : Nat), .int .u8 (hb 4 : Nat), .int .u8 (hb 5 : Nat), .int .u8 (hb 6 : Nat), .int .u8 (hb 7 : Nat), .int .u8 (hb 8 : Nat), .int .u8 (hb 9 : Nat), .int .u8 (hb 10 : Nat), .int .u8 (hb 11 : Nat), .int .u8 (hb 12 : Nat), .int .u8 (hb 13 : Nat), .int .u8 (hb 14 : Nat), .int .u8 (hb 15 : Nat), .int .u8 (hb 16 : Nat), .int .u8 (hb 17 : Nat), .int .u8 (hb 18 : Nat), .int .u8 (hb 19 : Nat), .int .u8 (hb 20 : Nat), .int .u8 (hb 21 : Nat), .int .u8 (hb 22 : Nat), .int .u8 (hb 23 : Nat), .int .u8 (hb 24 : Nat), .int .u8 (hb 25 : Nat), .int .u8 (hb 26 : Nat), .int .u8 (hb 27 : Nat), .int .u8 (hb 28 : Nat), .int .u8 (hb 29 : Nat), .int .u8 (hb 30 : Nat), .int .u8 (hb 31 : Nat)]] w fun e w' => e = .returned (.bool true) ∧ Below w.heap.size w w' := by
  have WAH := Lib.hid wa
  have WBH := Lib.hid wb
  have LESS1H := Lib.hid less1
  have LESS2H := Lib.hid less2
  have MAH := Lib.hid ma
  have ADDH := Lib.hid add
  have SUB1H := Lib.hid sub1
  have SUB2H := Lib.hid sub2
  have DIVH := Lib.hid div
  clear wa wb less1 less2 ma add sub1 sub2 div
  unfold EqZ at ea
  unfold EqIs at el
  unfold EqZ at ekz
  go_enter Try.func6, Try.ntmps6
  go_wp2_with fail
  have PB : Below w.heap.size w (((w.alloc (.cells #[.int .u64 (a0 : Nat), .int .u64 (a1 : Nat), .int .u64 (a2 : Nat), .int .u64 (a3 : Nat)] 25)).alloc (.cells #[.int .u64 (b0 : Nat), .int .u64 (b1 : Nat), .int .u64 (b2 : Nat), .int .u64 (b3 : Nat)] 25)).alloc (.cells #[.int .u8 (hb 0 : Nat), .int .u8 (hb 1 : Nat), .int .u8 (hb 2 : Nat), .int .u8 (hb 3 : Nat), .int .u8 (hb 4 : Nat), .int .u8 (hb 5 : Nat), .int .u8 (hb 6 : Nat), .int .u8 (hb 7 : Nat), .int .u8 (hb 8 : Nat), .int .u8 (hb 9 : Nat), .int .u8 (hb 10 : Nat), .int .u8 (hb 11 : Nat), .int .u8 (hb 12 : Nat), .int .u8 (hb 13 : Nat), .int .u8 (hb 14 : Nat), .int .u8 (hb 15 : Nat), .int .u8 (hb 16 : Nat), .int .u8 (hb 17 : Nat), .int .u8 (hb 18 : Nat), .int .u8 (hb 19 : Nat), .int .u8 (hb 20 : Nat), .int .u8 (hb 21 : Nat), .int .u8 (hb 22 : Nat), .int .u8 (hb 23 : Nat), .int .u8 (hb 24 : Nat), .int .u8 (hb 25 : Nat), .int .u8 (hb 26 : Nat), .int .u8 (hb 27 : Nat), .int .u8 (hb 28 : Nat), .int .u8 (hb 29 : Nat), .int .u8 (hb 30 : Nat), .int .u8 (hb 31 : Nat)] 32)) := (((Below.refl _ _).alloc (Nat.le_refl _) _).alloc (by simp) _).alloc (by simp; omega) _
  have xa : Box (((w.alloc (.cells #[.int .u64 (a0 : Nat), .int .u64 (a1 : Nat), .int .u64 (a2 : Nat), .int .u64 (a3 : Nat)] 25)).alloc (.cells #[.int .u64 (b0 : Nat), .int .u64 (b1 : Nat), .int .u64 (b2 : Nat), .int .u64 (b3 : Nat)] 25)).alloc (.cells #[.int .u8 (hb 0 : Nat), .int .u8 (hb 1 : Nat), .int .u8 (hb 2 : Nat), .int .u8 (hb 3 : Nat), .int .u8 (hb 4 : Nat), .int .u8 (hb 5 : Nat), .int .u8 (hb 6 : Nat), .int .u8 (hb 7 : Nat), .int .u8 (hb 8 : Nat), .int .u8 (hb 9 : Nat), .int .u8 (hb 10 : Nat), .int .u8 (hb 11 : Nat), .int .u8 (hb 12 : Nat), .int .u8 (hb 13 : Nat), .int .u8 (hb 14 : Nat), .int .u8 (hb 15 : Nat), .int .u8 (hb 16 : Nat), .int .u8 (hb 17 : Nat), .int .u8 (hb 18 : Nat), .int .u8 (hb 19 : Nat), .int .u8 (hb 20 : Nat), .int .u8 (hb 21 : Nat), .int .u8 (hb 22 : Nat), .int .u8 (hb 23 : Nat), .int .u8 (hb 24 : Nat), .int .u8 (hb 25 : Nat), .int .u8 (hb 26 : Nat), .int .u8 (hb 27 : Nat), .int .u8 (hb 28 : Nat), .int .u8 (hb 29 : Nat), .int .u8 (hb 30 : Nat), .int .u8 (hb 31 : Nat)] 32)) w.heap.size a0 a1 a2 a3 := ((Box.new w (a0 : Nat) (a1 : Nat) (a2 : Nat) (a3 : Nat) 25).alloc _).alloc _
  have xb : Box (((w.alloc (.cells #[.int .u64 (a0 : Nat), .int .u64 (a1 : Nat), .int .u64 (a2 : Nat), .int .u64 (a3 : Nat)] 25)).alloc (.cells #[.int .u64 (b0 : Nat), .int .u64 (b1 : Nat), .int .u64 (b2 : Nat), .int .u64 (b3 : Nat)] 25)).alloc (.cells #[.int .u8 (hb 0 : Nat), .int .u8 (hb 1 : Nat), .int .u8 (hb 2 : Nat), .int .u8 (hb 3 : Nat), .int .u8 (hb 4 : Nat), .int .u8 (hb 5 : Nat), .int .u8 (hb 6 : Nat), .int .u8 (hb 7 : Nat), .int .u8 (hb 8 : Nat), .int .u8 (hb 9 : Nat), .int .u8 (hb 10 : Nat), .int .u8 (hb 11 : Nat), .int .u8 (hb 12 : Nat), .int .u8 (hb 13 : Nat), .int .u8 (hb 14 : Nat), .int .u8 (hb 15 : Nat), .int .u8 (hb 16 : Nat), .int .u8 (hb 17 : Nat), .int .u8 (hb 18 : Nat), .int .u8 (hb 19 : Nat), .int .u8 (hb 20 : Nat), .int .u8 (hb 21 : Nat), .int .u8 (hb 22 : Nat), .int .u8 (hb 23 : Nat), .int .u8 (hb 24 : Nat), .int .u8 (hb 25 : Nat), .int .u8 (hb 26 : Nat), .int .u8 (hb 27 : Nat), .int .u8 (hb 28 : Nat), .int .u8 (hb 29 : Nat), .int .u8 (hb 30 : Nat), .int .u8 (hb 31 : Nat)] 32)) (w.heap.size + 1) b0 b1 b2 b3 := by
    have h := (Box.new (w.alloc (.cells #[.int .u64 (a0 : Nat), .int .u64 (a1 : Nat), .int .u64 (a2 : Nat), .int .u64 (a3 : Nat)] 25)) (b0 : Nat) (b1 : Nat) (b2 : Nat) (b3 : Nat) 25).alloc (.cells #[.int .u8 (hb 0 : Nat), .int .u8 (hb 1 : Nat), .int .u8 (hb 2 : Nat), .int .u8 (hb 3 : Nat), .int .u8 (hb 4 : Nat), .int .u8 (hb 5 : Nat), .int .u8 (hb 6 : Nat), .int .u8 (hb 7 : Nat), .int .u8 (hb 8 : Nat), .int .u8 (hb 9 : Nat), .int .u8 (hb 10 : Nat), .int .u8 (hb 11 : Nat), .int .u8 (hb 12 : Nat), .int .u8 (hb 13 : Nat), .int .u8 (hb 14 : Nat), .int .u8 (hb 15 : Nat), .int .u8 (hb 16 : Nat), .int .u8 (hb 17 : Nat), .int .u8 (hb 18 : Nat), .int .u8 (hb 19 : Nat), .int .u8 (hb 20 : Nat), .int .u8 (hb 21 : Nat), .int .u8 (hb 22 : Nat), .int .u8 (hb 23 : Nat), .int .u8 (hb 24 : Nat), .int .u8 (hb 25 : Nat), .int .u8 (hb 26 : Nat), .int .u8 (hb 27 : Nat), .int .u8 (hb 28 : Nat), .int .u8 (hb 29 : Nat), .int .u8 (hb 30 : Nat), .int .u8 (hb 31 : Nat)] 32)
    simpa using h
  have HH : Holds (((w.alloc (.cells #[.int .u64 (a0 : Nat), .int .u64 (a1 : Nat), .int .u64 (a2 : Nat), .int .u64 (a3 : Nat)] 25)).alloc (.cells #[.int .u64 (b0 : Nat), .int .u64 (b1 : Nat), .int .u64 (b2 : Nat), .int .u64 (b3 : Nat)] 25)).alloc (.cells #[.int .u8 (hb 0 : Nat), .int .u8 (hb 1 : Nat), .int .u8 (hb 2 : Nat), .int .u8 (hb 3 : Nat), .int .u8 (hb 4 : Nat), .int .u8 (hb 5 : Nat), .int .u8 (hb 6 : Nat), .int .u8 (hb 7 : Nat), .int .u8 (hb 8 : Nat), .int .u8 (hb 9 : Nat), .int .u8 (hb 10 : Nat), .int .u8 (hb 11 : Nat), .int .u8 (hb 12 : Nat), .int .u8 (hb 13 : Nat), .int .u8 (hb 14 : Nat), .int .u8 (hb 15 : Nat), .int .u8 (hb 16 : Nat), .int .u8 (hb 17 : Nat), .int .u8 (hb 18 : Nat), .int .u8 (hb 19 : Nat), .int .u8 (hb 20 : Nat), .int .u8 (hb 21 : Nat), .int .u8 (hb 22 : Nat), .int .u8 (hb 23 : Nat), .int .u8 (hb 24 : Nat), .int .u8 (hb 25 : Nat), .int .u8 (hb 26 : Nat), .int .u8 (hb 27 : Nat), .int .u8 (hb 28 : Nat), .int .u8 (hb 29 : Nat), .int .u8 (hb 30 : Nat), .int .u8 (hb 31 : Nat)] 32)) (w.heap.size + 1 + 1) #[.int .u8 (hb 0 : Nat), .int .u8 (hb 1 : Nat), .int .u8 (hb 2 : Nat), .int .u8 (hb 3 : Nat), .int .u8 (hb 4 : Nat), .int .u8 (hb 5 : Nat), .int .u8 (hb 6 : Nat), .int .u8 (hb 7 : Nat), .int .u8 (hb 8 : Nat), .int .u8 (hb 9 : Nat), .int .u8 (hb 10 : Nat), .int .u8 (hb 11 : Nat), .int .u8 (hb 12 : Nat), .int .u8 (hb 13 : Nat), .int .u8 (hb 14 : Nat), .int .u8 (hb 15 : Nat), .int .u8 (hb 16 : Nat), .int .u8 (hb 17 : Nat), .int .u8 (hb 18 : Nat), .int .u8 (hb 19 : Nat), .int .u8 (hb 20 : Nat), .int .u8 (hb 21 : Nat), .int .u8 (hb 22 : Nat), .int .u8 (hb 23 : Nat), .int .u8 (hb 24 : Nat), .int .u8 (hb 25 : Nat), .int .u8 (hb 26 : Nat), .int .u8 (hb 27 : Nat), .int .u8 (hb 28 : Nat), .int .u8 (hb 29 : Nat), .int .u8 (hb 30 : Nat), .int .u8 (hb 31 : Nat)] 32 := by
    have h := Holds.new ((w.alloc (.cells #[.int .u64 (a0 : Nat), .int .u64 (a1 : Nat), .int .u64 (a2 : Nat), .int .u64 (a3 : Nat)] 25)).alloc (.cells #[.int .u64 (b0 : Nat), .int .u64 (b1 : Nat), .int .u64 (b2 : Nat), .int .u64 (b3 : Nat)] 25)) #[.int .u8 (hb 0 : Nat), .int .u8 (hb 1 : Nat), .int .u8 (hb 2 : Nat), .int .u8 (hb 3 : Nat), .int .u8 (hb 4 : Nat), .int .u8 (hb 5 : Nat), .int .u8 (hb 6 : Nat), .int .u8 (hb 7 : Nat), .int .u8 (hb 8 : Nat), .int .u8 (hb 9 : Nat), .int .u8 (hb 10 : Nat), .int .u8 (hb 11 : Nat), .int .u8 (hb 12 : Nat), .int .u8 (hb 13 : Nat), .int .u8 (hb 14 : Nat), .int .u8 (hb 15 : Nat), .int .u8 (hb 16 : Nat), .int .u8 (hb 17 : Nat), .int .u8 (hb 18 : Nat), .int .u8 (hb 19 : Nat), .int .u8 (hb 20 : Nat), .int .u8 (hb 21 : Nat), .int .u8 (hb 22 : Nat), .int .u8 (hb 23 : Nat), .int .u8 (hb 24 : Nat), .int .u8 (hb 25 : Nat), .int .u8 (hb 26 : Nat), .int .u8 (hb 27 : Nat), .int .u8 (hb 28 : Nat), .int .u8 (hb 29 : Nat), .int .u8 (hb 30 : Nat), .int .u8 (hb 31 : Nat)] 32
    simpa using h
  generalize ((w.alloc (.cells #[.int .u64 (a0 : Nat), .int .u64 (a1 : Nat), .int .u64 (a2 : Nat), .int .u64 (a3 : Nat)] 25)).alloc (.cells #[.int .u64 (b0 : Nat), .int .u64 (b1 : Nat), .int .u64 (b2 : Nat), .int .u64 (b3 : Nat)] 25)).alloc (.cells #[.int .u8 (hb 0 : Nat), .int .u8 (hb 1 : Nat), .int .u8 (hb 2 : Nat), .int .u8 (hb 3 : Nat), .int .u8 (hb 4 : Nat), .int .u8 (hb 5 : Nat), .int .u8 (hb 6 : Nat), .int .u8 (hb 7 : Nat), .int .u8 (hb 8 : Nat), .int .u8 (hb 9 : Nat), .int .u8 (hb 10 : Nat), .int .u8 (hb 11 : Nat), .int .u8 (hb 12 : Nat), .int .u8 (hb 13 : Nat), .int .u8 (hb 14 : Nat), .int .u8 (hb 15 : Nat), .int .u8 (hb 16 : Nat), .int .u8 (hb 17 : Nat), .int .u8 (hb 18 : Nat), .int .u8 (hb 19 : Nat), .int .u8 (hb 20 : Nat), .int .u8 (hb 21 : Nat), .int .u8 (hb 22 : Nat), .int .u8 (hb 23 : Nat), .int .u8 (hb 24 : Nat), .int .u8 (hb 25 : Nat), .int .u8 (hb 26 : Nat), .int .u8 (hb 27 : Nat), .int .u8 (hb 28 : Nat), .int .u8 (hb 29 : Nat), .int .u8 (hb 30 : Nat), .int .u8 (hb 31 : Nat)] 32) = W1 at *
  generalize w.heap.size + 1 + 1 = Bh at *
  generalize w.heap.size + 1 = Bb at *
  refine (WAH.out _).mono ?_
  rintro e w2 ⟨rfl, hc⟩
  replace xa := xa.later hc
  replace xb := xb.later hc
  replace HH := HH.later hc
  have PC := below_step PB hc
  clear PB hc
  have PB := PC
  clear PC
  have cb := xb
  obtain ⟨cb0, cb1, cb2, cb3⟩ := cb
  have lb := World.block_lt_of_cell? _ _ cb0
  simp only [] at lb
  have HPB := Lib.hid PB
  clear PB
  go_wp2_with fail
  have PB := HPB.out
  clear HPB
  clear cb0 cb1 cb2 cb3 lb
  replace xa := xa.alloc (.cells #[.int .u64 (k0 : Nat), .int .u64 (k1 : Nat), .int .u64 (k2 : Nat), .int .u64 (k3 : Nat)] 25)
  replace xb := xb.alloc (.cells #[.int .u64 (k0 : Nat), .int .u64 (k1 : Nat), .int .u64 (k2 : Nat), .int .u64 (k3 : Nat)] 25)
  replace HH := HH.later ((Below.refl _ _).alloc (Nat.le_refl _) (.cells #[.int .u64 (k0 : Nat), .int .u64 (k1 : Nat), .int .u64 (k2 : Nat), .int .u64 (k3 : Nat)] 25))
  have xk := Box.new (w2) (k0 : Nat) (k1 : Nat) (k2 : Nat) (k3 : Nat) 25
  have PC := below_alloc PB (.cells #[.int .u64 (k0 : Nat), .int .u64 (k1 : Nat), .int .u64 (k2 : Nat), .int .u64 (k3 : Nat)] 25)
  clear PB
  have PB := PC
  clear PC
  generalize (w2).alloc (.cells #[.int .u64 (k0 : Nat), .int .u64 (k1 : Nat), .int .u64 (k2 : Nat), .int .u64 (k3 : Nat)] 25) = W3 at *
  generalize w2.heap.size = Bk at *
  refine (WBH.out _).mono ?_
  rintro e w4 ⟨rfl, hc⟩
  replace xa := xa.later hc
  replace xb := xb.later hc
  replace xk := xk.later hc
  replace HH := HH.later hc
  have PC := below_step PB hc
  clear PB hc
  have PB := PC
  clear PC
  have ca := xa
  obtain ⟨ca0, ca1, ca2, ca3⟩ := ca
  have la := World.block_lt_of_cell? _ _ ca0
  simp only [] at la
  have cb := xb
  obtain ⟨cb0, cb1, cb2, cb3⟩ := cb
  have lb := World.block_lt_of_cell? _ _ cb0
  simp only [] at lb
  have HPB := Lib.hid PB
  clear PB
  go_wp2_with fail
  have PB := HPB.out
  clear HPB
  clear ca0 ca1 ca2 ca3 cb0 cb1 cb2 cb3 la lb
  replace xa := xa.alloc (.cells #[.int .u64 (j0 : Nat), .int .u64 (j1 : Nat), .int .u64 (j2 : Nat), .int .u64 (j3 : Nat)] 25)
  replace xb := xb.alloc (.cells #[.int .u64 (j0 : Nat), .int .u64 (j1 : Nat), .int .u64 (j2 : Nat), .int .u64 (j3 : Nat)] 25)
  replace xk := xk.alloc (.cells #[.int .u64 (j0 : Nat), .int .u64 (j1 : Nat), .int .u64 (j2 : Nat), .int .u64 (j3 : Nat)] 25)
  replace HH := HH.later ((Below.refl _ _).alloc (Nat.le_refl _) (.cells #[.int .u64 (j0 : Nat), .int .u64 (j1 : Nat), .int .u64 (j2 : Nat), .int .u64 (j3 : Nat)] 25))
  have xj := Box.new (w4) (j0 : Nat) (j1 : Nat) (j2 : Nat) (j3 : Nat) 25
  have PC := below_alloc PB (.cells #[.int .u64 (j0 : Nat), .int .u64 (j1 : Nat), .int .u64 (j2 : Nat), .int .u64 (j3 : Nat)] 25)
  clear PB
  have PB := PC
  clear PC
  generalize (w4).alloc (.cells #[.int .u64 (j0 : Nat), .int .u64 (j1 : Nat), .int .u64 (j2 : Nat), .int .u64 (j3 : Nat)] 25) = W5 at *
  generalize w4.heap.size = Bj at *
  refine (LESS1H.out _).mono ?_
  rintro e w6 ⟨rfl, hc⟩
  replace xa := xa.later hc
  replace xb := xb.later hc
  replace xk := xk.later hc
  replace xj := xj.later hc
  replace HH := HH.later hc
  have PC := below_step PB hc
  clear PB hc
  have PB := PC
  clear PC
  have ck := xk
  obtain ⟨ck0, ck1, ck2, ck3⟩ := ck
  have lk := World.block_lt_of_cell? _ _ ck0
  simp only [] at lk
  have cj := xj
  obtain ⟨cj0, cj1, cj2, cj3⟩ := cj
  have lj := World.block_lt_of_cell? _ _ cj0
  simp only [] at lj
  have HPB := Lib.hid PB
  clear PB
  go_wp2_with fail
  have PB := HPB.out
  clear HPB
  clear ck0 ck1 ck2 ck3 cj0 cj1 cj2 cj3 lk lj
  refine (LESS2H.out _).mono ?_
  rintro e w7 ⟨rfl, hc⟩
  replace xa := xa.later hc
  replace xb := xb.later hc
  replace xk := xk.later hc
  replace xj := xj.later hc
  replace HH := HH.later hc
  have PC := below_step PB hc
  clear PB hc
  have PB := PC
  clear PC
  have ca := xa
  obtain ⟨ca0, ca1, ca2, ca3⟩ := ca
  have la := World.block_lt_of_cell? _ _ ca0
  simp only [] at la
  have cb := xb
  obtain ⟨cb0, cb1, cb2, cb3⟩ := cb
  have lb := World.block_lt_of_cell? _ _ cb0
  simp only [] at lb
  have HPB := Lib.hid PB
  clear PB
  go_wp2_with fail
  have PB := HPB.out
  clear HPB
  clear ca0 ca1 ca2 ca3 cb0 cb1 cb2 cb3 la lb
  replace xa := xa.alloc (.cells #[.int .u64 0, .int .u64 0, .int .u64 0, .int .u64 0] 25)
  replace xb := xb.alloc (.cells #[.int .u64 0, .int .u64 0, .int .u64 0, .int .u64 0] 25)
  replace xk := xk.alloc (.cells #[.int .u64 0, .int .u64 0, .int .u64 0, .int .u64 0] 25)
  replace xj := xj.alloc (.cells #[.int .u64 0, .int .u64 0, .int .u64 0, .int .u64 0] 25)
  replace HH := HH.later ((Below.refl _ _).alloc (Nat.le_refl _) (.cells #[.int .u64 0, .int .u64 0, .int .u64 0, .int .u64 0] 25))
  have xn := Box.new (w7) 0 0 0 0 25
  have PC := below_alloc PB (.cells #[.int .u64 0, .int .u64 0, .int .u64 0, .int .u64 0] 25)
  clear PB
  have PB := PC
  clear PC
  generalize (w7).alloc (.cells #[.int .u64 0, .int .u64 0, .int .u64 0, .int .u64 0] 25) = W8 at *
  generalize w7.heap.size = Bn at *
  refine (LESS1H.out _).mono ?_
  rintro e w9 ⟨rfl, hc⟩
  replace xa := xa.later hc
  replace xb := xb.later hc
  replace xk := xk.later hc
  replace xj := xj.later hc
  replace xn := xn.later hc
  replace HH := HH.later hc
  have PC := below_step PB hc
  clear PB hc
  have PB := PC
  clear PC
  have ca := xa
  obtain ⟨ca0, ca1, ca2, ca3⟩ := ca
  have la := World.block_lt_of_cell? _ _ ca0
  simp only [] at la
  have HPB := Lib.hid PB
  clear PB
  go_wp2_with (refine BigFrame.wpList_want (by rfl) fun K hK => wp_load_row 32 (.tmp 5) rfl Bh rfl 32 #[.int .u8 (hb 0 : Nat), .int .u8 (hb 1 : Nat), .int .u8 (hb 2 : Nat), .int .u8 (hb 3 : Nat), .int .u8 (hb 4 : Nat), .int .u8 (hb 5 : Nat), .int .u8 (hb 6 : Nat), .int .u8 (hb 7 : Nat), .int .u8 (hb 8 : Nat), .int .u8 (hb 9 : Nat), .int .u8 (hb 10 : Nat), .int .u8 (hb 11 : Nat), .int .u8 (hb 12 : Nat), .int .u8 (hb 13 : Nat), .int .u8 (hb 14 : Nat), .int .u8 (hb 15 : Nat), .int .u8 (hb 16 : Nat), .int .u8 (hb 17 : Nat), .int .u8 (hb 18 : Nat), .int .u8 (hb 19 : Nat), .int .u8 (hb 20 : Nat), .int .u8 (hb 21 : Nat), .int .u8 (hb 22 : Nat), .int .u8 (hb 23 : Nat), .int .u8 (hb 24 : Nat), .int .u8 (hb 25 : Nat), .int .u8 (hb 26 : Nat), .int .u8 (hb 27 : Nat), .int .u8 (hb 28 : Nat), .int .u8 (hb 29 : Nat), .int .u8 (hb 30 : Nat), .int .u8 (hb 31 : Nat)] (0, 0) _ HH Try.underlying32 rfl (by kernel_rfl) (hK _ _ ?_))
  have PB := HPB.out
  clear HPB
  clear ca0 ca1 ca2 ca3 la
  refine (MAH.out _).mono ?_
  rintro e w10 ⟨rfl, hc⟩
  replace xa := xa.later hc
  replace xb := xb.later hc
  replace xk := xk.later hc
  replace xj := xj.later hc
  replace xn := xn.later hc
  replace HH := HH.later hc
  have PC := below_step PB hc
  clear PB hc
  have PB := PC
  clear PC
  have HPB := Lib.hid PB
  clear PB
  go_wp2_with fail
  have PB := HPB.out
  clear HPB
  have HPB := Lib.hid PB
  clear PB
  refine wp_region_grow 6 (by kernel_rfl) (Nat.le_of_ble_eq_true (by kernel_rfl)) (by kernel_rfl) (by kernel_rfl) (fun _ _ _ _ _ h => h) ?_
  apply Exists.intro
  refine ⟨?_, ?_⟩
  · intro wg hg
    simp only [List.take_succ_cons, List.take_zero]
    have ca := xa.later hg
    obtain ⟨ca0, ca1, ca2, ca3⟩ := ca
    have ua0 : ∀ u : After wg, u.w.cell? ⟨w.heap.size, 0, none⟩ = some (.int .u64 (a0 : Nat)) := fun u => u.cell ca0
    have ua1 : ∀ u : After wg, u.w.cell? ⟨w.heap.size, 1, none⟩ = some (.int .u64 (a1 : Nat)) := fun u => u.cell ca1
    have ua2 : ∀ u : After wg, u.w.cell? ⟨w.heap.size, 2, none⟩ = some (.int .u64 (a2 : Nat)) := fun u => u.cell ca2
    have ua3 : ∀ u : After wg, u.w.cell? ⟨w.heap.size, 3, none⟩ = some (.int .u64 (a3 : Nat)) := fun u => u.cell ca3
    repeat (go_big_quiet_step ((first | (go_at_call 24; exact after_call (of_int 1 _)) | (go_at_call 23; exact after_call (ADDH.out.one _)))))
    refine wpQuiet_nil ?_
    exact rfl
  intro wg hg
  show wpK _ _ _ _ _ 3 _ _ _
  refine wpK_box1 (f := 2) (i := 6) (c := #[.int .u64 0, .int .u64 0, .int .u64 0, .int .u64 0]) (T := 25) (by kernel_rfl) rfl rfl rfl (fun w => by go_simp) hg ?_
  intro Bd wh gh ld Hd
  replace ld := Nat.le_trans hg.size ld
  have ge := hg.trans gh
  clear hg gh
  refine wpK_one (f := 1) (i := 7) (by kernel_rfl) rfl rfl ?_
  intro wc gc K hK
  replace ge := ge.trans gc
  replace Hd := Hd.later gc
  have ic0 : wc.cell? ⟨Bd, 0, none⟩ = some (.int .u64 0) := Hd.cell 0
  have iz0 : wc.frozen? ⟨Bd, 0, none⟩ = false := Hd.free 0
  have ic1 : wc.cell? ⟨Bd, 1, none⟩ = some (.int .u64 0) := Hd.cell 1
  have iz1 : wc.frozen? ⟨Bd, 1, none⟩ = false := Hd.free 1
  have ic2 : wc.cell? ⟨Bd, 2, none⟩ = some (.int .u64 0) := Hd.cell 2
  have iz2 : wc.frozen? ⟨Bd, 2, none⟩ = false := Hd.free 2
  have ic3 : wc.cell? ⟨Bd, 3, none⟩ = some (.int .u64 0) := Hd.cell 3
  have iz3 : wc.frozen? ⟨Bd, 3, none⟩ = false := Hd.free 3
  have HGE := Lib.hid ge
  clear ge gc
  go_simp
  have ge : Grows w10 ((((wc.setCell ⟨Bd, 0, none⟩ (.int .u64 (d0 : Nat))).setCell ⟨Bd, 1, none⟩ (.int .u64 (d1 : Nat))).setCell ⟨Bd, 2, none⟩ (.int .u64 (d2 : Nat))).setCell ⟨Bd, 3, none⟩ (.int .u64 (d3 : Nat))) := (((HGE.out.setCell ld _).setCell ld _).setCell ld _).setCell ld _
  replace Hd : Holds ((((wc.setCell ⟨Bd, 0, none⟩ (.int .u64 (d0 : Nat))).setCell ⟨Bd, 1, none⟩ (.int .u64 (d1 : Nat))).setCell ⟨Bd, 2, none⟩ (.int .u64 (d2 : Nat))).setCell ⟨Bd, 3, none⟩ (.int .u64 (d3 : Nat))) Bd #[.int .u64 (d0 : Nat), .int .u64 (d1 : Nat), .int .u64 (d2 : Nat), .int .u64 (d3 : Nat)] 25 := (((Hd.set _).set _).set _).set _
  clear ic0 ic1 ic2 ic3 iz0 iz1 iz2 iz3 HGE
  refine hK _ _ ge ?_
  clear hK K
  generalize (((wc.setCell ⟨Bd, 0, none⟩ (.int .u64 (d0 : Nat))).setCell ⟨Bd, 1, none⟩ (.int .u64 (d1 : Nat))).setCell ⟨Bd, 2, none⟩ (.int .u64 (d2 : Nat))).setCell ⟨Bd, 3, none⟩ (.int .u64 (d3 : Nat)) = wd at *
  clear wc
  refine wpK_one (f := 0) (i := 8) (by kernel_rfl) rfl rfl ?_
  intro wc gc K hK
  go_simp
  replace Hd := Hd.later gc
  replace ge := ge.trans gc
  refine hK _ _ ge ?_
  clear hK K gc
  refine wpK_end (by kernel_rfl) ?_
  intro W11 gf
  replace Hd := Hd.later gf
  replace ge := ge.trans gf
  clear gf
  replace xa := xa.later ge
  replace xb := xb.later ge
  replace xk := xk.later ge
  replace xj := xj.later ge
  replace xn := xn.later ge
  replace HH := HH.later ge
  have PB := below_step HPB.out ge
  clear ge HPB
  have xd : Box W11 Bd (d0 : Nat) (d1 : Nat) (d2 : Nat) (d3 : Nat) := ⟨Hd.cell 0, Hd.cell 1, Hd.cell 2, Hd.cell 3⟩
  clear Hd
  clear ld
  have ca := xa
  obtain ⟨ca0, ca1, ca2, ca3⟩ := ca
  have la := World.block_lt_of_cell? _ _ ca0
  simp only [] at la
  have cn := xn
  obtain ⟨cn0, cn1, cn2, cn3⟩ := cn
  have ln := World.block_lt_of_cell? _ _ cn0
  simp only [] at ln
  have cd := xd
  obtain ⟨cd0, cd1, cd2, cd3⟩ := cd
  have ld := World.block_lt_of_cell? _ _ cd0
  simp only [] at ld
  have HPB := Lib.hid PB
  clear PB
  go_wp2_with fail
  have PB := HPB.out
  clear HPB
  clear ca0 ca1 ca2 ca3 cn0 cn1 cn2 cn3 cd0 cd1 cd2 cd3 la ln ld
  refine (SUB1H.out.none _).mono ?_
  rintro e w12 ⟨rfl, hc⟩
  replace xa := xa.later hc
  replace xb := xb.later hc
  replace xk := xk.later hc
  replace xj := xj.later hc
  replace xn := xn.later hc
  replace xd := xd.later hc
  replace HH := HH.later hc
  have PC := below_step PB hc
  clear PB hc
  have PB := PC
  clear PC
  have HPB := Lib.hid PB
  clear PB
  go_wp2_with fail
  have PB := HPB.out
  clear HPB
  replace xa := xa.alloc (.cells #[.int .u64 (r0 : Nat), .int .u64 (r1 : Nat), .int .u64 (r2 : Nat), .int .u64 (r3 : Nat)] 25)
  replace xb := xb.alloc (.cells #[.int .u64 (r0 : Nat), .int .u64 (r1 : Nat), .int .u64 (r2 : Nat), .int .u64 (r3 : Nat)] 25)
  replace xk := xk.alloc (.cells #[.int .u64 (r0 : Nat), .int .u64 (r1 : Nat), .int .u64 (r2 : Nat), .int .u64 (r3 : Nat)] 25)
  replace xj := xj.alloc (.cells #[.int .u64 (r0 : Nat), .int .u64 (r1 : Nat), .int .u64 (r2 : Nat), .int .u64 (r3 : Nat)] 25)
  replace xn := xn.alloc (.cells #[.int .u64 (r0 : Nat), .int .u64 (r1 : Nat), .int .u64 (r2 : Nat), .int .u64 (r3 : Nat)] 25)
  replace xd := xd.alloc (.cells #[.int .u64 (r0 : Nat), .int .u64 (r1 : Nat), .int .u64 (r2 : Nat), .int .u64 (r3 : Nat)] 25)
  replace HH := HH.later ((Below.refl _ _).alloc (Nat.le_refl _) (.cells #[.int .u64 (r0 : Nat), .int .u64 (r1 : Nat), .int .u64 (r2 : Nat), .int .u64 (r3 : Nat)] 25))
  have xr := Box.new (w12) (r0 : Nat) (r1 : Nat) (r2 : Nat) (r3 : Nat) 25
  have PC := below_alloc PB (.cells #[.int .u64 (r0 : Nat), .int .u64 (r1 : Nat), .int .u64 (r2 : Nat), .int .u64 (r3 : Nat)] 25)
  clear PB
  have PB := PC
  clear PC
  generalize (w12).alloc (.cells #[.int .u64 (r0 : Nat), .int .u64 (r1 : Nat), .int .u64 (r2 : Nat), .int .u64 (r3 : Nat)] 25) = W13 at *
  generalize w12.heap.size = Br at *
  have HPB := Lib.hid PB
  clear PB
  refine wp_region_grow 6 (by kernel_rfl) (Nat.le_of_ble_eq_true (by kernel_rfl)) (by kernel_rfl) (by kernel_rfl) (fun _ _ _ _ _ h => h) ?_
  apply Exists.intro
  refine ⟨?_, ?_⟩
  · intro wg hg
    simp only [List.take_succ_cons, List.take_zero]
    have ck := xk.later hg
    obtain ⟨ck0, ck1, ck2, ck3⟩ := ck
    have uk0 : ∀ u : After wg, u.w.cell? ⟨Bk, 0, none⟩ = some (.int .u64 (k0 : Nat)) := fun u => u.cell ck0
    have uk1 : ∀ u : After wg, u.w.cell? ⟨Bk, 1, none⟩ = some (.int .u64 (k1 : Nat)) := fun u => u.cell ck1
    have uk2 : ∀ u : After wg, u.w.cell? ⟨Bk, 2, none⟩ = some (.int .u64 (k2 : Nat)) := fun u => u.cell ck2
    have uk3 : ∀ u : After wg, u.w.cell? ⟨Bk, 3, none⟩ = some (.int .u64 (k3 : Nat)) := fun u => u.cell ck3
    repeat (go_big_quiet_step ((first | (go_at_call 24; exact after_call (of_int 1 _)) | (go_at_call 21; exact after_call (SUB2H.out.one _)))))
    refine wpQuiet_nil ?_
    exact rfl
  intro wg hg
  show wpK _ _ _ _ _ 3 _ _ _
  refine wpK_box1 (f := 2) (i := 6) (c := #[.int .u64 0, .int .u64 0, .int .u64 0, .int .u64 0]) (T := 25) (by kernel_rfl) rfl rfl rfl (fun w => by go_simp) hg ?_
  intro Bl wh gh ll Hl
  replace ll := Nat.le_trans hg.size ll
  have ge := hg.trans gh
  clear hg gh
  refine wpK_one (f := 1) (i := 7) (by kernel_rfl) rfl rfl ?_
  intro wc gc K hK
  replace ge := ge.trans gc
  replace Hl := Hl.later gc
  have ic0 : wc.cell? ⟨Bl, 0, none⟩ = some (.int .u64 0) := Hl.cell 0
  have iz0 : wc.frozen? ⟨Bl, 0, none⟩ = false := Hl.free 0
  have ic1 : wc.cell? ⟨Bl, 1, none⟩ = some (.int .u64 0) := Hl.cell 1
  have iz1 : wc.frozen? ⟨Bl, 1, none⟩ = false := Hl.free 1
  have ic2 : wc.cell? ⟨Bl, 2, none⟩ = some (.int .u64 0) := Hl.cell 2
  have iz2 : wc.frozen? ⟨Bl, 2, none⟩ = false := Hl.free 2
  have ic3 : wc.cell? ⟨Bl, 3, none⟩ = some (.int .u64 0) := Hl.cell 3
  have iz3 : wc.frozen? ⟨Bl, 3, none⟩ = false := Hl.free 3
  have HGE := Lib.hid ge
  clear ge gc
  go_simp
  have ge : Grows W13 ((((wc.setCell ⟨Bl, 0, none⟩ (.int .u64 (l0 : Nat))).setCell ⟨Bl, 1, none⟩ (.int .u64 (l1 : Nat))).setCell ⟨Bl, 2, none⟩ (.int .u64 (l2 : Nat))).setCell ⟨Bl, 3, none⟩ (.int .u64 (l3 : Nat))) := (((HGE.out.setCell ll _).setCell ll _).setCell ll _).setCell ll _
  replace Hl : Holds ((((wc.setCell ⟨Bl, 0, none⟩ (.int .u64 (l0 : Nat))).setCell ⟨Bl, 1, none⟩ (.int .u64 (l1 : Nat))).setCell ⟨Bl, 2, none⟩ (.int .u64 (l2 : Nat))).setCell ⟨Bl, 3, none⟩ (.int .u64 (l3 : Nat))) Bl #[.int .u64 (l0 : Nat), .int .u64 (l1 : Nat), .int .u64 (l2 : Nat), .int .u64 (l3 : Nat)] 25 := (((Hl.set _).set _).set _).set _
  clear ic0 ic1 ic2 ic3 iz0 iz1 iz2 iz3 HGE
  refine hK _ _ ge ?_
  clear hK K
  generalize (((wc.setCell ⟨Bl, 0, none⟩ (.int .u64 (l0 : Nat))).setCell ⟨Bl, 1, none⟩ (.int .u64 (l1 : Nat))).setCell ⟨Bl, 2, none⟩ (.int .u64 (l2 : Nat))).setCell ⟨Bl, 3, none⟩ (.int .u64 (l3 : Nat)) = wd at *
  clear wc
  refine wpK_one (f := 0) (i := 8) (by kernel_rfl) rfl rfl ?_
  intro wc gc K hK
  go_simp
  replace Hl := Hl.later gc
  replace ge := ge.trans gc
  refine hK _ _ ge ?_
  clear hK K gc
  refine wpK_end (by kernel_rfl) ?_
  intro W14 gf
  replace Hl := Hl.later gf
  replace ge := ge.trans gf
  clear gf
  replace xa := xa.later ge
  replace xb := xb.later ge
  replace xk := xk.later ge
  replace xj := xj.later ge
  replace xn := xn.later ge
  replace xd := xd.later ge
  replace xr := xr.later ge
  replace HH := HH.later ge
  have PB := below_step HPB.out ge
  clear ge HPB
  have xl : Box W14 Bl (l0 : Nat) (l1 : Nat) (l2 : Nat) (l3 : Nat) := ⟨Hl.cell 0, Hl.cell 1, Hl.cell 2, Hl.cell 3⟩
  clear Hl
  clear ll
  have cr := xr
  obtain ⟨cr0, cr1, cr2, cr3⟩ := cr
  have lr := World.block_lt_of_cell? _ _ cr0
  simp only [] at lr
  have cd := xd
  obtain ⟨cd0, cd1, cd2, cd3⟩ := cd
  have ld := World.block_lt_of_cell? _ _ cd0
  simp only [] at ld
  have HPB := Lib.hid PB
  clear PB
  go_wp2_with fail
  have PB := HPB.out
  clear HPB
  clear cr0 cr1 cr2 cr3 cd0 cd1 cd2 cd3 lr ld
  refine (DIVH.out _).mono ?_
  rintro e w15 ⟨rfl, hc⟩
  replace xa := xa.later hc
  replace xb := xb.later hc
  replace xk := xk.later hc
  replace xj := xj.later hc
  replace xn := xn.later hc
  replace xd := xd.later hc
  replace xr := xr.later hc
  replace xl := xl.later hc
  replace HH := HH.later hc
  have PC := below_step PB hc
  clear PB hc
  have PB := PC
  clear PC
  have cl := xl
  obtain ⟨cl0, cl1, cl2, cl3⟩ := cl
  have ll := World.block_lt_of_cell? _ _ cl0
  simp only [] at ll
  have ck := xk
  obtain ⟨ck0, ck1, ck2, ck3⟩ := ck
  have lk := World.block_lt_of_cell? _ _ ck0
  simp only [] at lk
  have cn := xn
  obtain ⟨cn0, cn1, cn2, cn3⟩ := cn
  have ln := World.block_lt_of_cell? _ _ cn0
  simp only [] at ln
  have HPB := Lib.hid PB
  clear PB
  go_wp2_with fail
  have PB := HPB.out
  clear HPB
  clear cl0 cl1 cl2 cl3 ck0 ck1 ck2 ck3 cn0 cn1 cn2 cn3 ll lk ln
  replace xa := xa.alloc (.cells #[.int .u64 (l0 : Nat), .int .u64 (l1 : Nat), .int .u64 (l2 : Nat), .int .u64 (l3 : Nat)] 25)
  replace xb := xb.alloc (.cells #[.int .u64 (l0 : Nat), .int .u64 (l1 : Nat), .int .u64 (l2 : Nat), .int .u64 (l3 : Nat)] 25)
  replace xk := xk.alloc (.cells #[.int .u64 (l0 : Nat), .int .u64 (l1 : Nat), .int .u64 (l2 : Nat), .int .u64 (l3 : Nat)] 25)
  replace xj := xj.alloc (.cells #[.int .u64 (l0 : Nat), .int .u64 (l1 : Nat), .int .u64 (l2 : Nat), .int .u64 (l3 : Nat)] 25)
  replace xn := xn.alloc (.cells #[.int .u64 (l0 : Nat), .int .u64 (l1 : Nat), .int .u64 (l2 : Nat), .int .u64 (l3 : Nat)] 25)
  replace xd := xd.alloc (.cells #[.int .u64 (l0 : Nat), .int .u64 (l1 : Nat), .int .u64 (l2 : Nat), .int .u64 (l3 : Nat)] 25)
  replace xr := xr.alloc (.cells #[.int .u64 (l0 : Nat), .int .u64 (l1 : Nat), .int .u64 (l2 : Nat), .int .u64 (l3 : Nat)] 25)
  replace xl := xl.alloc (.cells #[.int .u64 (l0 : Nat), .int .u64 (l1 : Nat), .int .u64 (l2 : Nat), .int .u64 (l3 : Nat)] 25)
  replace HH := HH.later ((Below.refl _ _).alloc (Nat.le_refl _) (.cells #[.int .u64 (l0 : Nat), .int .u64 (l1 : Nat), .int .u64 (l2 : Nat), .int .u64 (l3 : Nat)] 25))
  have xq := Box.new (w15) (l0 : Nat) (l1 : Nat) (l2 : Nat) (l3 : Nat) 25
  have PC := below_alloc PB (.cells #[.int .u64 (l0 : Nat), .int .u64 (l1 : Nat), .int .u64 (l2 : Nat), .int .u64 (l3 : Nat)] 25)
  clear PB
  have PB := PC
  clear PC
  replace xa := xa.alloc (.cells #[.int .u64 (x0 : Nat), .int .u64 (x1 : Nat), .int .u64 (x2 : Nat), .int .u64 (x3 : Nat)] 25)
  replace xb := xb.alloc (.cells #[.int .u64 (x0 : Nat), .int .u64 (x1 : Nat), .int .u64 (x2 : Nat), .int .u64 (x3 : Nat)] 25)
  replace xk := xk.alloc (.cells #[.int .u64 (x0 : Nat), .int .u64 (x1 : Nat), .int .u64 (x2 : Nat), .int .u64 (x3 : Nat)] 25)
  replace xj := xj.alloc (.cells #[.int .u64 (x0 : Nat), .int .u64 (x1 : Nat), .int .u64 (x2 : Nat), .int .u64 (x3 : Nat)] 25)
  replace xn := xn.alloc (.cells #[.int .u64 (x0 : Nat), .int .u64 (x1 : Nat), .int .u64 (x2 : Nat), .int .u64 (x3 : Nat)] 25)
  replace xd := xd.alloc (.cells #[.int .u64 (x0 : Nat), .int .u64 (x1 : Nat), .int .u64 (x2 : Nat), .int .u64 (x3 : Nat)] 25)
  replace xr := xr.alloc (.cells #[.int .u64 (x0 : Nat), .int .u64 (x1 : Nat), .int .u64 (x2 : Nat), .int .u64 (x3 : Nat)] 25)
  replace xl := xl.alloc (.cells #[.int .u64 (x0 : Nat), .int .u64 (x1 : Nat), .int .u64 (x2 : Nat), .int .u64 (x3 : Nat)] 25)
  replace xq := xq.alloc (.cells #[.int .u64 (x0 : Nat), .int .u64 (x1 : Nat), .int .u64 (x2 : Nat), .int .u64 (x3 : Nat)] 25)
  replace HH := HH.later ((Below.refl _ _).alloc (Nat.le_refl _) (.cells #[.int .u64 (x0 : Nat), .int .u64 (x1 : Nat), .int .u64 (x2 : Nat), .int .u64 (x3 : Nat)] 25))
  have xx := Box.new ((w15).alloc (.cells #[.int .u64 (l0 : Nat), .int .u64 (l1 : Nat), .int .u64 (l2 : Nat), .int .u64 (l3 : Nat)] 25)) (x0 : Nat) (x1 : Nat) (x2 : Nat) (x3 : Nat) 25
  simp only [World.size_alloc] at xx
  have PC := below_alloc PB (.cells #[.int .u64 (x0 : Nat), .int .u64 (x1 : Nat), .int .u64 (x2 : Nat), .int .u64 (x3 : Nat)] 25)
  clear PB
  have PB := PC
  clear PC
  generalize ((w15).alloc (.cells #[.int .u64 (l0 : Nat), .int .u64 (l1 : Nat), .int .u64 (l2 : Nat), .int .u64 (l3 : Nat)] 25)).alloc (.cells #[.int .u64 (x0 : Nat), .int .u64 (x1 : Nat), .int .u64 (x2 : Nat), .int .u64 (x3 : Nat)] 25) = W16 at *
  generalize w15.heap.size + 1 = Bx at *
  generalize w15.heap.size = Bq at *
  refine (works_any _).mono ?_
  rintro e w17 ⟨rfl, hc⟩
  replace xa := xa.later hc
  replace xb := xb.later hc
  replace xk := xk.later hc
  replace xj := xj.later hc
  replace xn := xn.later hc
  replace xd := xd.later hc
  replace xr := xr.later hc
  replace xl := xl.later hc
  replace xq := xq.later hc
  replace xx := xx.later hc
  replace HH := HH.later hc
  have PC := below_step PB hc
  clear PB hc
  have PB := PC
  clear PC
  have HPB := Lib.hid PB
  clear PB
  go_wp2_with fail
  have PB := HPB.out
  clear HPB
  go_ret
  exact ⟨rfl, PB⟩

end Go.Proofs.Ytnipajfglmahiaa
