/- BigSums returns true for every two numbers and every number of 64 bits, and each argument reads afterwards as it read before. No condition. -/
import Derived.Test.YtcjggdoopehkpaaRows
import Derived.Test.YtcjggdoopehkpaaRefMul
import Derived.Test.YtcjggdoopehkpaaRefSub
import Derived.Test.YtcjggdoopehkpaaRefLess
import Derived.Test.YtcjggdoopehkpaaWorks
import Derived.Test.YtcjggdoopehkpaaAnchor
import Derived.Test.YtcjggdoopehkpaaAfter
import Derived.Test.YtcjggdoopehkpaaOrder
import Derived.Test.YtcjggdoopehkpaaCon
import Derived.Test.YtcjggdoopehkpaaOpen
namespace Go.Proofs.Ytcjggdoopehkpaa
open Go.ChangeShapes Go.WideShapes Go.ChangeAt Go.RowKit

set_option maxHeartbeats 1000000 in
theorem refof (n : Nat) (w : World) : Calls Try.prog 20 #[.int .u64 (n : Nat)] w fun e w' => e = .returned (.agg #[.int .u64 (n : Nat), .int .u64 0, .int .u64 0, .int .u64 0]) ∧ Below w.heap.size w w' := by
  go_enter Try.func20, Try.ntmps20
  go_wp2_with fail
  go_returns
  refine ⟨rfl, ?_⟩
  go_grown

set_option maxRecDepth 100000 in
set_option maxHeartbeats 8000000 in
theorem sums_walk (a0 a1 a2 a3 b0 b1 b2 b3 s0 s1 s2 s3 d0 d1 d2 d3 m0 m1 m2 m3 n x k : Nat) (o u r : Bool) (w : World)
    (hadd : ∀ w : World, Calls Try.prog 9 #[.agg #[.int .u64 (a0 : Nat), .int .u64 (a1 : Nat), .int .u64 (a2 : Nat), .int .u64 (a3 : Nat)], .agg #[.int .u64 (b0 : Nat), .int .u64 (b1 : Nat), .int .u64 (b2 : Nat), .int .u64 (b3 : Nat)]] w fun e w' => e = .returned (.tuple #[.agg #[.int .u64 (s0 : Nat), .int .u64 (s1 : Nat), .int .u64 (s2 : Nat), .int .u64 (s3 : Nat)], .bool o]) ∧ Below w.heap.size w w') (hradd : ∀ w : World, Calls Try.prog 10 #[.agg #[.int .u64 (a0 : Nat), .int .u64 (a1 : Nat), .int .u64 (a2 : Nat), .int .u64 (a3 : Nat)], .agg #[.int .u64 (b0 : Nat), .int .u64 (b1 : Nat), .int .u64 (b2 : Nat), .int .u64 (b3 : Nat)]] w fun e w' => e = .returned (.tuple #[.agg #[.int .u64 (s0 : Nat), .int .u64 (s1 : Nat), .int .u64 (s2 : Nat), .int .u64 (s3 : Nat)], .bool o]) ∧ Below w.heap.size w w')
    (hsub : ∀ w : World, Calls Try.prog 11 #[.agg #[.int .u64 (a0 : Nat), .int .u64 (a1 : Nat), .int .u64 (a2 : Nat), .int .u64 (a3 : Nat)], .agg #[.int .u64 (b0 : Nat), .int .u64 (b1 : Nat), .int .u64 (b2 : Nat), .int .u64 (b3 : Nat)]] w fun e w' => e = .returned (.tuple #[.agg #[.int .u64 (d0 : Nat), .int .u64 (d1 : Nat), .int .u64 (d2 : Nat), .int .u64 (d3 : Nat)], .bool u]) ∧ Below w.heap.size w w') (hrsub : ∀ w : World, Calls Try.prog 12 #[.agg #[.int .u64 (a0 : Nat), .int .u64 (a1 : Nat), .int .u64 (a2 : Nat), .int .u64 (a3 : Nat)], .agg #[.int .u64 (b0 : Nat), .int .u64 (b1 : Nat), .int .u64 (b2 : Nat), .int .u64 (b3 : Nat)]] w fun e w' => e = .returned (.tuple #[.agg #[.int .u64 (d0 : Nat), .int .u64 (d1 : Nat), .int .u64 (d2 : Nat), .int .u64 (d3 : Nat)], .bool u]) ∧ Below w.heap.size w w')
    (hmul : ∀ w : World, Calls Try.prog 13 #[.agg #[.int .u64 (a0 : Nat), .int .u64 (a1 : Nat), .int .u64 (a2 : Nat), .int .u64 (a3 : Nat)], .int .u64 (n : Nat)] w fun e w' => e = .returned (.tuple #[.agg #[.int .u64 (m0 : Nat), .int .u64 (m1 : Nat), .int .u64 (m2 : Nat), .int .u64 (m3 : Nat)], .int .u64 (x : Nat)]) ∧ Below w.heap.size w w') (hrmul : ∀ w : World, Calls Try.prog 14 #[.agg #[.int .u64 (a0 : Nat), .int .u64 (a1 : Nat), .int .u64 (a2 : Nat), .int .u64 (a3 : Nat)], .int .u64 (n : Nat)] w fun e w' => e = .returned (.tuple #[.agg #[.int .u64 (m0 : Nat), .int .u64 (m1 : Nat), .int .u64 (m2 : Nat), .int .u64 (m3 : Nat)], .int .u64 (x : Nat)]) ∧ Below w.heap.size w w')
    (hless : ∀ w : World, Calls Try.prog 15 #[.agg #[.int .u64 (a0 : Nat), .int .u64 (a1 : Nat), .int .u64 (a2 : Nat), .int .u64 (a3 : Nat)], .agg #[.int .u64 (b0 : Nat), .int .u64 (b1 : Nat), .int .u64 (b2 : Nat), .int .u64 (b3 : Nat)]] w fun e w' => e = .returned (.bool r) ∧ Below w.heap.size w w') (hrless : ∀ w : World, Calls Try.prog 16 #[.agg #[.int .u64 (a0 : Nat), .int .u64 (a1 : Nat), .int .u64 (a2 : Nat), .int .u64 (a3 : Nat)], .agg #[.int .u64 (b0 : Nat), .int .u64 (b1 : Nat), .int .u64 (b2 : Nat), .int .u64 (b3 : Nat)]] w fun e w' => e = .returned (.bool r) ∧ Below w.heap.size w w')
    (hbits : ∀ w : World, Calls Try.prog 17 #[.agg #[.int .u64 (a0 : Nat), .int .u64 (a1 : Nat), .int .u64 (a2 : Nat), .int .u64 (a3 : Nat)]] w fun e w' => e = .returned (.int .i64 (k : Nat)) ∧ Below w.heap.size w w') (hrbits : ∀ w : World, Calls Try.prog 18 #[.agg #[.int .u64 (a0 : Nat), .int .u64 (a1 : Nat), .int .u64 (a2 : Nat), .int .u64 (a3 : Nat)]] w fun e w' => e = .returned (.int .i64 (k : Nat)) ∧ Below w.heap.size w w')
    (es : EqIs s0 s1 s2 s3 s0 s1 s2 s3 true) (ed : EqIs d0 d1 d2 d3 d0 d1 d2 d3 true) (em : EqIs m0 m1 m2 m3 m0 m1 m2 m3 true) (en : EqIs n 0 0 0 n 0 0 0 true) :
    Calls Try.prog 3 #[.agg #[.int .u64 (a0 : Nat), .int .u64 (a1 : Nat), .int .u64 (a2 : Nat), .int .u64 (a3 : Nat)], .agg #[.int .u64 (b0 : Nat), .int .u64 (b1 : Nat), .int .u64 (b2 : Nat), .int .u64 (b3 : Nat)], .int .u64 (n : Nat)] w fun e w' => e = .returned (.bool true) ∧ Below w.heap.size w w' := by
  have ADD1 := Lib.hid hadd
  have ADD2 := Lib.hid hradd
  have SUB1 := Lib.hid hsub
  have SUB2 := Lib.hid hrsub
  have MUL1 := Lib.hid hmul
  have MUL2 := Lib.hid hrmul
  have LESS1 := Lib.hid hless
  have LESS2 := Lib.hid hrless
  have BITS1 := Lib.hid hbits
  have BITS2 := Lib.hid hrbits
  clear hadd hradd hsub hrsub hmul hrmul hless hrless hbits hrbits
  unfold EqIs at es ed em en
  have en' : ∀ w : World, (Op.equalIn 10000 24 (.agg #[.int .u64 (n : Nat), .int .u64 0, .int .u64 0, .int .u64 0]) (.agg #[.int .u64 (n : Nat), .int .u64 0, .int .u64 0, .int .u64 0])).run Try.prog w = .ok true w := en
  clear en
  go_enter Try.func3, Try.ntmps3
  go_wp2_with fail
  refine (ADD1.out _).mono ?_
  rintro e w1 ⟨rfl, h1⟩
  have PB : Below w.heap.size w w1 := (((Below.refl _ _).alloc (Nat.le_refl _) _).alloc (by simp) _).trans (h1.mono (by simp; omega))
  have xa : Box w1 w.heap.size a0 a1 a2 a3 := ((Box.new w (a0 : Nat) (a1 : Nat) (a2 : Nat) (a3 : Nat) 24).alloc _).later h1
  have xb : Box w1 (w.heap.size + 1) b0 b1 b2 b3 := by
    have h := (Box.new (w.alloc (.cells #[.int .u64 (a0 : Nat), .int .u64 (a1 : Nat), .int .u64 (a2 : Nat), .int .u64 (a3 : Nat)] 24)) (b0 : Nat) (b1 : Nat) (b2 : Nat) (b3 : Nat) 24).later h1
    simpa using h
  clear h1
  generalize w.heap.size + 1 = Bb at *
  have ca := xa
  obtain ⟨ca0, ca1, ca2, ca3⟩ := ca
  have la := World.block_lt_of_cell? _ _ ca0
  simp only [] at la
  have cb := xb
  obtain ⟨cb0, cb1, cb2, cb3⟩ := cb
  have lb := World.block_lt_of_cell? _ _ cb0
  simp only [] at lb
  have HPB := Lib.hid PB
  clear PB
  go_wp2_with fail
  have PB := HPB.out
  clear HPB
  clear ca0 ca1 ca2 ca3 cb0 cb1 cb2 cb3 la lb
  replace xa := xa.alloc (.cells #[.int .u64 (s0 : Nat), .int .u64 (s1 : Nat), .int .u64 (s2 : Nat), .int .u64 (s3 : Nat)] 24)
  replace xb := xb.alloc (.cells #[.int .u64 (s0 : Nat), .int .u64 (s1 : Nat), .int .u64 (s2 : Nat), .int .u64 (s3 : Nat)] 24)
  have xs := Box.new (w1) (s0 : Nat) (s1 : Nat) (s2 : Nat) (s3 : Nat) 24
  have PC := below_alloc PB (.cells #[.int .u64 (s0 : Nat), .int .u64 (s1 : Nat), .int .u64 (s2 : Nat), .int .u64 (s3 : Nat)] 24)
  clear PB
  have PB := PC
  clear PC
  generalize (w1).alloc (.cells #[.int .u64 (s0 : Nat), .int .u64 (s1 : Nat), .int .u64 (s2 : Nat), .int .u64 (s3 : Nat)] 24) = W1 at *
  generalize w1.heap.size = Bs at *
  refine (ADD2.out _).mono ?_
  rintro e w2 ⟨rfl, hc⟩
  replace xa := xa.later hc
  replace xb := xb.later hc
  replace xs := xs.later hc
  have PC := below_step PB hc
  clear PB hc
  have PB := PC
  clear PC
  have ca := xa
  obtain ⟨ca0, ca1, ca2, ca3⟩ := ca
  have la := World.block_lt_of_cell? _ _ ca0
  simp only [] at la
  have cb := xb
  obtain ⟨cb0, cb1, cb2, cb3⟩ := cb
  have lb := World.block_lt_of_cell? _ _ cb0
  simp only [] at lb
  have HPB := Lib.hid PB
  clear PB
  go_wp2_with fail
  have PB := HPB.out
  clear HPB
  clear ca0 ca1 ca2 ca3 cb0 cb1 cb2 cb3 la lb
  replace xa := xa.alloc (.cells #[.int .u64 (s0 : Nat), .int .u64 (s1 : Nat), .int .u64 (s2 : Nat), .int .u64 (s3 : Nat)] 24)
  replace xb := xb.alloc (.cells #[.int .u64 (s0 : Nat), .int .u64 (s1 : Nat), .int .u64 (s2 : Nat), .int .u64 (s3 : Nat)] 24)
  replace xs := xs.alloc (.cells #[.int .u64 (s0 : Nat), .int .u64 (s1 : Nat), .int .u64 (s2 : Nat), .int .u64 (s3 : Nat)] 24)
  have xt := Box.new (w2) (s0 : Nat) (s1 : Nat) (s2 : Nat) (s3 : Nat) 24
  have PC := below_alloc PB (.cells #[.int .u64 (s0 : Nat), .int .u64 (s1 : Nat), .int .u64 (s2 : Nat), .int .u64 (s3 : Nat)] 24)
  clear PB
  have PB := PC
  clear PC
  generalize (w2).alloc (.cells #[.int .u64 (s0 : Nat), .int .u64 (s1 : Nat), .int .u64 (s2 : Nat), .int .u64 (s3 : Nat)] 24) = W3 at *
  generalize w2.heap.size = Bt at *
  refine (SUB1.out _).mono ?_
  rintro e w4 ⟨rfl, hc⟩
  replace xa := xa.later hc
  replace xb := xb.later hc
  replace xs := xs.later hc
  replace xt := xt.later hc
  have PC := below_step PB hc
  clear PB hc
  have PB := PC
  clear PC
  have ca := xa
  obtain ⟨ca0, ca1, ca2, ca3⟩ := ca
  have la := World.block_lt_of_cell? _ _ ca0
  simp only [] at la
  have cb := xb
  obtain ⟨cb0, cb1, cb2, cb3⟩ := cb
  have lb := World.block_lt_of_cell? _ _ cb0
  simp only [] at lb
  have HPB := Lib.hid PB
  clear PB
  go_wp2_with fail
  have PB := HPB.out
  clear HPB
  clear ca0 ca1 ca2 ca3 cb0 cb1 cb2 cb3 la lb
  replace xa := xa.alloc (.cells #[.int .u64 (d0 : Nat), .int .u64 (d1 : Nat), .int .u64 (d2 : Nat), .int .u64 (d3 : Nat)] 24)
  replace xb := xb.alloc (.cells #[.int .u64 (d0 : Nat), .int .u64 (d1 : Nat), .int .u64 (d2 : Nat), .int .u64 (d3 : Nat)] 24)
  replace xs := xs.alloc (.cells #[.int .u64 (d0 : Nat), .int .u64 (d1 : Nat), .int .u64 (d2 : Nat), .int .u64 (d3 : Nat)] 24)
  replace xt := xt.alloc (.cells #[.int .u64 (d0 : Nat), .int .u64 (d1 : Nat), .int .u64 (d2 : Nat), .int .u64 (d3 : Nat)] 24)
  have xd := Box.new (w4) (d0 : Nat) (d1 : Nat) (d2 : Nat) (d3 : Nat) 24
  have PC := below_alloc PB (.cells #[.int .u64 (d0 : Nat), .int .u64 (d1 : Nat), .int .u64 (d2 : Nat), .int .u64 (d3 : Nat)] 24)
  clear PB
  have PB := PC
  clear PC
  generalize (w4).alloc (.cells #[.int .u64 (d0 : Nat), .int .u64 (d1 : Nat), .int .u64 (d2 : Nat), .int .u64 (d3 : Nat)] 24) = W5 at *
  generalize w4.heap.size = Bd at *
  refine (SUB2.out _).mono ?_
  rintro e w6 ⟨rfl, hc⟩
  replace xa := xa.later hc
  replace xb := xb.later hc
  replace xs := xs.later hc
  replace xt := xt.later hc
  replace xd := xd.later hc
  have PC := below_step PB hc
  clear PB hc
  have PB := PC
  clear PC
  have ca := xa
  obtain ⟨ca0, ca1, ca2, ca3⟩ := ca
  have la := World.block_lt_of_cell? _ _ ca0
  simp only [] at la
  have HPB := Lib.hid PB
  clear PB
  go_wp2_with fail
  have PB := HPB.out
  clear HPB
  clear ca0 ca1 ca2 ca3 la
  replace xa := xa.alloc (.cells #[.int .u64 (d0 : Nat), .int .u64 (d1 : Nat), .int .u64 (d2 : Nat), .int .u64 (d3 : Nat)] 24)
  replace xb := xb.alloc (.cells #[.int .u64 (d0 : Nat), .int .u64 (d1 : Nat), .int .u64 (d2 : Nat), .int .u64 (d3 : Nat)] 24)
  replace xs := xs.alloc (.cells #[.int .u64 (d0 : Nat), .int .u64 (d1 : Nat), .int .u64 (d2 : Nat), .int .u64 (d3 : Nat)] 24)
  replace xt := xt.alloc (.cells #[.int .u64 (d0 : Nat), .int .u64 (d1 : Nat), .int .u64 (d2 : Nat), .int .u64 (d3 : Nat)] 24)
  replace xd := xd.alloc (.cells #[.int .u64 (d0 : Nat), .int .u64 (d1 : Nat), .int .u64 (d2 : Nat), .int .u64 (d3 : Nat)] 24)
  have xc := Box.new (w6) (d0 : Nat) (d1 : Nat) (d2 : Nat) (d3 : Nat) 24
  have PC := below_alloc PB (.cells #[.int .u64 (d0 : Nat), .int .u64 (d1 : Nat), .int .u64 (d2 : Nat), .int .u64 (d3 : Nat)] 24)
  clear PB
  have PB := PC
  clear PC
  generalize (w6).alloc (.cells #[.int .u64 (d0 : Nat), .int .u64 (d1 : Nat), .int .u64 (d2 : Nat), .int .u64 (d3 : Nat)] 24) = W7 at *
  generalize w6.heap.size = Bc at *
  refine (MUL1.out _).mono ?_
  rintro e w8 ⟨rfl, hc⟩
  replace xa := xa.later hc
  replace xb := xb.later hc
  replace xs := xs.later hc
  replace xt := xt.later hc
  replace xd := xd.later hc
  replace xc := xc.later hc
  have PC := below_step PB hc
  clear PB hc
  have PB := PC
  clear PC
  have ca := xa
  obtain ⟨ca0, ca1, ca2, ca3⟩ := ca
  have la := World.block_lt_of_cell? _ _ ca0
  simp only [] at la
  have HPB := Lib.hid PB
  clear PB
  go_wp2_with fail
  have PB := HPB.out
  clear HPB
  clear ca0 ca1 ca2 ca3 la
  replace xa := xa.alloc (.cells #[.int .u64 (m0 : Nat), .int .u64 (m1 : Nat), .int .u64 (m2 : Nat), .int .u64 (m3 : Nat)] 24)
  replace xb := xb.alloc (.cells #[.int .u64 (m0 : Nat), .int .u64 (m1 : Nat), .int .u64 (m2 : Nat), .int .u64 (m3 : Nat)] 24)
  replace xs := xs.alloc (.cells #[.int .u64 (m0 : Nat), .int .u64 (m1 : Nat), .int .u64 (m2 : Nat), .int .u64 (m3 : Nat)] 24)
  replace xt := xt.alloc (.cells #[.int .u64 (m0 : Nat), .int .u64 (m1 : Nat), .int .u64 (m2 : Nat), .int .u64 (m3 : Nat)] 24)
  replace xd := xd.alloc (.cells #[.int .u64 (m0 : Nat), .int .u64 (m1 : Nat), .int .u64 (m2 : Nat), .int .u64 (m3 : Nat)] 24)
  replace xc := xc.alloc (.cells #[.int .u64 (m0 : Nat), .int .u64 (m1 : Nat), .int .u64 (m2 : Nat), .int .u64 (m3 : Nat)] 24)
  have xm := Box.new (w8) (m0 : Nat) (m1 : Nat) (m2 : Nat) (m3 : Nat) 24
  have PC := below_alloc PB (.cells #[.int .u64 (m0 : Nat), .int .u64 (m1 : Nat), .int .u64 (m2 : Nat), .int .u64 (m3 : Nat)] 24)
  clear PB
  have PB := PC
  clear PC
  generalize (w8).alloc (.cells #[.int .u64 (m0 : Nat), .int .u64 (m1 : Nat), .int .u64 (m2 : Nat), .int .u64 (m3 : Nat)] 24) = W9 at *
  generalize w8.heap.size = Bm at *
  refine (MUL2.out _).mono ?_
  rintro e w10 ⟨rfl, hc⟩
  replace xa := xa.later hc
  replace xb := xb.later hc
  replace xs := xs.later hc
  replace xt := xt.later hc
  replace xd := xd.later hc
  replace xc := xc.later hc
  replace xm := xm.later hc
  have PC := below_step PB hc
  clear PB hc
  have PB := PC
  clear PC
  have cs := xs
  obtain ⟨cs0, cs1, cs2, cs3⟩ := cs
  have ls := World.block_lt_of_cell? _ _ cs0
  simp only [] at ls
  have ct := xt
  obtain ⟨ct0, ct1, ct2, ct3⟩ := ct
  have lt := World.block_lt_of_cell? _ _ ct0
  simp only [] at lt
  have cd := xd
  obtain ⟨cd0, cd1, cd2, cd3⟩ := cd
  have ld := World.block_lt_of_cell? _ _ cd0
  simp only [] at ld
  have cc := xc
  obtain ⟨cc0, cc1, cc2, cc3⟩ := cc
  have lc := World.block_lt_of_cell? _ _ cc0
  simp only [] at lc
  have cm := xm
  obtain ⟨cm0, cm1, cm2, cm3⟩ := cm
  have lm := World.block_lt_of_cell? _ _ cm0
  simp only [] at lm
  have HPB := Lib.hid PB
  clear PB
  go_wp2_with fail
  have PB := HPB.out
  clear HPB
  clear cs0 cs1 cs2 cs3 ct0 ct1 ct2 ct3 cd0 cd1 cd2 cd3 cc0 cc1 cc2 cc3 cm0 cm1 cm2 cm3 ls lt ld lc lm
  replace xa := xa.alloc (.cells #[.int .u64 (m0 : Nat), .int .u64 (m1 : Nat), .int .u64 (m2 : Nat), .int .u64 (m3 : Nat)] 24)
  replace xb := xb.alloc (.cells #[.int .u64 (m0 : Nat), .int .u64 (m1 : Nat), .int .u64 (m2 : Nat), .int .u64 (m3 : Nat)] 24)
  replace xs := xs.alloc (.cells #[.int .u64 (m0 : Nat), .int .u64 (m1 : Nat), .int .u64 (m2 : Nat), .int .u64 (m3 : Nat)] 24)
  replace xt := xt.alloc (.cells #[.int .u64 (m0 : Nat), .int .u64 (m1 : Nat), .int .u64 (m2 : Nat), .int .u64 (m3 : Nat)] 24)
  replace xd := xd.alloc (.cells #[.int .u64 (m0 : Nat), .int .u64 (m1 : Nat), .int .u64 (m2 : Nat), .int .u64 (m3 : Nat)] 24)
  replace xc := xc.alloc (.cells #[.int .u64 (m0 : Nat), .int .u64 (m1 : Nat), .int .u64 (m2 : Nat), .int .u64 (m3 : Nat)] 24)
  replace xm := xm.alloc (.cells #[.int .u64 (m0 : Nat), .int .u64 (m1 : Nat), .int .u64 (m2 : Nat), .int .u64 (m3 : Nat)] 24)
  have xp := Box.new (w10) (m0 : Nat) (m1 : Nat) (m2 : Nat) (m3 : Nat) 24
  have PC := below_alloc PB (.cells #[.int .u64 (m0 : Nat), .int .u64 (m1 : Nat), .int .u64 (m2 : Nat), .int .u64 (m3 : Nat)] 24)
  clear PB
  have PB := PC
  clear PC
  generalize (w10).alloc (.cells #[.int .u64 (m0 : Nat), .int .u64 (m1 : Nat), .int .u64 (m2 : Nat), .int .u64 (m3 : Nat)] 24) = W11 at *
  generalize w10.heap.size = Bp at *
  have cs := xs
  obtain ⟨cs0, cs1, cs2, cs3⟩ := cs
  have ls := World.block_lt_of_cell? _ _ cs0
  simp only [] at ls
  have ct := xt
  obtain ⟨ct0, ct1, ct2, ct3⟩ := ct
  have lt := World.block_lt_of_cell? _ _ ct0
  simp only [] at lt
  have cd := xd
  obtain ⟨cd0, cd1, cd2, cd3⟩ := cd
  have ld := World.block_lt_of_cell? _ _ cd0
  simp only [] at ld
  have cc := xc
  obtain ⟨cc0, cc1, cc2, cc3⟩ := cc
  have lc := World.block_lt_of_cell? _ _ cc0
  simp only [] at lc
  have cm := xm
  obtain ⟨cm0, cm1, cm2, cm3⟩ := cm
  have lm := World.block_lt_of_cell? _ _ cm0
  simp only [] at lm
  have cp := xp
  obtain ⟨cp0, cp1, cp2, cp3⟩ := cp
  have lp := World.block_lt_of_cell? _ _ cp0
  simp only [] at lp
  have HPB := Lib.hid PB
  clear PB
  go_wp2_with fail
  have PB := HPB.out
  clear HPB
  clear cs0 cs1 cs2 cs3 ct0 ct1 ct2 ct3 cd0 cd1 cd2 cd3 cc0 cc1 cc2 cc3 cm0 cm1 cm2 cm3 cp0 cp1 cp2 cp3 ls lt ld lc lm lp
  have ca := xa
  obtain ⟨ca0, ca1, ca2, ca3⟩ := ca
  have la := World.block_lt_of_cell? _ _ ca0
  simp only [] at la
  have cb := xb
  obtain ⟨cb0, cb1, cb2, cb3⟩ := cb
  have lb := World.block_lt_of_cell? _ _ cb0
  simp only [] at lb
  have ua0 : ∀ u : After W11, u.w.cell? ⟨w.heap.size, 0, none⟩ = some (.int .u64 (a0 : Nat)) := fun u => u.cell ca0
  have ua1 : ∀ u : After W11, u.w.cell? ⟨w.heap.size, 1, none⟩ = some (.int .u64 (a1 : Nat)) := fun u => u.cell ca1
  have ua2 : ∀ u : After W11, u.w.cell? ⟨w.heap.size, 2, none⟩ = some (.int .u64 (a2 : Nat)) := fun u => u.cell ca2
  have ua3 : ∀ u : After W11, u.w.cell? ⟨w.heap.size, 3, none⟩ = some (.int .u64 (a3 : Nat)) := fun u => u.cell ca3
  have ub0 : ∀ u : After W11, u.w.cell? ⟨Bb, 0, none⟩ = some (.int .u64 (b0 : Nat)) := fun u => u.cell cb0
  have ub1 : ∀ u : After W11, u.w.cell? ⟨Bb, 1, none⟩ = some (.int .u64 (b1 : Nat)) := fun u => u.cell cb1
  have ub2 : ∀ u : After W11, u.w.cell? ⟨Bb, 2, none⟩ = some (.int .u64 (b2 : Nat)) := fun u => u.cell cb2
  have ub3 : ∀ u : After W11, u.w.cell? ⟨Bb, 3, none⟩ = some (.int .u64 (b3 : Nat)) := fun u => u.cell cb3
  have HPB := Lib.hid PB
  clear PB
  refine wp_region_after (by kernel_rfl) (by kernel_rfl) ?_
  repeat (go_big_quiet_step ((first | (go_at_call 15; exact after_call (LESS1.out _)) | (go_at_call 16; exact after_call (LESS2.out _)) | (go_at_call 17; exact after_call (BITS1.out _)) | (go_at_call 18; exact after_call (BITS2.out _)) | (go_at_call 19; exact after_call (ofIs n _)) | (go_at_call 20; exact after_call (refof n _)) | (go_at_call 21; exact after_call (works_any _)))))
  refine wpQuiet_nil ?_
  rintro _ ⟨u, rfl⟩
  clear ca0 ca1 ca2 ca3 cb0 cb1 cb2 cb3 la lb
  clear ua0 ua1 ua2 ua3 ub0 ub1 ub2 ub3
  replace xa := xa.later u.below
  replace xb := xb.later u.below
  replace xs := xs.later u.below
  replace xt := xt.later u.below
  replace xd := xd.later u.below
  replace xc := xc.later u.below
  replace xm := xm.later u.below
  replace xp := xp.later u.below
  have PB := below_step HPB.out u.below
  clear HPB
  generalize u.w = W12 at *
  clear u
  have HPB := Lib.hid PB
  clear PB
  go_wp2_with fail
  have PB := HPB.out
  clear HPB
  go_ret
  exact ⟨rfl, PB⟩

theorem sums_any (a0 a1 a2 a3 b0 b1 b2 b3 n : Nat) (ha : Words a0 a1 a2 a3) (hb : Words b0 b1 b2 b3) (hn : n < 18446744073709551616) (w : World) :
    Calls Try.prog 3 #[.agg #[.int .u64 (a0 : Nat), .int .u64 (a1 : Nat), .int .u64 (a2 : Nat), .int .u64 (a3 : Nat)], .agg #[.int .u64 (b0 : Nat), .int .u64 (b1 : Nat), .int .u64 (b2 : Nat), .int .u64 (b3 : Nat)], .int .u64 (n : Nat)] w fun e w' => e = .returned (.bool true) ∧ Below w.heap.size w w' := by
  have la := val_lt ha
  have lb := val_lt hb
  obtain ⟨s0, s1, s2, s3, ws, es⟩ := words_of (x := (val a0 a1 a2 a3 + val b0 b1 b2 b3) % 115792089237316195423570985008687907853269984665640564039457584007913129639936) (Nat.mod_lt _ (by decide))
  obtain ⟨d0, d1, d2, d3, wd, ed⟩ := words_of (x := if val a0 a1 a2 a3 < val b0 b1 b2 b3 then val a0 a1 a2 a3 + 115792089237316195423570985008687907853269984665640564039457584007913129639936 - val b0 b1 b2 b3 else val a0 a1 a2 a3 - val b0 b1 b2 b3) (by split <;> omega)
  obtain ⟨m0, m1, m2, m3, wm, em⟩ := words_of (x := val a0 a1 a2 a3 * n % 115792089237316195423570985008687907853269984665640564039457584007913129639936) (Nat.mod_lt _ (by decide))
  have same : ∀ {x0 x1 x2 x3 : Nat}, Words x0 x1 x2 x3 → EqIs x0 x1 x2 x3 x0 x1 x2 x3 true := fun h => eqIs h h true (by symm; rw [decide_eq_true_iff])
  have pm : val m0 m1 m2 m3 + 115792089237316195423570985008687907853269984665640564039457584007913129639936 * (val a0 a1 a2 a3 * n / 115792089237316195423570985008687907853269984665640564039457584007913129639936) = val a0 a1 a2 a3 * n := by rw [em]; exact Nat.mod_add_div _ _
  refine sums_walk a0 a1 a2 a3 b0 b1 b2 b3 s0 s1 s2 s3 d0 d1 d2 d3 m0 m1 m2 m3 n (val a0 a1 a2 a3 * n / 115792089237316195423570985008687907853269984665640564039457584007913129639936) _ _ _ _ w (addIs ha hb ws _ es rfl) (fun w => ?_) (subIs ha hb wd _ ed rfl) (fun w => ?_) (mulIs ha hn wm pm) (fun w => ?_) (lessIs ha hb _ rfl) (refless_any ha hb _ rfl) (bitsIs ha) (refbits_any ha (bits4_of ha)) (same ws) (same wd) (same wm) (same ⟨hn, by omega, by omega, by omega⟩)
  · refine (refadd_any ha hb _ rfl w).mono fun e w' ⟨o0, o1, o2, o3, he, wo, vo, hbl⟩ => ?_
    obtain ⟨rfl, rfl, rfl, rfl⟩ := val_inj wo ws (vo.trans es.symm)
    exact ⟨he, hbl⟩
  · refine (refsub_any ha hb _ rfl w).mono fun e w' ⟨o0, o1, o2, o3, he, wo, vo, hbl⟩ => ?_
    obtain ⟨rfl, rfl, rfl, rfl⟩ := val_inj wo wd (vo.trans (by rw [ed]; split <;> omega))
    exact ⟨he, hbl⟩
  · refine (refmul_any ha hn w).mono fun e w' ⟨o0, o1, o2, o3, he, wo, vo, hbl⟩ => ?_
    obtain ⟨rfl, rfl, rfl, rfl⟩ := val_inj wo wm (vo.trans em.symm)
    exact ⟨he, hbl⟩

set_option maxRecDepth 100000 in
theorem bigSums_lifted (os : Os) (started : os.Started) (H : Type) (enc : TypeId × Value → H) :
    ReturnsInHanded {} Try.checked os 3 .any (Rows.bigSumsSpec.pre6 enc Try.prog Try.f3 Rows.bigSumsRow.domain false) (Rows.bigSumsSpec.post enc Try.prog Try.f3 false true false false) := by
  refine returnsInHanded_of_change (C := Try.checked) Try.own started (by kernel_rfl) Try.func3
    (ChangeSpec.witness6 (enc := enc) (C := Try.checked) false ⟨#[], #[.agg #[.int .u64 0, .int .u64 0, .int .u64 0, .int .u64 0], .agg #[.int .u64 0, .int .u64 0, .int .u64 0, .int .u64 0], .int .u64 0], []⟩ 8 (by kernel_rfl) (by kernel_rfl) (by kernel_rfl) (by kernel_rfl)) ?_
  intro W base args ds gs before hval0 hW hcnd _
  have hval : ∀ (j : Nat) t v, Try.f3.params[j]? = some t → args[j]? = some v → Value.okWide Try.prog W .any base t v := hval0
  have hW' := hW
  obtain ⟨p, q, hA0, hV, rfl, hfz, hnd⟩ := hW
  have hA : DataW.TrodAll enc Try.prog W 0 (fun _ => true) true Try.f3.params.toList args.toList ds p := hA0
  rw [Try.params3] at hA hval
  obtain ⟨v0, vs0, d0, ds0, p0, q0, hargs, rfl, rfl, h0, r0⟩ := trodAll_cons hA
  obtain ⟨v1, vs1, d1, ds1, p1, q1, rfl, rfl, rfl, h1, r1⟩ := trodAll_cons r0
  obtain ⟨v2, vs2, d2, ds2, p2, q2, rfl, rfl, rfl, h2, r2⟩ := trodAll_cons r1
  obtain ⟨rfl, rfl, rfl⟩ := trodAll_nil r2
  obtain rfl : args = #[v0, v1, v2] := by cases args; simp_all
  obtain ⟨rfl, rfl⟩ := trodVars_none hV
  have lt0 : ∀ x ∈ p0, x.block < W.heap.size := by obtain ⟨m, hm⟩ := h0; exact DataW.trod_lt m _ _ _ hm
  have lt1 : ∀ x ∈ p1, x.block < W.heap.size := by obtain ⟨m, hm⟩ := h1; exact DataW.trod_lt m _ _ _ hm
  have lt2 : ∀ x ∈ p2, x.block < W.heap.size := by obtain ⟨m, hm⟩ := h2; exact DataW.trod_lt m _ _ _ hm
  obtain ⟨a0, a1, a2, a3, wa, rfl⟩ := open_big (hval 0 24 v0 rfl rfl) h0
  obtain ⟨b0, b1, b2, b3, wb, rfl⟩ := open_big (hval 1 24 v1 rfl rfl) h1
  obtain ⟨c, wc, rfl⟩ := open_u64 (hval 2 22 v2 rfl rfl) h2
  clear hA0 hval0
  refine (sums_any a0 a1 a2 a3 b0 b1 b2 b3 c wa wb wc W).mono fun e W' ⟨he, bel⟩ => ?_
  subst he
  exact ⟨_, rfl, _, _, _, [], _, [], hW', trodAll_mk1 (shut_bool Try.underlying4 _), (trodAll_cons_mk (Below.trod Try.laidOut (by kernel_rfl) (of_decide_eq_true (by kernel_rfl)) h0 bel lt0) (trodAll_cons_mk (Below.trod Try.laidOut (by kernel_rfl) (of_decide_eq_true (by kernel_rfl)) h1 bel lt1) (trodAll_cons_mk (Below.trod Try.laidOut (by kernel_rfl) (of_decide_eq_true (by kernel_rfl)) h2 bel lt2) trodAll_mk0))), rfl, bel.frame _, fun h => by cases h⟩

theorem bigSums_holds : Rows.BigSumsSaid :=
  OpenClaim.holds_of_wide 3 Try.f3 rfl rfl rfl rfl rfl rfl rfl ⟨rfl, rfl, rfl, rfl, rfl⟩ rfl rfl rfl rfl rfl (by kernel_rfl) Try.func3 (by kernel_rfl)
    (of_decide_eq_true (by kernel_rfl)) (by unfold Func.isWrapper; rw [if_neg (of_decide_eq_false (by kernel_rfl))]; exact ⟨rfl, rfl⟩)
    (fun os started H enc _ => bigSums_lifted os started H enc)

end Go.Proofs.Ytcjggdoopehkpaa
