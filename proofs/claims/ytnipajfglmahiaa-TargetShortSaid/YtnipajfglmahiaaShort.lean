/- TargetShort of the statements of layer 3, walked: what it asks of the packages target and big, given what each call returns. -/
import Derived.Test.YtnipajfglmahiaaTAnchor
import Derived.Test.YtnipajfglmahiaaTShortMath
namespace Go.Proofs.Ytnipajfglmahiaa
open Go.RowKit

theorem lit_comp0 (w : World) : Calls Try.prog 10 #[.agg #[.int .u64 0, .int .u64 0, .int .u64 0, .int .u64 0]] w fun e w' => e = .returned (.int .u32 0) ∧ Below w.heap.size w w' :=
  compIs (a0 := 0) (a1 := 0) (a2 := 0) (a3 := 0) (nb := 0) (c := 0) ⟨by omega, by omega, by omega, by omega⟩ ⟨fun _ => rfl, fun h => absurd rfl h⟩ (by decide) w

set_option maxRecDepth 100000 in
set_option maxHeartbeats 8000000 in
theorem short_az (a0 a1 a2 a3 b0 b1 b2 b3 : Nat) (w : World) (ea : EqZ a0 a1 a2 a3 true) :
    Calls Try.prog 5 #[.agg #[.int .u64 (a0 : Nat), .int .u64 (a1 : Nat), .int .u64 (a2 : Nat), .int .u64 (a3 : Nat)], .agg #[.int .u64 (b0 : Nat), .int .u64 (b1 : Nat), .int .u64 (b2 : Nat), .int .u64 (b3 : Nat)]] w fun e w' => e = .returned (.bool true) ∧ Below w.heap.size w w' := by
  unfold EqZ at ea
  go_enter Try.func5, Try.ntmps5
  go_wp2_with fail
  have PB := below3 w #[.int .u64 (a0 : Nat), .int .u64 (a1 : Nat), .int .u64 (a2 : Nat), .int .u64 (a3 : Nat)] #[.int .u64 (b0 : Nat), .int .u64 (b1 : Nat), .int .u64 (b2 : Nat), .int .u64 (b3 : Nat)] #[.int .u64 0, .int .u64 0, .int .u64 0, .int .u64 0]
  have H0 : Holds (((w.alloc (.cells #[.int .u64 (a0 : Nat), .int .u64 (a1 : Nat), .int .u64 (a2 : Nat), .int .u64 (a3 : Nat)] 25)).alloc (.cells #[.int .u64 (b0 : Nat), .int .u64 (b1 : Nat), .int .u64 (b2 : Nat), .int .u64 (b3 : Nat)] 25)).alloc (.cells #[.int .u64 0, .int .u64 0, .int .u64 0, .int .u64 0] 25)) w.heap.size #[.int .u64 (a0 : Nat), .int .u64 (a1 : Nat), .int .u64 (a2 : Nat), .int .u64 (a3 : Nat)] 25 := boxes3 w _ _ _ 0 _ rfl
  have H1 : Holds (((w.alloc (.cells #[.int .u64 (a0 : Nat), .int .u64 (a1 : Nat), .int .u64 (a2 : Nat), .int .u64 (a3 : Nat)] 25)).alloc (.cells #[.int .u64 (b0 : Nat), .int .u64 (b1 : Nat), .int .u64 (b2 : Nat), .int .u64 (b3 : Nat)] 25)).alloc (.cells #[.int .u64 0, .int .u64 0, .int .u64 0, .int .u64 0] 25)) (w.heap.size + 1) #[.int .u64 (b0 : Nat), .int .u64 (b1 : Nat), .int .u64 (b2 : Nat), .int .u64 (b3 : Nat)] 25 := boxes3 w _ _ _ 1 _ rfl
  have xa : Box (((w.alloc (.cells #[.int .u64 (a0 : Nat), .int .u64 (a1 : Nat), .int .u64 (a2 : Nat), .int .u64 (a3 : Nat)] 25)).alloc (.cells #[.int .u64 (b0 : Nat), .int .u64 (b1 : Nat), .int .u64 (b2 : Nat), .int .u64 (b3 : Nat)] 25)).alloc (.cells #[.int .u64 0, .int .u64 0, .int .u64 0, .int .u64 0] 25)) w.heap.size a0 a1 a2 a3 := ⟨H0.cell 0, H0.cell 1, H0.cell 2, H0.cell 3⟩
  have xb : Box (((w.alloc (.cells #[.int .u64 (a0 : Nat), .int .u64 (a1 : Nat), .int .u64 (a2 : Nat), .int .u64 (a3 : Nat)] 25)).alloc (.cells #[.int .u64 (b0 : Nat), .int .u64 (b1 : Nat), .int .u64 (b2 : Nat), .int .u64 (b3 : Nat)] 25)).alloc (.cells #[.int .u64 0, .int .u64 0, .int .u64 0, .int .u64 0] 25)) (w.heap.size + 1) b0 b1 b2 b3 := ⟨H1.cell 0, H1.cell 1, H1.cell 2, H1.cell 3⟩
  clear H0 H1
  generalize ((w.alloc (.cells #[.int .u64 (a0 : Nat), .int .u64 (a1 : Nat), .int .u64 (a2 : Nat), .int .u64 (a3 : Nat)] 25)).alloc (.cells #[.int .u64 (b0 : Nat), .int .u64 (b1 : Nat), .int .u64 (b2 : Nat), .int .u64 (b3 : Nat)] 25)).alloc (.cells #[.int .u64 0, .int .u64 0, .int .u64 0, .int .u64 0] 25) = W1 at *
  generalize w.heap.size + 1 = Bb at *
  refine (lit_comp0 _).mono ?_
  rintro e w2 ⟨rfl, hc⟩
  replace xa := xa.later hc
  replace xb := xb.later hc
  have PC := below_step PB hc
  clear PB hc
  have PB := PC
  clear PC
  have HPB := Lib.hid PB
  clear PB
  go_wp2_with fail
  have PB := HPB.out
  clear HPB
  refine (works_any _).mono ?_
  rintro e w3 ⟨rfl, hc⟩
  replace xa := xa.later hc
  replace xb := xb.later hc
  have PC := below_step PB hc
  clear PB hc
  have PB := PC
  clear PC
  have HPB := Lib.hid PB
  clear PB
  go_wp2_with fail
  have PB := HPB.out
  clear HPB
  go_ret
  exact ⟨rfl, PB⟩

set_option maxRecDepth 100000 in
set_option maxHeartbeats 8000000 in
theorem short_bz (a0 a1 a2 a3 b0 b1 b2 b3 : Nat) (w : World) (ea : EqZ a0 a1 a2 a3 false) (eb : EqZ b0 b1 b2 b3 true) :
    Calls Try.prog 5 #[.agg #[.int .u64 (a0 : Nat), .int .u64 (a1 : Nat), .int .u64 (a2 : Nat), .int .u64 (a3 : Nat)], .agg #[.int .u64 (b0 : Nat), .int .u64 (b1 : Nat), .int .u64 (b2 : Nat), .int .u64 (b3 : Nat)]] w fun e w' => e = .returned (.bool true) ∧ Below w.heap.size w w' := by
  unfold EqZ at ea eb
  go_enter Try.func5, Try.ntmps5
  go_wp2_with fail
  have PB := below3 w #[.int .u64 (a0 : Nat), .int .u64 (a1 : Nat), .int .u64 (a2 : Nat), .int .u64 (a3 : Nat)] #[.int .u64 (b0 : Nat), .int .u64 (b1 : Nat), .int .u64 (b2 : Nat), .int .u64 (b3 : Nat)] #[.int .u64 0, .int .u64 0, .int .u64 0, .int .u64 0]
  have H0 : Holds (((w.alloc (.cells #[.int .u64 (a0 : Nat), .int .u64 (a1 : Nat), .int .u64 (a2 : Nat), .int .u64 (a3 : Nat)] 25)).alloc (.cells #[.int .u64 (b0 : Nat), .int .u64 (b1 : Nat), .int .u64 (b2 : Nat), .int .u64 (b3 : Nat)] 25)).alloc (.cells #[.int .u64 0, .int .u64 0, .int .u64 0, .int .u64 0] 25)) w.heap.size #[.int .u64 (a0 : Nat), .int .u64 (a1 : Nat), .int .u64 (a2 : Nat), .int .u64 (a3 : Nat)] 25 := boxes3 w _ _ _ 0 _ rfl
  have H1 : Holds (((w.alloc (.cells #[.int .u64 (a0 : Nat), .int .u64 (a1 : Nat), .int .u64 (a2 : Nat), .int .u64 (a3 : Nat)] 25)).alloc (.cells #[.int .u64 (b0 : Nat), .int .u64 (b1 : Nat), .int .u64 (b2 : Nat), .int .u64 (b3 : Nat)] 25)).alloc (.cells #[.int .u64 0, .int .u64 0, .int .u64 0, .int .u64 0] 25)) (w.heap.size + 1) #[.int .u64 (b0 : Nat), .int .u64 (b1 : Nat), .int .u64 (b2 : Nat), .int .u64 (b3 : Nat)] 25 := boxes3 w _ _ _ 1 _ rfl
  have xa : Box (((w.alloc (.cells #[.int .u64 (a0 : Nat), .int .u64 (a1 : Nat), .int .u64 (a2 : Nat), .int .u64 (a3 : Nat)] 25)).alloc (.cells #[.int .u64 (b0 : Nat), .int .u64 (b1 : Nat), .int .u64 (b2 : Nat), .int .u64 (b3 : Nat)] 25)).alloc (.cells #[.int .u64 0, .int .u64 0, .int .u64 0, .int .u64 0] 25)) w.heap.size a0 a1 a2 a3 := ⟨H0.cell 0, H0.cell 1, H0.cell 2, H0.cell 3⟩
  have xb : Box (((w.alloc (.cells #[.int .u64 (a0 : Nat), .int .u64 (a1 : Nat), .int .u64 (a2 : Nat), .int .u64 (a3 : Nat)] 25)).alloc (.cells #[.int .u64 (b0 : Nat), .int .u64 (b1 : Nat), .int .u64 (b2 : Nat), .int .u64 (b3 : Nat)] 25)).alloc (.cells #[.int .u64 0, .int .u64 0, .int .u64 0, .int .u64 0] 25)) (w.heap.size + 1) b0 b1 b2 b3 := ⟨H1.cell 0, H1.cell 1, H1.cell 2, H1.cell 3⟩
  clear H0 H1
  generalize ((w.alloc (.cells #[.int .u64 (a0 : Nat), .int .u64 (a1 : Nat), .int .u64 (a2 : Nat), .int .u64 (a3 : Nat)] 25)).alloc (.cells #[.int .u64 (b0 : Nat), .int .u64 (b1 : Nat), .int .u64 (b2 : Nat), .int .u64 (b3 : Nat)] 25)).alloc (.cells #[.int .u64 0, .int .u64 0, .int .u64 0, .int .u64 0] 25) = W1 at *
  generalize w.heap.size + 1 = Bb at *
  refine (lit_comp0 _).mono ?_
  rintro e w2 ⟨rfl, hc⟩
  replace xa := xa.later hc
  replace xb := xb.later hc
  have PC := below_step PB hc
  clear PB hc
  have PB := PC
  clear PC
  have HPB := Lib.hid PB
  clear PB
  go_wp2_with fail
  have PB := HPB.out
  clear HPB
  refine (works_any _).mono ?_
  rintro e w3 ⟨rfl, hc⟩
  replace xa := xa.later hc
  replace xb := xb.later hc
  have PC := below_step PB hc
  clear PB hc
  have PB := PC
  clear PC
  have HPB := Lib.hid PB
  clear PB
  go_wp2_with fail
  have PB := HPB.out
  clear HPB
  go_ret
  exact ⟨rfl, PB⟩

set_option maxRecDepth 100000 in
set_option maxHeartbeats 8000000 in
theorem short_ge (a0 a1 a2 a3 b0 b1 b2 b3 s0 s1 s2 s3 d0 d1 d2 d3 c na nd : Nat) (w : World) (_hna : na ≤ 256) (_hnd : nd ≤ 256) (ea : EqZ a0 a1 a2 a3 false) (eb : EqZ b0 b1 b2 b3 false) (ca : CompIs a0 a1 a2 a3 c) (of1 : TOfIs c s0 s1 s2 s3 true) (less1 : LessIs a0 a1 a2 a3 s0 s1 s2 s3 false) (cs : CompIs s0 s1 s2 s3 c) (sub : SubIs a0 a1 a2 a3 s0 s1 s2 s3 d0 d1 d2 d3 false) (bd : BitsIs d0 d1 d2 d3 nd) (ba : BitsIs a0 a1 a2 a3 na) (hmx : decide (max 0 ((na : Int) - 15) < (nd : Int)) = false) (less2 : LessIs b0 b1 b2 b3 a0 a1 a2 a3 false) :
    Calls Try.prog 5 #[.agg #[.int .u64 (a0 : Nat), .int .u64 (a1 : Nat), .int .u64 (a2 : Nat), .int .u64 (a3 : Nat)], .agg #[.int .u64 (b0 : Nat), .int .u64 (b1 : Nat), .int .u64 (b2 : Nat), .int .u64 (b3 : Nat)]] w fun e w' => e = .returned (.bool true) ∧ Below w.heap.size w w' := by
  have CA := Lib.hid ca
  have OF1 := Lib.hid of1
  have LESS1 := Lib.hid less1
  have CS := Lib.hid cs
  have SUB := Lib.hid sub
  have BD := Lib.hid bd
  have BA := Lib.hid ba
  have HMX := Lib.hid hmx
  have LESS2 := Lib.hid less2
  clear ca of1 less1 cs sub bd ba hmx less2
  unfold EqZ at ea eb
  go_enter Try.func5, Try.ntmps5
  go_wp2_with fail
  have PB := below3 w #[.int .u64 (a0 : Nat), .int .u64 (a1 : Nat), .int .u64 (a2 : Nat), .int .u64 (a3 : Nat)] #[.int .u64 (b0 : Nat), .int .u64 (b1 : Nat), .int .u64 (b2 : Nat), .int .u64 (b3 : Nat)] #[.int .u64 0, .int .u64 0, .int .u64 0, .int .u64 0]
  have H0 : Holds (((w.alloc (.cells #[.int .u64 (a0 : Nat), .int .u64 (a1 : Nat), .int .u64 (a2 : Nat), .int .u64 (a3 : Nat)] 25)).alloc (.cells #[.int .u64 (b0 : Nat), .int .u64 (b1 : Nat), .int .u64 (b2 : Nat), .int .u64 (b3 : Nat)] 25)).alloc (.cells #[.int .u64 0, .int .u64 0, .int .u64 0, .int .u64 0] 25)) w.heap.size #[.int .u64 (a0 : Nat), .int .u64 (a1 : Nat), .int .u64 (a2 : Nat), .int .u64 (a3 : Nat)] 25 := boxes3 w _ _ _ 0 _ rfl
  have H1 : Holds (((w.alloc (.cells #[.int .u64 (a0 : Nat), .int .u64 (a1 : Nat), .int .u64 (a2 : Nat), .int .u64 (a3 : Nat)] 25)).alloc (.cells #[.int .u64 (b0 : Nat), .int .u64 (b1 : Nat), .int .u64 (b2 : Nat), .int .u64 (b3 : Nat)] 25)).alloc (.cells #[.int .u64 0, .int .u64 0, .int .u64 0, .int .u64 0] 25)) (w.heap.size + 1) #[.int .u64 (b0 : Nat), .int .u64 (b1 : Nat), .int .u64 (b2 : Nat), .int .u64 (b3 : Nat)] 25 := boxes3 w _ _ _ 1 _ rfl
  have xa : Box (((w.alloc (.cells #[.int .u64 (a0 : Nat), .int .u64 (a1 : Nat), .int .u64 (a2 : Nat), .int .u64 (a3 : Nat)] 25)).alloc (.cells #[.int .u64 (b0 : Nat), .int .u64 (b1 : Nat), .int .u64 (b2 : Nat), .int .u64 (b3 : Nat)] 25)).alloc (.cells #[.int .u64 0, .int .u64 0, .int .u64 0, .int .u64 0] 25)) w.heap.size a0 a1 a2 a3 := ⟨H0.cell 0, H0.cell 1, H0.cell 2, H0.cell 3⟩
  have xb : Box (((w.alloc (.cells #[.int .u64 (a0 : Nat), .int .u64 (a1 : Nat), .int .u64 (a2 : Nat), .int .u64 (a3 : Nat)] 25)).alloc (.cells #[.int .u64 (b0 : Nat), .int .u64 (b1 : Nat), .int .u64 (b2 : Nat), .int .u64 (b3 : Nat)] 25)).alloc (.cells #[.int .u64 0, .int .u64 0, .int .u64 0, .int .u64 0] 25)) (w.heap.size + 1) b0 b1 b2 b3 := ⟨H1.cell 0, H1.cell 1, H1.cell 2, H1.cell 3⟩
  clear H0 H1
  generalize ((w.alloc (.cells #[.int .u64 (a0 : Nat), .int .u64 (a1 : Nat), .int .u64 (a2 : Nat), .int .u64 (a3 : Nat)] 25)).alloc (.cells #[.int .u64 (b0 : Nat), .int .u64 (b1 : Nat), .int .u64 (b2 : Nat), .int .u64 (b3 : Nat)] 25)).alloc (.cells #[.int .u64 0, .int .u64 0, .int .u64 0, .int .u64 0] 25) = W1 at *
  generalize w.heap.size + 1 = Bb at *
  refine (CA.out _).mono ?_
  rintro e w2 ⟨rfl, hc⟩
  replace xa := xa.later hc
  replace xb := xb.later hc
  have PC := below_step PB hc
  clear PB hc
  have PB := PC
  clear PC
  have HPB := Lib.hid PB
  clear PB
  go_wp2_with fail
  have PB := HPB.out
  clear HPB
  refine (OF1.out _).mono ?_
  rintro e w3 ⟨rfl, hc⟩
  replace xa := xa.later hc
  replace xb := xb.later hc
  have PC := below_step PB hc
  clear PB hc
  have PB := PC
  clear PC
  have ca := xa
  obtain ⟨ca0, ca1, ca2, ca3⟩ := ca
  have la := World.block_lt_of_cell? _ _ ca0
  simp only [] at la
  have HPB := Lib.hid PB
  clear PB
  go_wp2_with fail
  have PB := HPB.out
  clear HPB
  clear ca0 ca1 ca2 ca3 la
  replace xa := xa.alloc (.cells #[.int .u64 (s0 : Nat), .int .u64 (s1 : Nat), .int .u64 (s2 : Nat), .int .u64 (s3 : Nat)] 25)
  replace xb := xb.alloc (.cells #[.int .u64 (s0 : Nat), .int .u64 (s1 : Nat), .int .u64 (s2 : Nat), .int .u64 (s3 : Nat)] 25)
  have xs := Box.new (w3) (s0 : Nat) (s1 : Nat) (s2 : Nat) (s3 : Nat) 25
  have PC := below_alloc PB (.cells #[.int .u64 (s0 : Nat), .int .u64 (s1 : Nat), .int .u64 (s2 : Nat), .int .u64 (s3 : Nat)] 25)
  clear PB
  have PB := PC
  clear PC
  generalize (w3).alloc (.cells #[.int .u64 (s0 : Nat), .int .u64 (s1 : Nat), .int .u64 (s2 : Nat), .int .u64 (s3 : Nat)] 25) = W4 at *
  generalize w3.heap.size = Bs at *
  refine (LESS1.out _).mono ?_
  rintro e w5 ⟨rfl, hc⟩
  replace xa := xa.later hc
  replace xb := xb.later hc
  replace xs := xs.later hc
  have PC := below_step PB hc
  clear PB hc
  have PB := PC
  clear PC
  have cs := xs
  obtain ⟨cs0, cs1, cs2, cs3⟩ := cs
  have ls := World.block_lt_of_cell? _ _ cs0
  simp only [] at ls
  have HPB := Lib.hid PB
  clear PB
  go_wp2_with fail
  have PB := HPB.out
  clear HPB
  clear cs0 cs1 cs2 cs3 ls
  refine (CS.out _).mono ?_
  rintro e w6 ⟨rfl, hc⟩
  replace xa := xa.later hc
  replace xb := xb.later hc
  replace xs := xs.later hc
  have PC := below_step PB hc
  clear PB hc
  have PB := PC
  clear PC
  have ca := xa
  obtain ⟨ca0, ca1, ca2, ca3⟩ := ca
  have la := World.block_lt_of_cell? _ _ ca0
  simp only [] at la
  have cs := xs
  obtain ⟨cs0, cs1, cs2, cs3⟩ := cs
  have ls := World.block_lt_of_cell? _ _ cs0
  simp only [] at ls
  have HPB := Lib.hid PB
  clear PB
  go_wp2_with fail
  have PB := HPB.out
  clear HPB
  clear ca0 ca1 ca2 ca3 cs0 cs1 cs2 cs3 la ls
  refine (SUB.out _).mono ?_
  rintro e w7 ⟨rfl, hc⟩
  replace xa := xa.later hc
  replace xb := xb.later hc
  replace xs := xs.later hc
  have PC := below_step PB hc
  clear PB hc
  have PB := PC
  clear PC
  have HPB := Lib.hid PB
  clear PB
  go_wp2_with fail
  have PB := HPB.out
  clear HPB
  replace xa := xa.alloc (.cells #[.int .u64 (d0 : Nat), .int .u64 (d1 : Nat), .int .u64 (d2 : Nat), .int .u64 (d3 : Nat)] 25)
  replace xb := xb.alloc (.cells #[.int .u64 (d0 : Nat), .int .u64 (d1 : Nat), .int .u64 (d2 : Nat), .int .u64 (d3 : Nat)] 25)
  replace xs := xs.alloc (.cells #[.int .u64 (d0 : Nat), .int .u64 (d1 : Nat), .int .u64 (d2 : Nat), .int .u64 (d3 : Nat)] 25)
  have xd := Box.new (w7) (d0 : Nat) (d1 : Nat) (d2 : Nat) (d3 : Nat) 25
  have PC := below_alloc PB (.cells #[.int .u64 (d0 : Nat), .int .u64 (d1 : Nat), .int .u64 (d2 : Nat), .int .u64 (d3 : Nat)] 25)
  clear PB
  have PB := PC
  clear PC
  generalize (w7).alloc (.cells #[.int .u64 (d0 : Nat), .int .u64 (d1 : Nat), .int .u64 (d2 : Nat), .int .u64 (d3 : Nat)] 25) = W8 at *
  generalize w7.heap.size = Bd at *
  have cd := xd
  obtain ⟨cd0, cd1, cd2, cd3⟩ := cd
  have ld := World.block_lt_of_cell? _ _ cd0
  simp only [] at ld
  have ca := xa
  obtain ⟨ca0, ca1, ca2, ca3⟩ := ca
  have la := World.block_lt_of_cell? _ _ ca0
  simp only [] at la
  have ud0 : ∀ u : After W8, u.w.cell? ⟨Bd, 0, none⟩ = some (.int .u64 (d0 : Nat)) := fun u => u.cell cd0
  have ud1 : ∀ u : After W8, u.w.cell? ⟨Bd, 1, none⟩ = some (.int .u64 (d1 : Nat)) := fun u => u.cell cd1
  have ud2 : ∀ u : After W8, u.w.cell? ⟨Bd, 2, none⟩ = some (.int .u64 (d2 : Nat)) := fun u => u.cell cd2
  have ud3 : ∀ u : After W8, u.w.cell? ⟨Bd, 3, none⟩ = some (.int .u64 (d3 : Nat)) := fun u => u.cell cd3
  have ua0 : ∀ u : After W8, u.w.cell? ⟨w.heap.size, 0, none⟩ = some (.int .u64 (a0 : Nat)) := fun u => u.cell ca0
  have ua1 : ∀ u : After W8, u.w.cell? ⟨w.heap.size, 1, none⟩ = some (.int .u64 (a1 : Nat)) := fun u => u.cell ca1
  have ua2 : ∀ u : After W8, u.w.cell? ⟨w.heap.size, 2, none⟩ = some (.int .u64 (a2 : Nat)) := fun u => u.cell ca2
  have ua3 : ∀ u : After W8, u.w.cell? ⟨w.heap.size, 3, none⟩ = some (.int .u64 (a3 : Nat)) := fun u => u.cell ca3
  have hmx := HMX.out
  have HPB := Lib.hid PB
  clear PB
  refine wp_region_after (by kernel_rfl) (by kernel_rfl) ?_
  repeat (go_big_quiet_step ((first | (go_at_call_of 22 ((d0 : Nat) : Int); exact after_call (BD.out _)) | (go_at_call_of 22 ((a0 : Nat) : Int); exact after_call (BA.out _)))))
  refine wpQuiet_nil ?_
  rintro _ ⟨u, rfl⟩
  clear cd0 cd1 cd2 cd3 ca0 ca1 ca2 ca3 ld la
  clear ud0 ud1 ud2 ud3 ua0 ua1 ua2 ua3
  clear hmx
  replace xa := xa.later u.below
  replace xb := xb.later u.below
  replace xs := xs.later u.below
  replace xd := xd.later u.below
  have PB := below_step HPB.out u.below
  clear HPB
  generalize u.w = W9 at *
  clear u
  have hmx := HMX.out
  have cb := xb
  obtain ⟨cb0, cb1, cb2, cb3⟩ := cb
  have lb := World.block_lt_of_cell? _ _ cb0
  simp only [] at lb
  have ca := xa
  obtain ⟨ca0, ca1, ca2, ca3⟩ := ca
  have la := World.block_lt_of_cell? _ _ ca0
  simp only [] at la
  have HPB := Lib.hid PB
  clear PB
  go_wp2_with fail
  have PB := HPB.out
  clear HPB
  clear cb0 cb1 cb2 cb3 ca0 ca1 ca2 ca3 lb la
  clear hmx
  refine (LESS2.out _).mono ?_
  rintro e w10 ⟨rfl, hc⟩
  replace xa := xa.later hc
  replace xb := xb.later hc
  replace xs := xs.later hc
  replace xd := xd.later hc
  have PC := below_step PB hc
  clear PB hc
  have PB := PC
  clear PC
  have HPB := Lib.hid PB
  clear PB
  go_wp2_with fail
  have PB := HPB.out
  clear HPB
  refine (works_any _).mono ?_
  rintro e w11 ⟨rfl, hc⟩
  replace xa := xa.later hc
  replace xb := xb.later hc
  replace xs := xs.later hc
  replace xd := xd.later hc
  have PC := below_step PB hc
  clear PB hc
  have PB := PC
  clear PC
  have HPB := Lib.hid PB
  clear PB
  go_wp2_with fail
  have PB := HPB.out
  clear HPB
  go_ret
  exact ⟨rfl, PB⟩

set_option maxRecDepth 100000 in
set_option maxHeartbeats 8000000 in
theorem short_lt (a0 a1 a2 a3 b0 b1 b2 b3 s0 s1 s2 s3 d0 d1 d2 d3 x0 x1 x2 x3 c na nd k : Nat) (w : World) (_hna : na ≤ 256) (_hnd : nd ≤ 256) (ea : EqZ a0 a1 a2 a3 false) (eb : EqZ b0 b1 b2 b3 false) (ca : CompIs a0 a1 a2 a3 c) (of1 : TOfIs c s0 s1 s2 s3 true) (less1 : LessIs a0 a1 a2 a3 s0 s1 s2 s3 false) (cs : CompIs s0 s1 s2 s3 c) (sub : SubIs a0 a1 a2 a3 s0 s1 s2 s3 d0 d1 d2 d3 false) (bd : BitsIs d0 d1 d2 d3 nd) (ba : BitsIs a0 a1 a2 a3 na) (hmx : decide (max 0 ((na : Int) - 15) < (nd : Int)) = false) (less2 : LessIs b0 b1 b2 b3 a0 a1 a2 a3 true) (cb : CompIs b0 b1 b2 b3 k) (of2 : TOfIs k x0 x1 x2 x3 true) (less3 : LessIs s0 s1 s2 s3 x0 x1 x2 x3 false) :
    Calls Try.prog 5 #[.agg #[.int .u64 (a0 : Nat), .int .u64 (a1 : Nat), .int .u64 (a2 : Nat), .int .u64 (a3 : Nat)], .agg #[.int .u64 (b0 : Nat), .int .u64 (b1 : Nat), .int .u64 (b2 : Nat), .int .u64 (b3 : Nat)]] w fun e w' => e = .returned (.bool true) ∧ Below w.heap.size w w' := by
  have CA := Lib.hid ca
  have OF1 := Lib.hid of1
  have LESS1 := Lib.hid less1
  have CS := Lib.hid cs
  have SUB := Lib.hid sub
  have BD := Lib.hid bd
  have BA := Lib.hid ba
  have HMX := Lib.hid hmx
  have LESS2 := Lib.hid less2
  have CB := Lib.hid cb
  have OF2 := Lib.hid of2
  have LESS3 := Lib.hid less3
  clear ca of1 less1 cs sub bd ba hmx less2 cb of2 less3
  unfold EqZ at ea eb
  go_enter Try.func5, Try.ntmps5
  go_wp2_with fail
  have PB := below3 w #[.int .u64 (a0 : Nat), .int .u64 (a1 : Nat), .int .u64 (a2 : Nat), .int .u64 (a3 : Nat)] #[.int .u64 (b0 : Nat), .int .u64 (b1 : Nat), .int .u64 (b2 : Nat), .int .u64 (b3 : Nat)] #[.int .u64 0, .int .u64 0, .int .u64 0, .int .u64 0]
  have H0 : Holds (((w.alloc (.cells #[.int .u64 (a0 : Nat), .int .u64 (a1 : Nat), .int .u64 (a2 : Nat), .int .u64 (a3 : Nat)] 25)).alloc (.cells #[.int .u64 (b0 : Nat), .int .u64 (b1 : Nat), .int .u64 (b2 : Nat), .int .u64 (b3 : Nat)] 25)).alloc (.cells #[.int .u64 0, .int .u64 0, .int .u64 0, .int .u64 0] 25)) w.heap.size #[.int .u64 (a0 : Nat), .int .u64 (a1 : Nat), .int .u64 (a2 : Nat), .int .u64 (a3 : Nat)] 25 := boxes3 w _ _ _ 0 _ rfl
  have H1 : Holds (((w.alloc (.cells #[.int .u64 (a0 : Nat), .int .u64 (a1 : Nat), .int .u64 (a2 : Nat), .int .u64 (a3 : Nat)] 25)).alloc (.cells #[.int .u64 (b0 : Nat), .int .u64 (b1 : Nat), .int .u64 (b2 : Nat), .int .u64 (b3 : Nat)] 25)).alloc (.cells #[.int .u64 0, .int .u64 0, .int .u64 0, .int .u64 0] 25)) (w.heap.size + 1) #[.int .u64 (b0 : Nat), .int .u64 (b1 : Nat), .int .u64 (b2 : Nat), .int .u64 (b3 : Nat)] 25 := boxes3 w _ _ _ 1 _ rfl
  have xa : Box (((w.alloc (.cells #[.int .u64 (a0 : Nat), .int .u64 (a1 : Nat), .int .u64 (a2 : Nat), .int .u64 (a3 : Nat)] 25)).alloc (.cells #[.int .u64 (b0 : Nat), .int .u64 (b1 : Nat), .int .u64 (b2 : Nat), .int .u64 (b3 : Nat)] 25)).alloc (.cells #[.int .u64 0, .int .u64 0, .int .u64 0, .int .u64 0] 25)) w.heap.size a0 a1 a2 a3 := ⟨H0.cell 0, H0.cell 1, H0.cell 2, H0.cell 3⟩
  have xb : Box (((w.alloc (.cells #[.int .u64 (a0 : Nat), .int .u64 (a1 : Nat), .int .u64 (a2 : Nat), .int .u64 (a3 : Nat)] 25)).alloc (.cells #[.int .u64 (b0 : Nat), .int .u64 (b1 : Nat), .int .u64 (b2 : Nat), .int .u64 (b3 : Nat)] 25)).alloc (.cells #[.int .u64 0, .int .u64 0, .int .u64 0, .int .u64 0] 25)) (w.heap.size + 1) b0 b1 b2 b3 := ⟨H1.cell 0, H1.cell 1, H1.cell 2, H1.cell 3⟩
  clear H0 H1
  generalize ((w.alloc (.cells #[.int .u64 (a0 : Nat), .int .u64 (a1 : Nat), .int .u64 (a2 : Nat), .int .u64 (a3 : Nat)] 25)).alloc (.cells #[.int .u64 (b0 : Nat), .int .u64 (b1 : Nat), .int .u64 (b2 : Nat), .int .u64 (b3 : Nat)] 25)).alloc (.cells #[.int .u64 0, .int .u64 0, .int .u64 0, .int .u64 0] 25) = W1 at *
  generalize w.heap.size + 1 = Bb at *
  refine (CA.out _).mono ?_
  rintro e w2 ⟨rfl, hc⟩
  replace xa := xa.later hc
  replace xb := xb.later hc
  have PC := below_step PB hc
  clear PB hc
  have PB := PC
  clear PC
  have HPB := Lib.hid PB
  clear PB
  go_wp2_with fail
  have PB := HPB.out
  clear HPB
  refine (OF1.out _).mono ?_
  rintro e w3 ⟨rfl, hc⟩
  replace xa := xa.later hc
  replace xb := xb.later hc
  have PC := below_step PB hc
  clear PB hc
  have PB := PC
  clear PC
  have ca := xa
  obtain ⟨ca0, ca1, ca2, ca3⟩ := ca
  have la := World.block_lt_of_cell? _ _ ca0
  simp only [] at la
  have HPB := Lib.hid PB
  clear PB
  go_wp2_with fail
  have PB := HPB.out
  clear HPB
  clear ca0 ca1 ca2 ca3 la
  replace xa := xa.alloc (.cells #[.int .u64 (s0 : Nat), .int .u64 (s1 : Nat), .int .u64 (s2 : Nat), .int .u64 (s3 : Nat)] 25)
  replace xb := xb.alloc (.cells #[.int .u64 (s0 : Nat), .int .u64 (s1 : Nat), .int .u64 (s2 : Nat), .int .u64 (s3 : Nat)] 25)
  have xs := Box.new (w3) (s0 : Nat) (s1 : Nat) (s2 : Nat) (s3 : Nat) 25
  have PC := below_alloc PB (.cells #[.int .u64 (s0 : Nat), .int .u64 (s1 : Nat), .int .u64 (s2 : Nat), .int .u64 (s3 : Nat)] 25)
  clear PB
  have PB := PC
  clear PC
  generalize (w3).alloc (.cells #[.int .u64 (s0 : Nat), .int .u64 (s1 : Nat), .int .u64 (s2 : Nat), .int .u64 (s3 : Nat)] 25) = W4 at *
  generalize w3.heap.size = Bs at *
  refine (LESS1.out _).mono ?_
  rintro e w5 ⟨rfl, hc⟩
  replace xa := xa.later hc
  replace xb := xb.later hc
  replace xs := xs.later hc
  have PC := below_step PB hc
  clear PB hc
  have PB := PC
  clear PC
  have cs := xs
  obtain ⟨cs0, cs1, cs2, cs3⟩ := cs
  have ls := World.block_lt_of_cell? _ _ cs0
  simp only [] at ls
  have HPB := Lib.hid PB
  clear PB
  go_wp2_with fail
  have PB := HPB.out
  clear HPB
  clear cs0 cs1 cs2 cs3 ls
  refine (CS.out _).mono ?_
  rintro e w6 ⟨rfl, hc⟩
  replace xa := xa.later hc
  replace xb := xb.later hc
  replace xs := xs.later hc
  have PC := below_step PB hc
  clear PB hc
  have PB := PC
  clear PC
  have ca := xa
  obtain ⟨ca0, ca1, ca2, ca3⟩ := ca
  have la := World.block_lt_of_cell? _ _ ca0
  simp only [] at la
  have cs := xs
  obtain ⟨cs0, cs1, cs2, cs3⟩ := cs
  have ls := World.block_lt_of_cell? _ _ cs0
  simp only [] at ls
  have HPB := Lib.hid PB
  clear PB
  go_wp2_with fail
  have PB := HPB.out
  clear HPB
  clear ca0 ca1 ca2 ca3 cs0 cs1 cs2 cs3 la ls
  refine (SUB.out _).mono ?_
  rintro e w7 ⟨rfl, hc⟩
  replace xa := xa.later hc
  replace xb := xb.later hc
  replace xs := xs.later hc
  have PC := below_step PB hc
  clear PB hc
  have PB := PC
  clear PC
  have HPB := Lib.hid PB
  clear PB
  go_wp2_with fail
  have PB := HPB.out
  clear HPB
  replace xa := xa.alloc (.cells #[.int .u64 (d0 : Nat), .int .u64 (d1 : Nat), .int .u64 (d2 : Nat), .int .u64 (d3 : Nat)] 25)
  replace xb := xb.alloc (.cells #[.int .u64 (d0 : Nat), .int .u64 (d1 : Nat), .int .u64 (d2 : Nat), .int .u64 (d3 : Nat)] 25)
  replace xs := xs.alloc (.cells #[.int .u64 (d0 : Nat), .int .u64 (d1 : Nat), .int .u64 (d2 : Nat), .int .u64 (d3 : Nat)] 25)
  have xd := Box.new (w7) (d0 : Nat) (d1 : Nat) (d2 : Nat) (d3 : Nat) 25
  have PC := below_alloc PB (.cells #[.int .u64 (d0 : Nat), .int .u64 (d1 : Nat), .int .u64 (d2 : Nat), .int .u64 (d3 : Nat)] 25)
  clear PB
  have PB := PC
  clear PC
  generalize (w7).alloc (.cells #[.int .u64 (d0 : Nat), .int .u64 (d1 : Nat), .int .u64 (d2 : Nat), .int .u64 (d3 : Nat)] 25) = W8 at *
  generalize w7.heap.size = Bd at *
  have cd := xd
  obtain ⟨cd0, cd1, cd2, cd3⟩ := cd
  have ld := World.block_lt_of_cell? _ _ cd0
  simp only [] at ld
  have ca := xa
  obtain ⟨ca0, ca1, ca2, ca3⟩ := ca
  have la := World.block_lt_of_cell? _ _ ca0
  simp only [] at la
  have ud0 : ∀ u : After W8, u.w.cell? ⟨Bd, 0, none⟩ = some (.int .u64 (d0 : Nat)) := fun u => u.cell cd0
  have ud1 : ∀ u : After W8, u.w.cell? ⟨Bd, 1, none⟩ = some (.int .u64 (d1 : Nat)) := fun u => u.cell cd1
  have ud2 : ∀ u : After W8, u.w.cell? ⟨Bd, 2, none⟩ = some (.int .u64 (d2 : Nat)) := fun u => u.cell cd2
  have ud3 : ∀ u : After W8, u.w.cell? ⟨Bd, 3, none⟩ = some (.int .u64 (d3 : Nat)) := fun u => u.cell cd3
  have ua0 : ∀ u : After W8, u.w.cell? ⟨w.heap.size, 0, none⟩ = some (.int .u64 (a0 : Nat)) := fun u => u.cell ca0
  have ua1 : ∀ u : After W8, u.w.cell? ⟨w.heap.size, 1, none⟩ = some (.int .u64 (a1 : Nat)) := fun u => u.cell ca1
  have ua2 : ∀ u : After W8, u.w.cell? ⟨w.heap.size, 2, none⟩ = some (.int .u64 (a2 : Nat)) := fun u => u.cell ca2
  have ua3 : ∀ u : After W8, u.w.cell? ⟨w.heap.size, 3, none⟩ = some (.int .u64 (a3 : Nat)) := fun u => u.cell ca3
  have hmx := HMX.out
  have HPB := Lib.hid PB
  clear PB
  refine wp_region_after (by kernel_rfl) (by kernel_rfl) ?_
  repeat (go_big_quiet_step ((first | (go_at_call_of 22 ((d0 : Nat) : Int); exact after_call (BD.out _)) | (go_at_call_of 22 ((a0 : Nat) : Int); exact after_call (BA.out _)))))
  refine wpQuiet_nil ?_
  rintro _ ⟨u, rfl⟩
  clear cd0 cd1 cd2 cd3 ca0 ca1 ca2 ca3 ld la
  clear ud0 ud1 ud2 ud3 ua0 ua1 ua2 ua3
  clear hmx
  replace xa := xa.later u.below
  replace xb := xb.later u.below
  replace xs := xs.later u.below
  replace xd := xd.later u.below
  have PB := below_step HPB.out u.below
  clear HPB
  generalize u.w = W9 at *
  clear u
  have hmx := HMX.out
  have cb := xb
  obtain ⟨cb0, cb1, cb2, cb3⟩ := cb
  have lb := World.block_lt_of_cell? _ _ cb0
  simp only [] at lb
  have ca := xa
  obtain ⟨ca0, ca1, ca2, ca3⟩ := ca
  have la := World.block_lt_of_cell? _ _ ca0
  simp only [] at la
  have HPB := Lib.hid PB
  clear PB
  go_wp2_with fail
  have PB := HPB.out
  clear HPB
  clear cb0 cb1 cb2 cb3 ca0 ca1 ca2 ca3 lb la
  clear hmx
  refine (LESS2.out _).mono ?_
  rintro e w10 ⟨rfl, hc⟩
  replace xa := xa.later hc
  replace xb := xb.later hc
  replace xs := xs.later hc
  replace xd := xd.later hc
  have PC := below_step PB hc
  clear PB hc
  have PB := PC
  clear PC
  have cb := xb
  obtain ⟨cb0, cb1, cb2, cb3⟩ := cb
  have lb := World.block_lt_of_cell? _ _ cb0
  simp only [] at lb
  have HPB := Lib.hid PB
  clear PB
  go_wp2_with fail
  have PB := HPB.out
  clear HPB
  clear cb0 cb1 cb2 cb3 lb
  refine (CB.out _).mono ?_
  rintro e w11 ⟨rfl, hc⟩
  replace xa := xa.later hc
  replace xb := xb.later hc
  replace xs := xs.later hc
  replace xd := xd.later hc
  have PC := below_step PB hc
  clear PB hc
  have PB := PC
  clear PC
  have HPB := Lib.hid PB
  clear PB
  go_wp2_with fail
  have PB := HPB.out
  clear HPB
  refine (OF2.out _).mono ?_
  rintro e w12 ⟨rfl, hc⟩
  replace xa := xa.later hc
  replace xb := xb.later hc
  replace xs := xs.later hc
  replace xd := xd.later hc
  have PC := below_step PB hc
  clear PB hc
  have PB := PC
  clear PC
  have cs := xs
  obtain ⟨cs0, cs1, cs2, cs3⟩ := cs
  have ls := World.block_lt_of_cell? _ _ cs0
  simp only [] at ls
  have HPB := Lib.hid PB
  clear PB
  go_wp2_with fail
  have PB := HPB.out
  clear HPB
  clear cs0 cs1 cs2 cs3 ls
  replace xa := xa.alloc (.cells #[.int .u64 (x0 : Nat), .int .u64 (x1 : Nat), .int .u64 (x2 : Nat), .int .u64 (x3 : Nat)] 25)
  replace xb := xb.alloc (.cells #[.int .u64 (x0 : Nat), .int .u64 (x1 : Nat), .int .u64 (x2 : Nat), .int .u64 (x3 : Nat)] 25)
  replace xs := xs.alloc (.cells #[.int .u64 (x0 : Nat), .int .u64 (x1 : Nat), .int .u64 (x2 : Nat), .int .u64 (x3 : Nat)] 25)
  replace xd := xd.alloc (.cells #[.int .u64 (x0 : Nat), .int .u64 (x1 : Nat), .int .u64 (x2 : Nat), .int .u64 (x3 : Nat)] 25)
  have xx := Box.new (w12) (x0 : Nat) (x1 : Nat) (x2 : Nat) (x3 : Nat) 25
  have PC := below_alloc PB (.cells #[.int .u64 (x0 : Nat), .int .u64 (x1 : Nat), .int .u64 (x2 : Nat), .int .u64 (x3 : Nat)] 25)
  clear PB
  have PB := PC
  clear PC
  generalize (w12).alloc (.cells #[.int .u64 (x0 : Nat), .int .u64 (x1 : Nat), .int .u64 (x2 : Nat), .int .u64 (x3 : Nat)] 25) = W13 at *
  generalize w12.heap.size = Bx at *
  refine (LESS3.out _).mono ?_
  rintro e w14 ⟨rfl, hc⟩
  replace xa := xa.later hc
  replace xb := xb.later hc
  replace xs := xs.later hc
  replace xd := xd.later hc
  replace xx := xx.later hc
  have PC := below_step PB hc
  clear PB hc
  have PB := PC
  clear PC
  have HPB := Lib.hid PB
  clear PB
  go_wp2_with fail
  have PB := HPB.out
  clear HPB
  refine (works_any _).mono ?_
  rintro e w15 ⟨rfl, hc⟩
  replace xa := xa.later hc
  replace xb := xb.later hc
  replace xs := xs.later hc
  replace xd := xd.later hc
  replace xx := xx.later hc
  have PC := below_step PB hc
  clear PB hc
  have PB := PC
  clear PC
  have HPB := Lib.hid PB
  clear PB
  go_wp2_with fail
  have PB := HPB.out
  clear HPB
  go_ret
  exact ⟨rfl, PB⟩

end Go.Proofs.Ytnipajfglmahiaa
