/- Of of the package target, walked: what compact bits mean, given what each call returns. -/
import Derived.Test.YtnipajfglmahiaaCon
import Derived.Test.YtnipajfglmahiaaGrow
import Derived.Deep.RegionWith
namespace Go.Proofs.Ytnipajfglmahiaa
open Go.RowKit

/-- '==' between a number and 0, decided. -/
def EqZ (x0 x1 x2 x3 : Nat) (r : Bool) : Prop := ∀ w : World, (Op.equalIn 10000 25 (.agg #[.int .u64 (x0 : Nat), .int .u64 (x1 : Nat), .int .u64 (x2 : Nat), .int .u64 (x3 : Nat)]) (.agg #[.int .u64 0, .int .u64 0, .int .u64 0, .int .u64 0])).run Try.prog w = .ok r w
/-- Down and Up of a number by any number of bits, below 0 too. -/
def DownZ (x0 x1 x2 x3 : Nat) (n : Int) (s0 s1 s2 s3 : Nat) : Prop := ∀ w : World, Calls Try.prog 27 #[.agg #[.int .u64 (x0 : Nat), .int .u64 (x1 : Nat), .int .u64 (x2 : Nat), .int .u64 (x3 : Nat)], .int .i64 n] w fun e w' => e = .returned (.agg #[.int .u64 (s0 : Nat), .int .u64 (s1 : Nat), .int .u64 (s2 : Nat), .int .u64 (s3 : Nat)]) ∧ Below w.heap.size w w'
def UpZ (x0 x1 x2 x3 : Nat) (n : Int) (s0 s1 s2 s3 : Nat) : Prop := ∀ w : World, Calls Try.prog 26 #[.agg #[.int .u64 (x0 : Nat), .int .u64 (x1 : Nat), .int .u64 (x2 : Nat), .int .u64 (x3 : Nat)], .int .i64 n] w fun e w' => e = .returned (.agg #[.int .u64 (s0 : Nat), .int .u64 (s1 : Nat), .int .u64 (s2 : Nat), .int .u64 (s3 : Nat)]) ∧ Below w.heap.size w w'
theorem DownZ.word {n s0 s1 s2 s3 : Nat} {d : Int} (h : DownZ n 0 0 0 d s0 s1 s2 s3) (w : World) : Calls Try.prog 27 #[.agg #[.int .u64 (n : Nat), .int .u64 0, .int .u64 0, .int .u64 0], .int .i64 d] w fun e w' => e = .returned (.agg #[.int .u64 (s0 : Nat), .int .u64 (s1 : Nat), .int .u64 (s2 : Nat), .int .u64 (s3 : Nat)]) ∧ Below w.heap.size w w' := h w

set_option maxRecDepth 100000 in
set_option maxHeartbeats 8000000 in
theorem tof_zero (n p nb t0 t1 t2 t3 : Nat) (u : Int) (w : World) (_hn : n < 4294967296) (_hp : p < 8388608) (_hnb : nb ≤ 256) (_hu0 : -24 ≤ u) (_hu1 : u ≤ 2016) (hs : 8 * ((n : Int) / 16777216 - 3) = u) (hb : bits BinOp.and IntKind.u32 (n : Int) 8388607 = (p : Int))
    (dn : DownZ p 0 0 0 (-u) t0 t1 t2 t3) (ez : EqZ t0 t1 t2 t3 true) :
    Calls Try.prog 8 #[.int .u32 (n : Nat)] w fun e w' => e = .returned (.tuple #[.agg #[.int .u64 0, .int .u64 0, .int .u64 0, .int .u64 0], .bool false]) ∧ Below w.heap.size w w' := by
  have DN := Lib.hid dn
  clear dn
  unfold EqZ at ez
  go_enter Try.func8, Try.ntmps8
  go_wp2_with fail
  refine (ofIs p _).mono ?_
  rintro e w1 ⟨rfl, h1⟩
  have PB : Below w.heap.size w w1 := ((Below.refl _ _).alloc (Nat.le_refl _) _).trans (h1.mono (by simp))
  have HR := (Holds.new w #[.int .u64 0, .int .u64 0, .int .u64 0, .int .u64 0] 25).later h1
  clear h1
  have HPB := Lib.hid PB
  clear PB
  go_wp2_with fail
  have PB := HPB.out
  clear HPB
  refine (DN.out.word _).mono ?_
  rintro e w1 ⟨rfl, hc⟩
  replace HR := HR.later hc
  have PC := below_step PB hc
  clear PB hc
  have PB := PC
  clear PC
  have HPB := Lib.hid PB
  clear PB
  go_wp2_with fail
  have PB := HPB.out
  clear HPB
  replace HR := HR.later ((Below.refl _ _).alloc (Nat.le_refl _) (.cells #[.int .u64 (t0 : Nat), .int .u64 (t1 : Nat), .int .u64 (t2 : Nat), .int .u64 (t3 : Nat)] 25))
  have xt := Box.new (w1) (t0 : Nat) (t1 : Nat) (t2 : Nat) (t3 : Nat) 25
  have PC := below_alloc PB (.cells #[.int .u64 (t0 : Nat), .int .u64 (t1 : Nat), .int .u64 (t2 : Nat), .int .u64 (t3 : Nat)] 25)
  clear PB
  have PB := PC
  clear PC
  generalize (w1).alloc (.cells #[.int .u64 (t0 : Nat), .int .u64 (t1 : Nat), .int .u64 (t2 : Nat), .int .u64 (t3 : Nat)] 25) = W2 at *
  generalize w1.heap.size = Bt at *
  have ct := xt
  obtain ⟨ct0, ct1, ct2, ct3⟩ := ct
  have lt := World.block_lt_of_cell? _ _ ct0
  simp only [] at lt
  have ut0 : ∀ u : After W2, u.w.cell? ⟨Bt, 0, none⟩ = some (.int .u64 (t0 : Nat)) := fun u => u.cell ct0
  have ut1 : ∀ u : After W2, u.w.cell? ⟨Bt, 1, none⟩ = some (.int .u64 (t1 : Nat)) := fun u => u.cell ct1
  have ut2 : ∀ u : After W2, u.w.cell? ⟨Bt, 2, none⟩ = some (.int .u64 (t2 : Nat)) := fun u => u.cell ct2
  have ut3 : ∀ u : After W2, u.w.cell? ⟨Bt, 3, none⟩ = some (.int .u64 (t3 : Nat)) := fun u => u.cell ct3
  have HPB := Lib.hid PB
  clear PB
  refine wp_region_after (by kernel_rfl) (by kernel_rfl) ?_
  repeat (go_big_quiet_step ((first | (go_at_call 24; exact after_call (of_int 0 _)))))
  refine wpQuiet_nil ?_
  rintro _ ⟨u, rfl⟩
  clear ct0 ct1 ct2 ct3 lt
  clear ut0 ut1 ut2 ut3
  replace xt := xt.later u.below
  replace HR := HR.later u.below
  have PB := below_step HPB.out u.below
  clear HPB
  generalize u.w = W3 at *
  clear u
  have m0 : W3.cell? ⟨w.heap.size, 0, none⟩ = some (.int .u64 0) := HR.cell 0
  have z0 : W3.frozen? ⟨w.heap.size, 0, none⟩ = false := HR.free 0
  have m1 : W3.cell? ⟨w.heap.size, 1, none⟩ = some (.int .u64 0) := HR.cell 1
  have z1 : W3.frozen? ⟨w.heap.size, 1, none⟩ = false := HR.free 1
  have m2 : W3.cell? ⟨w.heap.size, 2, none⟩ = some (.int .u64 0) := HR.cell 2
  have z2 : W3.frozen? ⟨w.heap.size, 2, none⟩ = false := HR.free 2
  have m3 : W3.cell? ⟨w.heap.size, 3, none⟩ = some (.int .u64 0) := HR.cell 3
  have z3 : W3.frozen? ⟨w.heap.size, 3, none⟩ = false := HR.free 3
  have HPB := Lib.hid PB
  clear PB
  go_wp2_with fail
  have b := ((((HPB.out.setCell (p := ⟨w.heap.size, 0, none⟩) (Nat.le_refl _) (.int .u64 0)).setCell (p := ⟨w.heap.size, 1, none⟩) (Nat.le_refl _) (.int .u64 0)).setCell (p := ⟨w.heap.size, 2, none⟩) (Nat.le_refl _) (.int .u64 0)).setCell (p := ⟨w.heap.size, 3, none⟩) (Nat.le_refl _) (.int .u64 0))
  have HS : Holds ((((W3.setCell ⟨w.heap.size, 0, none⟩ (.int .u64 0)).setCell ⟨w.heap.size, 1, none⟩ (.int .u64 0)).setCell ⟨w.heap.size, 2, none⟩ (.int .u64 0)).setCell ⟨w.heap.size, 3, none⟩ (.int .u64 0)) (w.heap.size) #[.int .u64 0, .int .u64 0, .int .u64 0, .int .u64 0] 25 := (((HR.set _).set _).set _).set _
  have g0 : ((((W3.setCell ⟨w.heap.size, 0, none⟩ (.int .u64 0)).setCell ⟨w.heap.size, 1, none⟩ (.int .u64 0)).setCell ⟨w.heap.size, 2, none⟩ (.int .u64 0)).setCell ⟨w.heap.size, 3, none⟩ (.int .u64 0)).cell? ⟨w.heap.size, 0, none⟩ = some (.int .u64 0) := HS.cell 0
  have g1 : ((((W3.setCell ⟨w.heap.size, 0, none⟩ (.int .u64 0)).setCell ⟨w.heap.size, 1, none⟩ (.int .u64 0)).setCell ⟨w.heap.size, 2, none⟩ (.int .u64 0)).setCell ⟨w.heap.size, 3, none⟩ (.int .u64 0)).cell? ⟨w.heap.size, 1, none⟩ = some (.int .u64 0) := HS.cell 1
  have g2 : ((((W3.setCell ⟨w.heap.size, 0, none⟩ (.int .u64 0)).setCell ⟨w.heap.size, 1, none⟩ (.int .u64 0)).setCell ⟨w.heap.size, 2, none⟩ (.int .u64 0)).setCell ⟨w.heap.size, 3, none⟩ (.int .u64 0)).cell? ⟨w.heap.size, 2, none⟩ = some (.int .u64 0) := HS.cell 2
  have g3 : ((((W3.setCell ⟨w.heap.size, 0, none⟩ (.int .u64 0)).setCell ⟨w.heap.size, 1, none⟩ (.int .u64 0)).setCell ⟨w.heap.size, 2, none⟩ (.int .u64 0)).setCell ⟨w.heap.size, 3, none⟩ (.int .u64 0)).cell? ⟨w.heap.size, 3, none⟩ = some (.int .u64 0) := HS.cell 3
  refine bodyPost_ret (v := .tuple #[.agg #[.int .u64 0, .int .u64 0, .int .u64 0, .int .u64 0], .bool false]) (by simp [results, Try.results8, go_sem, g0, g1, g2, g3]) rfl ⟨rfl, b⟩

set_option maxRecDepth 100000 in
set_option maxHeartbeats 8000000 in
theorem tof_sign (n p nb t0 t1 t2 t3 : Nat) (u : Int) (w : World) (_hn : n < 4294967296) (_hp : p < 8388608) (_hnb : nb ≤ 256) (_hu0 : -24 ≤ u) (_hu1 : u ≤ 2016) (hs : 8 * ((n : Int) / 16777216 - 3) = u) (hb : bits BinOp.and IntKind.u32 (n : Int) 8388607 = (p : Int))
    (dn : DownZ p 0 0 0 (-u) t0 t1 t2 t3) (ez : EqZ t0 t1 t2 t3 false) (hsg : (bits BinOp.and IntKind.u32 (n : Int) 8388608 != 0) = true) :
    Calls Try.prog 8 #[.int .u32 (n : Nat)] w fun e w' => e = .returned (.tuple #[.agg #[.int .u64 0, .int .u64 0, .int .u64 0, .int .u64 0], .bool false]) ∧ Below w.heap.size w w' := by
  have DN := Lib.hid dn
  clear dn
  unfold EqZ at ez
  go_enter Try.func8, Try.ntmps8
  go_wp2_with fail
  refine (ofIs p _).mono ?_
  rintro e w1 ⟨rfl, h1⟩
  have PB : Below w.heap.size w w1 := ((Below.refl _ _).alloc (Nat.le_refl _) _).trans (h1.mono (by simp))
  have HR := (Holds.new w #[.int .u64 0, .int .u64 0, .int .u64 0, .int .u64 0] 25).later h1
  clear h1
  have HPB := Lib.hid PB
  clear PB
  go_wp2_with fail
  have PB := HPB.out
  clear HPB
  refine (DN.out.word _).mono ?_
  rintro e w1 ⟨rfl, hc⟩
  replace HR := HR.later hc
  have PC := below_step PB hc
  clear PB hc
  have PB := PC
  clear PC
  have HPB := Lib.hid PB
  clear PB
  go_wp2_with fail
  have PB := HPB.out
  clear HPB
  replace HR := HR.later ((Below.refl _ _).alloc (Nat.le_refl _) (.cells #[.int .u64 (t0 : Nat), .int .u64 (t1 : Nat), .int .u64 (t2 : Nat), .int .u64 (t3 : Nat)] 25))
  have xt := Box.new (w1) (t0 : Nat) (t1 : Nat) (t2 : Nat) (t3 : Nat) 25
  have PC := below_alloc PB (.cells #[.int .u64 (t0 : Nat), .int .u64 (t1 : Nat), .int .u64 (t2 : Nat), .int .u64 (t3 : Nat)] 25)
  clear PB
  have PB := PC
  clear PC
  generalize (w1).alloc (.cells #[.int .u64 (t0 : Nat), .int .u64 (t1 : Nat), .int .u64 (t2 : Nat), .int .u64 (t3 : Nat)] 25) = W2 at *
  generalize w1.heap.size = Bt at *
  have ct := xt
  obtain ⟨ct0, ct1, ct2, ct3⟩ := ct
  have lt := World.block_lt_of_cell? _ _ ct0
  simp only [] at lt
  have ut0 : ∀ u : After W2, u.w.cell? ⟨Bt, 0, none⟩ = some (.int .u64 (t0 : Nat)) := fun u => u.cell ct0
  have ut1 : ∀ u : After W2, u.w.cell? ⟨Bt, 1, none⟩ = some (.int .u64 (t1 : Nat)) := fun u => u.cell ct1
  have ut2 : ∀ u : After W2, u.w.cell? ⟨Bt, 2, none⟩ = some (.int .u64 (t2 : Nat)) := fun u => u.cell ct2
  have ut3 : ∀ u : After W2, u.w.cell? ⟨Bt, 3, none⟩ = some (.int .u64 (t3 : Nat)) := fun u => u.cell ct3
  have HPB := Lib.hid PB
  clear PB
  refine wp_region_after (by kernel_rfl) (by kernel_rfl) ?_
  repeat (go_big_quiet_step ((first | (go_at_call 24; exact after_call (of_int 0 _)))))
  refine wpQuiet_nil ?_
  rintro _ ⟨u, rfl⟩
  clear ct0 ct1 ct2 ct3 lt
  clear ut0 ut1 ut2 ut3
  replace xt := xt.later u.below
  replace HR := HR.later u.below
  have PB := below_step HPB.out u.below
  clear HPB
  generalize u.w = W3 at *
  clear u
  have m0 : W3.cell? ⟨w.heap.size, 0, none⟩ = some (.int .u64 0) := HR.cell 0
  have z0 : W3.frozen? ⟨w.heap.size, 0, none⟩ = false := HR.free 0
  have m1 : W3.cell? ⟨w.heap.size, 1, none⟩ = some (.int .u64 0) := HR.cell 1
  have z1 : W3.frozen? ⟨w.heap.size, 1, none⟩ = false := HR.free 1
  have m2 : W3.cell? ⟨w.heap.size, 2, none⟩ = some (.int .u64 0) := HR.cell 2
  have z2 : W3.frozen? ⟨w.heap.size, 2, none⟩ = false := HR.free 2
  have m3 : W3.cell? ⟨w.heap.size, 3, none⟩ = some (.int .u64 0) := HR.cell 3
  have z3 : W3.frozen? ⟨w.heap.size, 3, none⟩ = false := HR.free 3
  have HPB := Lib.hid PB
  clear PB
  go_wp2_with fail
  have b := ((((HPB.out.setCell (p := ⟨w.heap.size, 0, none⟩) (Nat.le_refl _) (.int .u64 0)).setCell (p := ⟨w.heap.size, 1, none⟩) (Nat.le_refl _) (.int .u64 0)).setCell (p := ⟨w.heap.size, 2, none⟩) (Nat.le_refl _) (.int .u64 0)).setCell (p := ⟨w.heap.size, 3, none⟩) (Nat.le_refl _) (.int .u64 0))
  have HS : Holds ((((W3.setCell ⟨w.heap.size, 0, none⟩ (.int .u64 0)).setCell ⟨w.heap.size, 1, none⟩ (.int .u64 0)).setCell ⟨w.heap.size, 2, none⟩ (.int .u64 0)).setCell ⟨w.heap.size, 3, none⟩ (.int .u64 0)) (w.heap.size) #[.int .u64 0, .int .u64 0, .int .u64 0, .int .u64 0] 25 := (((HR.set _).set _).set _).set _
  have g0 : ((((W3.setCell ⟨w.heap.size, 0, none⟩ (.int .u64 0)).setCell ⟨w.heap.size, 1, none⟩ (.int .u64 0)).setCell ⟨w.heap.size, 2, none⟩ (.int .u64 0)).setCell ⟨w.heap.size, 3, none⟩ (.int .u64 0)).cell? ⟨w.heap.size, 0, none⟩ = some (.int .u64 0) := HS.cell 0
  have g1 : ((((W3.setCell ⟨w.heap.size, 0, none⟩ (.int .u64 0)).setCell ⟨w.heap.size, 1, none⟩ (.int .u64 0)).setCell ⟨w.heap.size, 2, none⟩ (.int .u64 0)).setCell ⟨w.heap.size, 3, none⟩ (.int .u64 0)).cell? ⟨w.heap.size, 1, none⟩ = some (.int .u64 0) := HS.cell 1
  have g2 : ((((W3.setCell ⟨w.heap.size, 0, none⟩ (.int .u64 0)).setCell ⟨w.heap.size, 1, none⟩ (.int .u64 0)).setCell ⟨w.heap.size, 2, none⟩ (.int .u64 0)).setCell ⟨w.heap.size, 3, none⟩ (.int .u64 0)).cell? ⟨w.heap.size, 2, none⟩ = some (.int .u64 0) := HS.cell 2
  have g3 : ((((W3.setCell ⟨w.heap.size, 0, none⟩ (.int .u64 0)).setCell ⟨w.heap.size, 1, none⟩ (.int .u64 0)).setCell ⟨w.heap.size, 2, none⟩ (.int .u64 0)).setCell ⟨w.heap.size, 3, none⟩ (.int .u64 0)).cell? ⟨w.heap.size, 3, none⟩ = some (.int .u64 0) := HS.cell 3
  refine bodyPost_ret (v := .tuple #[.agg #[.int .u64 0, .int .u64 0, .int .u64 0, .int .u64 0], .bool false]) (by simp [results, Try.results8, go_sem, g0, g1, g2, g3]) rfl ⟨rfl, b⟩

set_option maxRecDepth 100000 in
set_option maxHeartbeats 8000000 in
theorem tof_far (n p nb t0 t1 t2 t3 : Nat) (u : Int) (w : World) (_hn : n < 4294967296) (_hp : p < 8388608) (_hnb : nb ≤ 256) (_hu0 : -24 ≤ u) (_hu1 : u ≤ 2016) (hs : 8 * ((n : Int) / 16777216 - 3) = u) (hb : bits BinOp.and IntKind.u32 (n : Int) 8388607 = (p : Int))
    (dn : DownZ p 0 0 0 (-u) t0 t1 t2 t3) (ez : EqZ t0 t1 t2 t3 false) (hsg : (bits BinOp.and IntKind.u32 (n : Int) 8388608 != 0) = false) (bt : BitsIs t0 t1 t2 t3 nb) (hfar : decide ((256 : Int) < (nb : Int) + max u 0) = true) :
    Calls Try.prog 8 #[.int .u32 (n : Nat)] w fun e w' => e = .returned (.tuple #[.agg #[.int .u64 0, .int .u64 0, .int .u64 0, .int .u64 0], .bool false]) ∧ Below w.heap.size w w' := by
  have DN := Lib.hid dn
  have BT := Lib.hid bt
  have HFAR := Lib.hid hfar
  clear dn bt hfar
  unfold EqZ at ez
  go_enter Try.func8, Try.ntmps8
  go_wp2_with fail
  refine (ofIs p _).mono ?_
  rintro e w1 ⟨rfl, h1⟩
  have PB : Below w.heap.size w w1 := ((Below.refl _ _).alloc (Nat.le_refl _) _).trans (h1.mono (by simp))
  have HR := (Holds.new w #[.int .u64 0, .int .u64 0, .int .u64 0, .int .u64 0] 25).later h1
  clear h1
  have HPB := Lib.hid PB
  clear PB
  go_wp2_with fail
  have PB := HPB.out
  clear HPB
  refine (DN.out.word _).mono ?_
  rintro e w1 ⟨rfl, hc⟩
  replace HR := HR.later hc
  have PC := below_step PB hc
  clear PB hc
  have PB := PC
  clear PC
  have HPB := Lib.hid PB
  clear PB
  go_wp2_with fail
  have PB := HPB.out
  clear HPB
  replace HR := HR.later ((Below.refl _ _).alloc (Nat.le_refl _) (.cells #[.int .u64 (t0 : Nat), .int .u64 (t1 : Nat), .int .u64 (t2 : Nat), .int .u64 (t3 : Nat)] 25))
  have xt := Box.new (w1) (t0 : Nat) (t1 : Nat) (t2 : Nat) (t3 : Nat) 25
  have PC := below_alloc PB (.cells #[.int .u64 (t0 : Nat), .int .u64 (t1 : Nat), .int .u64 (t2 : Nat), .int .u64 (t3 : Nat)] 25)
  clear PB
  have PB := PC
  clear PC
  generalize (w1).alloc (.cells #[.int .u64 (t0 : Nat), .int .u64 (t1 : Nat), .int .u64 (t2 : Nat), .int .u64 (t3 : Nat)] 25) = W2 at *
  generalize w1.heap.size = Bt at *
  have ct := xt
  obtain ⟨ct0, ct1, ct2, ct3⟩ := ct
  have lt := World.block_lt_of_cell? _ _ ct0
  simp only [] at lt
  have ut0 : ∀ u : After W2, u.w.cell? ⟨Bt, 0, none⟩ = some (.int .u64 (t0 : Nat)) := fun u => u.cell ct0
  have ut1 : ∀ u : After W2, u.w.cell? ⟨Bt, 1, none⟩ = some (.int .u64 (t1 : Nat)) := fun u => u.cell ct1
  have ut2 : ∀ u : After W2, u.w.cell? ⟨Bt, 2, none⟩ = some (.int .u64 (t2 : Nat)) := fun u => u.cell ct2
  have ut3 : ∀ u : After W2, u.w.cell? ⟨Bt, 3, none⟩ = some (.int .u64 (t3 : Nat)) := fun u => u.cell ct3
  have hfar := HFAR.out
  have HPB := Lib.hid PB
  clear PB
  refine wp_region_after (by kernel_rfl) (by kernel_rfl) ?_
  repeat (go_big_quiet_step ((first | (go_at_call 24; exact after_call (of_int 0 _)) | (go_at_call 22; exact after_call (BT.out _)))))
  refine wpQuiet_nil ?_
  rintro _ ⟨u, rfl⟩
  clear ct0 ct1 ct2 ct3 lt
  clear ut0 ut1 ut2 ut3
  clear hfar
  replace xt := xt.later u.below
  replace HR := HR.later u.below
  have PB := below_step HPB.out u.below
  clear HPB
  generalize u.w = W3 at *
  clear u
  have m0 : W3.cell? ⟨w.heap.size, 0, none⟩ = some (.int .u64 0) := HR.cell 0
  have z0 : W3.frozen? ⟨w.heap.size, 0, none⟩ = false := HR.free 0
  have m1 : W3.cell? ⟨w.heap.size, 1, none⟩ = some (.int .u64 0) := HR.cell 1
  have z1 : W3.frozen? ⟨w.heap.size, 1, none⟩ = false := HR.free 1
  have m2 : W3.cell? ⟨w.heap.size, 2, none⟩ = some (.int .u64 0) := HR.cell 2
  have z2 : W3.frozen? ⟨w.heap.size, 2, none⟩ = false := HR.free 2
  have m3 : W3.cell? ⟨w.heap.size, 3, none⟩ = some (.int .u64 0) := HR.cell 3
  have z3 : W3.frozen? ⟨w.heap.size, 3, none⟩ = false := HR.free 3
  have HPB := Lib.hid PB
  clear PB
  go_wp2_with fail
  have b := ((((HPB.out.setCell (p := ⟨w.heap.size, 0, none⟩) (Nat.le_refl _) (.int .u64 0)).setCell (p := ⟨w.heap.size, 1, none⟩) (Nat.le_refl _) (.int .u64 0)).setCell (p := ⟨w.heap.size, 2, none⟩) (Nat.le_refl _) (.int .u64 0)).setCell (p := ⟨w.heap.size, 3, none⟩) (Nat.le_refl _) (.int .u64 0))
  have HS : Holds ((((W3.setCell ⟨w.heap.size, 0, none⟩ (.int .u64 0)).setCell ⟨w.heap.size, 1, none⟩ (.int .u64 0)).setCell ⟨w.heap.size, 2, none⟩ (.int .u64 0)).setCell ⟨w.heap.size, 3, none⟩ (.int .u64 0)) (w.heap.size) #[.int .u64 0, .int .u64 0, .int .u64 0, .int .u64 0] 25 := (((HR.set _).set _).set _).set _
  have g0 : ((((W3.setCell ⟨w.heap.size, 0, none⟩ (.int .u64 0)).setCell ⟨w.heap.size, 1, none⟩ (.int .u64 0)).setCell ⟨w.heap.size, 2, none⟩ (.int .u64 0)).setCell ⟨w.heap.size, 3, none⟩ (.int .u64 0)).cell? ⟨w.heap.size, 0, none⟩ = some (.int .u64 0) := HS.cell 0
  have g1 : ((((W3.setCell ⟨w.heap.size, 0, none⟩ (.int .u64 0)).setCell ⟨w.heap.size, 1, none⟩ (.int .u64 0)).setCell ⟨w.heap.size, 2, none⟩ (.int .u64 0)).setCell ⟨w.heap.size, 3, none⟩ (.int .u64 0)).cell? ⟨w.heap.size, 1, none⟩ = some (.int .u64 0) := HS.cell 1
  have g2 : ((((W3.setCell ⟨w.heap.size, 0, none⟩ (.int .u64 0)).setCell ⟨w.heap.size, 1, none⟩ (.int .u64 0)).setCell ⟨w.heap.size, 2, none⟩ (.int .u64 0)).setCell ⟨w.heap.size, 3, none⟩ (.int .u64 0)).cell? ⟨w.heap.size, 2, none⟩ = some (.int .u64 0) := HS.cell 2
  have g3 : ((((W3.setCell ⟨w.heap.size, 0, none⟩ (.int .u64 0)).setCell ⟨w.heap.size, 1, none⟩ (.int .u64 0)).setCell ⟨w.heap.size, 2, none⟩ (.int .u64 0)).setCell ⟨w.heap.size, 3, none⟩ (.int .u64 0)).cell? ⟨w.heap.size, 3, none⟩ = some (.int .u64 0) := HS.cell 3
  refine bodyPost_ret (v := .tuple #[.agg #[.int .u64 0, .int .u64 0, .int .u64 0, .int .u64 0], .bool false]) (by simp [results, Try.results8, go_sem, g0, g1, g2, g3]) rfl ⟨rfl, b⟩

set_option maxRecDepth 100000 in
set_option maxHeartbeats 8000000 in
theorem tof_ok (n p nb s0 s1 s2 s3 t0 t1 t2 t3 : Nat) (u : Int) (w : World) (_hn : n < 4294967296) (_hp : p < 8388608) (_hnb : nb ≤ 256) (_hu0 : -24 ≤ u) (_hu1 : u ≤ 2016) (hs : 8 * ((n : Int) / 16777216 - 3) = u) (hb : bits BinOp.and IntKind.u32 (n : Int) 8388607 = (p : Int))
    (dn : DownZ p 0 0 0 (-u) t0 t1 t2 t3) (ez : EqZ t0 t1 t2 t3 false) (hsg : (bits BinOp.and IntKind.u32 (n : Int) 8388608 != 0) = false) (bt : BitsIs t0 t1 t2 t3 nb) (hfar : decide ((256 : Int) < (nb : Int) + max u 0) = false) (up : UpZ t0 t1 t2 t3 u s0 s1 s2 s3) :
    Calls Try.prog 8 #[.int .u32 (n : Nat)] w fun e w' => e = .returned (.tuple #[.agg #[.int .u64 (s0 : Nat), .int .u64 (s1 : Nat), .int .u64 (s2 : Nat), .int .u64 (s3 : Nat)], .bool true]) ∧ Below w.heap.size w w' := by
  have DN := Lib.hid dn
  have BT := Lib.hid bt
  have UP := Lib.hid up
  have HFAR := Lib.hid hfar
  clear dn bt up hfar
  unfold EqZ at ez
  go_enter Try.func8, Try.ntmps8
  go_wp2_with fail
  refine (ofIs p _).mono ?_
  rintro e w1 ⟨rfl, h1⟩
  have PB : Below w.heap.size w w1 := ((Below.refl _ _).alloc (Nat.le_refl _) _).trans (h1.mono (by simp))
  have HR := (Holds.new w #[.int .u64 0, .int .u64 0, .int .u64 0, .int .u64 0] 25).later h1
  clear h1
  have HPB := Lib.hid PB
  clear PB
  go_wp2_with fail
  have PB := HPB.out
  clear HPB
  refine (DN.out.word _).mono ?_
  rintro e w1 ⟨rfl, hc⟩
  replace HR := HR.later hc
  have PC := below_step PB hc
  clear PB hc
  have PB := PC
  clear PC
  have HPB := Lib.hid PB
  clear PB
  go_wp2_with fail
  have PB := HPB.out
  clear HPB
  replace HR := HR.later ((Below.refl _ _).alloc (Nat.le_refl _) (.cells #[.int .u64 (t0 : Nat), .int .u64 (t1 : Nat), .int .u64 (t2 : Nat), .int .u64 (t3 : Nat)] 25))
  have xt := Box.new (w1) (t0 : Nat) (t1 : Nat) (t2 : Nat) (t3 : Nat) 25
  have PC := below_alloc PB (.cells #[.int .u64 (t0 : Nat), .int .u64 (t1 : Nat), .int .u64 (t2 : Nat), .int .u64 (t3 : Nat)] 25)
  clear PB
  have PB := PC
  clear PC
  generalize (w1).alloc (.cells #[.int .u64 (t0 : Nat), .int .u64 (t1 : Nat), .int .u64 (t2 : Nat), .int .u64 (t3 : Nat)] 25) = W2 at *
  generalize w1.heap.size = Bt at *
  have ct := xt
  obtain ⟨ct0, ct1, ct2, ct3⟩ := ct
  have lt := World.block_lt_of_cell? _ _ ct0
  simp only [] at lt
  have ut0 : ∀ u : After W2, u.w.cell? ⟨Bt, 0, none⟩ = some (.int .u64 (t0 : Nat)) := fun u => u.cell ct0
  have ut1 : ∀ u : After W2, u.w.cell? ⟨Bt, 1, none⟩ = some (.int .u64 (t1 : Nat)) := fun u => u.cell ct1
  have ut2 : ∀ u : After W2, u.w.cell? ⟨Bt, 2, none⟩ = some (.int .u64 (t2 : Nat)) := fun u => u.cell ct2
  have ut3 : ∀ u : After W2, u.w.cell? ⟨Bt, 3, none⟩ = some (.int .u64 (t3 : Nat)) := fun u => u.cell ct3
  have hfar := HFAR.out
  have HPB := Lib.hid PB
  clear PB
  refine wp_region_after (by kernel_rfl) (by kernel_rfl) ?_
  repeat (go_big_quiet_step ((first | (go_at_call 24; exact after_call (of_int 0 _)) | (go_at_call 22; exact after_call (BT.out _)))))
  refine wpQuiet_nil ?_
  rintro _ ⟨u, rfl⟩
  clear ct0 ct1 ct2 ct3 lt
  clear ut0 ut1 ut2 ut3
  clear hfar
  replace xt := xt.later u.below
  replace HR := HR.later u.below
  have PB := below_step HPB.out u.below
  clear HPB
  generalize u.w = W3 at *
  clear u
  have ct := xt
  obtain ⟨ct0, ct1, ct2, ct3⟩ := ct
  have lt := World.block_lt_of_cell? _ _ ct0
  simp only [] at lt
  have HPB := Lib.hid PB
  clear PB
  go_wp2_with fail
  have PB := HPB.out
  clear HPB
  clear ct0 ct1 ct2 ct3 lt
  refine (UP.out _).mono ?_
  rintro e w4 ⟨rfl, hc⟩
  replace xt := xt.later hc
  replace HR := HR.later hc
  have PC := below_step PB hc
  clear PB hc
  have PB := PC
  clear PC
  have m0 : w4.cell? ⟨w.heap.size, 0, none⟩ = some (.int .u64 0) := HR.cell 0
  have z0 : w4.frozen? ⟨w.heap.size, 0, none⟩ = false := HR.free 0
  have m1 : w4.cell? ⟨w.heap.size, 1, none⟩ = some (.int .u64 0) := HR.cell 1
  have z1 : w4.frozen? ⟨w.heap.size, 1, none⟩ = false := HR.free 1
  have m2 : w4.cell? ⟨w.heap.size, 2, none⟩ = some (.int .u64 0) := HR.cell 2
  have z2 : w4.frozen? ⟨w.heap.size, 2, none⟩ = false := HR.free 2
  have m3 : w4.cell? ⟨w.heap.size, 3, none⟩ = some (.int .u64 0) := HR.cell 3
  have z3 : w4.frozen? ⟨w.heap.size, 3, none⟩ = false := HR.free 3
  have HPB := Lib.hid PB
  clear PB
  go_wp2_with fail
  have b := ((((HPB.out.setCell (p := ⟨w.heap.size, 0, none⟩) (Nat.le_refl _) (.int .u64 (s0 : Nat))).setCell (p := ⟨w.heap.size, 1, none⟩) (Nat.le_refl _) (.int .u64 (s1 : Nat))).setCell (p := ⟨w.heap.size, 2, none⟩) (Nat.le_refl _) (.int .u64 (s2 : Nat))).setCell (p := ⟨w.heap.size, 3, none⟩) (Nat.le_refl _) (.int .u64 (s3 : Nat)))
  have HS : Holds ((((w4.setCell ⟨w.heap.size, 0, none⟩ (.int .u64 (s0 : Nat))).setCell ⟨w.heap.size, 1, none⟩ (.int .u64 (s1 : Nat))).setCell ⟨w.heap.size, 2, none⟩ (.int .u64 (s2 : Nat))).setCell ⟨w.heap.size, 3, none⟩ (.int .u64 (s3 : Nat))) (w.heap.size) #[.int .u64 (s0 : Nat), .int .u64 (s1 : Nat), .int .u64 (s2 : Nat), .int .u64 (s3 : Nat)] 25 := (((HR.set _).set _).set _).set _
  have g0 : ((((w4.setCell ⟨w.heap.size, 0, none⟩ (.int .u64 (s0 : Nat))).setCell ⟨w.heap.size, 1, none⟩ (.int .u64 (s1 : Nat))).setCell ⟨w.heap.size, 2, none⟩ (.int .u64 (s2 : Nat))).setCell ⟨w.heap.size, 3, none⟩ (.int .u64 (s3 : Nat))).cell? ⟨w.heap.size, 0, none⟩ = some (.int .u64 (s0 : Nat)) := HS.cell 0
  have g1 : ((((w4.setCell ⟨w.heap.size, 0, none⟩ (.int .u64 (s0 : Nat))).setCell ⟨w.heap.size, 1, none⟩ (.int .u64 (s1 : Nat))).setCell ⟨w.heap.size, 2, none⟩ (.int .u64 (s2 : Nat))).setCell ⟨w.heap.size, 3, none⟩ (.int .u64 (s3 : Nat))).cell? ⟨w.heap.size, 1, none⟩ = some (.int .u64 (s1 : Nat)) := HS.cell 1
  have g2 : ((((w4.setCell ⟨w.heap.size, 0, none⟩ (.int .u64 (s0 : Nat))).setCell ⟨w.heap.size, 1, none⟩ (.int .u64 (s1 : Nat))).setCell ⟨w.heap.size, 2, none⟩ (.int .u64 (s2 : Nat))).setCell ⟨w.heap.size, 3, none⟩ (.int .u64 (s3 : Nat))).cell? ⟨w.heap.size, 2, none⟩ = some (.int .u64 (s2 : Nat)) := HS.cell 2
  have g3 : ((((w4.setCell ⟨w.heap.size, 0, none⟩ (.int .u64 (s0 : Nat))).setCell ⟨w.heap.size, 1, none⟩ (.int .u64 (s1 : Nat))).setCell ⟨w.heap.size, 2, none⟩ (.int .u64 (s2 : Nat))).setCell ⟨w.heap.size, 3, none⟩ (.int .u64 (s3 : Nat))).cell? ⟨w.heap.size, 3, none⟩ = some (.int .u64 (s3 : Nat)) := HS.cell 3
  refine bodyPost_ret (v := .tuple #[.agg #[.int .u64 (s0 : Nat), .int .u64 (s1 : Nat), .int .u64 (s2 : Nat), .int .u64 (s3 : Nat)], .bool true]) (by simp [results, Try.results8, go_sem, g0, g1, g2, g3]) rfl ⟨rfl, b⟩

end Go.Proofs.Ytnipajfglmahiaa
