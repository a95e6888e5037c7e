/- BigBack of the statements of layer 2, walked to its end where the divisor is not 0. -/
import Derived.Test.YtcjggdoopehkpaaBackn0
namespace Go.Proofs.Ytcjggdoopehkpaa
open Go.RowKit

set_option maxRecDepth 100000 in
set_option maxHeartbeats 8000000 in
theorem back_all (a0 a1 a2 a3 b0 b1 b2 b3 s0 s1 s2 s3 t0 t1 t2 t3 q0 q1 q2 q3 r0 r1 r2 r3 m0 m1 m2 m3 k0 k1 k2 k3 l0 l1 l2 l3 z0 z1 z2 z3 x0 x1 x2 x3 n : Nat) (o c : Bool) (w : World)
    (add1 : AddIs a0 a1 a2 a3 b0 b1 b2 b3 s0 s1 s2 s3 o) (sub1 : SubIs s0 s1 s2 s3 b0 b1 b2 b3 a0 a1 a2 a3 o) (ea : EqIs a0 a1 a2 a3 a0 a1 a2 a3 true) (less1 : LessIs s0 s1 s2 s3 a0 a1 a2 a3 o) (sub2 : SubIs a0 a1 a2 a3 b0 b1 b2 b3 t0 t1 t2 t3 c) (add2 : AddIs t0 t1 t2 t3 b0 b1 b2 b3 a0 a1 a2 a3 c) (less2 : LessIs a0 a1 a2 a3 b0 b1 b2 b3 c) (hn : ((n : Int) == 0) = false) (divw : DivIs a0 a1 a2 a3 n 0 0 0 q0 q1 q2 q3 r0 r1 r2 r3) (mul : MulIs q0 q1 q2 q3 n m0 m1 m2 m3 0) (add3 : AddIs m0 m1 m2 m3 r0 r1 r2 r3 a0 a1 a2 a3 false) (lessw : LessIs r0 r1 r2 r3 n 0 0 0 true) (eb : EqZ b0 b1 b2 b3 false) (divb : DivIs a0 a1 a2 a3 b0 b1 b2 b3 k0 k1 k2 k3 l0 l1 l2 l3) (divl : DivIs l0 l1 l2 l3 b0 b1 b2 b3 z0 z1 z2 z3 l0 l1 l2 l3) (ez : EqZ z0 z1 z2 z3 true) (lessl : LessIs l0 l1 l2 l3 b0 b1 b2 b3 true) (subl : SubIs a0 a1 a2 a3 l0 l1 l2 l3 x0 x1 x2 x3 false) (divx : DivIs x0 x1 x2 x3 b0 b1 b2 b3 k0 k1 k2 k3 z0 z1 z2 z3) (ek : EqIs k0 k1 k2 k3 k0 k1 k2 k3 true) :
    Calls Try.prog 6 #[.agg #[.int .u64 (a0 : Nat), .int .u64 (a1 : Nat), .int .u64 (a2 : Nat), .int .u64 (a3 : Nat)], .agg #[.int .u64 (b0 : Nat), .int .u64 (b1 : Nat), .int .u64 (b2 : Nat), .int .u64 (b3 : Nat)], .int .u64 (n : Nat)] w fun e w' => e = .returned (.bool true) ∧ Below w.heap.size w w' := by
  have ADD1 := Lib.hid add1
  have SUB1 := Lib.hid sub1
  have LESS1 := Lib.hid less1
  have SUB2 := Lib.hid sub2
  have ADD2 := Lib.hid add2
  have LESS2 := Lib.hid less2
  have DIVW := Lib.hid divw
  have MUL := Lib.hid mul
  have ADD3 := Lib.hid add3
  have LESSW := Lib.hid lessw
  have DIVB := Lib.hid divb
  have DIVL := Lib.hid divl
  have LESSL := Lib.hid lessl
  have SUBL := Lib.hid subl
  have DIVX := Lib.hid divx
  clear add1 sub1 less1 sub2 add2 less2 divw mul add3 lessw divb divl lessl subl divx
  unfold EqIs at ea ek
  unfold EqZ at eb ez
  go_enter Try.func6, Try.ntmps6
  go_wp2_with fail
  refine (ADD1.out _).mono ?_
  rintro e w1 ⟨rfl, h1⟩
  have PB : Below w.heap.size w w1 := by
    refine Below.trans ?_ (h1.mono (by simp; omega))
    go_grown
  have xa : Box w1 w.heap.size a0 a1 a2 a3 := ⟨cell_later h1 (by go_cell), cell_later h1 (by go_cell), cell_later h1 (by go_cell), cell_later h1 (by go_cell)⟩
  have xb : Box w1 (w.heap.size + 1) b0 b1 b2 b3 := ⟨cell_later h1 (by go_cell), cell_later h1 (by go_cell), cell_later h1 (by go_cell), cell_later h1 (by go_cell)⟩
  clear h1
  generalize w.heap.size + 1 = Bb at *
  have ca := xa
  obtain ⟨ca0, ca1, ca2, ca3⟩ := ca
  have la := World.block_lt_of_cell? _ _ ca0
  simp only [] at la
  have cb := xb
  obtain ⟨cb0, cb1, cb2, cb3⟩ := cb
  have lb := World.block_lt_of_cell? _ _ cb0
  simp only [] at lb
  have HPB := Lib.hid PB
  clear PB
  go_wp2_with fail
  have PB := HPB.out
  clear HPB
  clear ca0 ca1 ca2 ca3 cb0 cb1 cb2 cb3 la lb
  replace xa := xa.alloc (.cells #[.int .u64 (s0 : Nat), .int .u64 (s1 : Nat), .int .u64 (s2 : Nat), .int .u64 (s3 : Nat)] 24)
  replace xb := xb.alloc (.cells #[.int .u64 (s0 : Nat), .int .u64 (s1 : Nat), .int .u64 (s2 : Nat), .int .u64 (s3 : Nat)] 24)
  have xs := Box.new (w1) (s0 : Nat) (s1 : Nat) (s2 : Nat) (s3 : Nat) 24
  have PC := below_alloc PB (.cells #[.int .u64 (s0 : Nat), .int .u64 (s1 : Nat), .int .u64 (s2 : Nat), .int .u64 (s3 : Nat)] 24)
  clear PB
  have PB := PC
  clear PC
  generalize (w1).alloc (.cells #[.int .u64 (s0 : Nat), .int .u64 (s1 : Nat), .int .u64 (s2 : Nat), .int .u64 (s3 : Nat)] 24) = W1 at *
  generalize w1.heap.size = Bs at *
  refine (SUB1.out _).mono ?_
  rintro e w2 ⟨rfl, hc⟩
  replace xa := xa.later hc
  replace xb := xb.later hc
  replace xs := xs.later hc
  have PC := below_step PB hc
  clear PB hc
  have PB := PC
  clear PC
  have ca := xa
  obtain ⟨ca0, ca1, ca2, ca3⟩ := ca
  have la := World.block_lt_of_cell? _ _ ca0
  simp only [] at la
  have cs := xs
  obtain ⟨cs0, cs1, cs2, cs3⟩ := cs
  have ls := World.block_lt_of_cell? _ _ cs0
  simp only [] at ls
  have HPB := Lib.hid PB
  clear PB
  go_wp2_with fail
  have PB := HPB.out
  clear HPB
  clear ca0 ca1 ca2 ca3 cs0 cs1 cs2 cs3 la ls
  replace xa := xa.alloc (.cells #[.int .u64 (a0 : Nat), .int .u64 (a1 : Nat), .int .u64 (a2 : Nat), .int .u64 (a3 : Nat)] 24)
  replace xb := xb.alloc (.cells #[.int .u64 (a0 : Nat), .int .u64 (a1 : Nat), .int .u64 (a2 : Nat), .int .u64 (a3 : Nat)] 24)
  replace xs := xs.alloc (.cells #[.int .u64 (a0 : Nat), .int .u64 (a1 : Nat), .int .u64 (a2 : Nat), .int .u64 (a3 : Nat)] 24)
  have xd := Box.new (w2) (a0 : Nat) (a1 : Nat) (a2 : Nat) (a3 : Nat) 24
  have PC := below_alloc PB (.cells #[.int .u64 (a0 : Nat), .int .u64 (a1 : Nat), .int .u64 (a2 : Nat), .int .u64 (a3 : Nat)] 24)
  clear PB
  have PB := PC
  clear PC
  generalize (w2).alloc (.cells #[.int .u64 (a0 : Nat), .int .u64 (a1 : Nat), .int .u64 (a2 : Nat), .int .u64 (a3 : Nat)] 24) = W3 at *
  generalize w2.heap.size = Bd at *
  refine (LESS1.out _).mono ?_
  rintro e w4 ⟨rfl, hc⟩
  replace xa := xa.later hc
  replace xb := xb.later hc
  replace xs := xs.later hc
  replace xd := xd.later hc
  have PC := below_step PB hc
  clear PB hc
  have PB := PC
  clear PC
  have ca := xa
  obtain ⟨ca0, ca1, ca2, ca3⟩ := ca
  have la := World.block_lt_of_cell? _ _ ca0
  simp only [] at la
  have cb := xb
  obtain ⟨cb0, cb1, cb2, cb3⟩ := cb
  have lb := World.block_lt_of_cell? _ _ cb0
  simp only [] at lb
  have HPB := Lib.hid PB
  clear PB
  go_wp2_with fail
  have PB := HPB.out
  clear HPB
  clear ca0 ca1 ca2 ca3 cb0 cb1 cb2 cb3 la lb
  refine (SUB2.out _).mono ?_
  rintro e w5 ⟨rfl, hc⟩
  replace xa := xa.later hc
  replace xb := xb.later hc
  replace xs := xs.later hc
  replace xd := xd.later hc
  have PC := below_step PB hc
  clear PB hc
  have PB := PC
  clear PC
  have cb := xb
  obtain ⟨cb0, cb1, cb2, cb3⟩ := cb
  have lb := World.block_lt_of_cell? _ _ cb0
  simp only [] at lb
  have HPB := Lib.hid PB
  clear PB
  go_wp2_with fail
  have PB := HPB.out
  clear HPB
  clear cb0 cb1 cb2 cb3 lb
  replace xa := xa.alloc (.cells #[.int .u64 (t0 : Nat), .int .u64 (t1 : Nat), .int .u64 (t2 : Nat), .int .u64 (t3 : Nat)] 24)
  replace xb := xb.alloc (.cells #[.int .u64 (t0 : Nat), .int .u64 (t1 : Nat), .int .u64 (t2 : Nat), .int .u64 (t3 : Nat)] 24)
  replace xs := xs.alloc (.cells #[.int .u64 (t0 : Nat), .int .u64 (t1 : Nat), .int .u64 (t2 : Nat), .int .u64 (t3 : Nat)] 24)
  replace xd := xd.alloc (.cells #[.int .u64 (t0 : Nat), .int .u64 (t1 : Nat), .int .u64 (t2 : Nat), .int .u64 (t3 : Nat)] 24)
  have xt := Box.new (w5) (t0 : Nat) (t1 : Nat) (t2 : Nat) (t3 : Nat) 24
  have PC := below_alloc PB (.cells #[.int .u64 (t0 : Nat), .int .u64 (t1 : Nat), .int .u64 (t2 : Nat), .int .u64 (t3 : Nat)] 24)
  clear PB
  have PB := PC
  clear PC
  generalize (w5).alloc (.cells #[.int .u64 (t0 : Nat), .int .u64 (t1 : Nat), .int .u64 (t2 : Nat), .int .u64 (t3 : Nat)] 24) = W6 at *
  generalize w5.heap.size = Bt at *
  refine (ADD2.out _).mono ?_
  rintro e w7 ⟨rfl, hc⟩
  replace xa := xa.later hc
  replace xb := xb.later hc
  replace xs := xs.later hc
  replace xd := xd.later hc
  replace xt := xt.later hc
  have PC := below_step PB hc
  clear PB hc
  have PB := PC
  clear PC
  have ca := xa
  obtain ⟨ca0, ca1, ca2, ca3⟩ := ca
  have la := World.block_lt_of_cell? _ _ ca0
  simp only [] at la
  have cb := xb
  obtain ⟨cb0, cb1, cb2, cb3⟩ := cb
  have lb := World.block_lt_of_cell? _ _ cb0
  simp only [] at lb
  have HPB := Lib.hid PB
  clear PB
  go_wp2_with fail
  have PB := HPB.out
  clear HPB
  clear ca0 ca1 ca2 ca3 cb0 cb1 cb2 cb3 la lb
  replace xa := xa.alloc (.cells #[.int .u64 (a0 : Nat), .int .u64 (a1 : Nat), .int .u64 (a2 : Nat), .int .u64 (a3 : Nat)] 24)
  replace xb := xb.alloc (.cells #[.int .u64 (a0 : Nat), .int .u64 (a1 : Nat), .int .u64 (a2 : Nat), .int .u64 (a3 : Nat)] 24)
  replace xs := xs.alloc (.cells #[.int .u64 (a0 : Nat), .int .u64 (a1 : Nat), .int .u64 (a2 : Nat), .int .u64 (a3 : Nat)] 24)
  replace xd := xd.alloc (.cells #[.int .u64 (a0 : Nat), .int .u64 (a1 : Nat), .int .u64 (a2 : Nat), .int .u64 (a3 : Nat)] 24)
  replace xt := xt.alloc (.cells #[.int .u64 (a0 : Nat), .int .u64 (a1 : Nat), .int .u64 (a2 : Nat), .int .u64 (a3 : Nat)] 24)
  have xu := Box.new (w7) (a0 : Nat) (a1 : Nat) (a2 : Nat) (a3 : Nat) 24
  have PC := below_alloc PB (.cells #[.int .u64 (a0 : Nat), .int .u64 (a1 : Nat), .int .u64 (a2 : Nat), .int .u64 (a3 : Nat)] 24)
  clear PB
  have PB := PC
  clear PC
  generalize (w7).alloc (.cells #[.int .u64 (a0 : Nat), .int .u64 (a1 : Nat), .int .u64 (a2 : Nat), .int .u64 (a3 : Nat)] 24) = W8 at *
  generalize w7.heap.size = Bu at *
  refine (LESS2.out _).mono ?_
  rintro e w9 ⟨rfl, hc⟩
  replace xa := xa.later hc
  replace xb := xb.later hc
  replace xs := xs.later hc
  replace xd := xd.later hc
  replace xt := xt.later hc
  replace xu := xu.later hc
  have PC := below_step PB hc
  clear PB hc
  have PB := PC
  clear PC
  have HPB := Lib.hid PB
  clear PB
  go_wp2_with fail
  have PB := HPB.out
  clear HPB
  have HPB := Lib.hid PB
  clear PB
  refine wp_region_grow 8 (by kernel_rfl) (Nat.le_of_ble_eq_true (by kernel_rfl)) (by kernel_rfl) (by kernel_rfl) (fun _ _ _ _ _ h => h) ?_
  apply Exists.intro
  refine ⟨?_, ?_⟩
  · intro wg hg
    simp only [List.take_succ_cons, List.take_zero]
    have ca := xa.later hg
    obtain ⟨ca0, ca1, ca2, ca3⟩ := ca
    have ua0 : ∀ u : After wg, u.w.cell? ⟨w.heap.size, 0, none⟩ = some (.int .u64 (a0 : Nat)) := fun u => u.cell ca0
    have ua1 : ∀ u : After wg, u.w.cell? ⟨w.heap.size, 1, none⟩ = some (.int .u64 (a1 : Nat)) := fun u => u.cell ca1
    have ua2 : ∀ u : After wg, u.w.cell? ⟨w.heap.size, 2, none⟩ = some (.int .u64 (a2 : Nat)) := fun u => u.cell ca2
    have ua3 : ∀ u : After wg, u.w.cell? ⟨w.heap.size, 3, none⟩ = some (.int .u64 (a3 : Nat)) := fun u => u.cell ca3
    repeat (go_big_quiet_step ((first | (go_at_call 19; exact after_call (ofIs n _)) | (go_at_call 22; exact after_call (DIVW.out.word _)))))
    refine wpQuiet_nil ?_
    exact rfl
  intro wg hg
  show wpK _ _ _ _ _ 5 _ _ _
  refine wpK_box2 (f := 3) (i := 8) (k := 9) (c := #[.int .u64 0, .int .u64 0, .int .u64 0, .int .u64 0]) (c2 := #[.int .u64 0, .int .u64 0, .int .u64 0, .int .u64 0]) (T := 24) (T2 := 24) (by kernel_rfl) (by kernel_rfl) (by kernel_rfl) (by decide) rfl rfl rfl rfl rfl rfl (by decide) (fun a w => by go_simp) (fun a w => by go_simp) hg ?_
  intro Bq Br wh gh lq lr ne Hq Hr
  replace lq := Nat.le_trans hg.size lq
  replace lr := Nat.le_trans hg.size lr
  have ge := hg.trans gh
  clear hg gh
  refine wpK_one (f := 2) (i := 10) (by kernel_rfl) rfl rfl ?_
  intro wc gc K hK
  replace ge := ge.trans gc
  replace Hq := Hq.later gc
  replace Hr := Hr.later gc
  have n0 : wc.cell? ⟨Bq, 0, none⟩ = some (.int .u64 0) := Hq.cell 0
  have z0 : wc.frozen? ⟨Bq, 0, none⟩ = false := Hq.free 0
  have n1 : wc.cell? ⟨Bq, 1, none⟩ = some (.int .u64 0) := Hq.cell 1
  have z1 : wc.frozen? ⟨Bq, 1, none⟩ = false := Hq.free 1
  have n2 : wc.cell? ⟨Bq, 2, none⟩ = some (.int .u64 0) := Hq.cell 2
  have z2 : wc.frozen? ⟨Bq, 2, none⟩ = false := Hq.free 2
  have n3 : wc.cell? ⟨Bq, 3, none⟩ = some (.int .u64 0) := Hq.cell 3
  have z3 : wc.frozen? ⟨Bq, 3, none⟩ = false := Hq.free 3
  have HGE := Lib.hid ge
  clear ge gc
  go_simp
  have ge : Grows w9 ((((wc.setCell ⟨Bq, 0, none⟩ (.int .u64 (q0 : Nat))).setCell ⟨Bq, 1, none⟩ (.int .u64 (q1 : Nat))).setCell ⟨Bq, 2, none⟩ (.int .u64 (q2 : Nat))).setCell ⟨Bq, 3, none⟩ (.int .u64 (q3 : Nat))) := (((HGE.out.setCell lq _).setCell lq _).setCell lq _).setCell lq _
  replace Hq : Holds ((((wc.setCell ⟨Bq, 0, none⟩ (.int .u64 (q0 : Nat))).setCell ⟨Bq, 1, none⟩ (.int .u64 (q1 : Nat))).setCell ⟨Bq, 2, none⟩ (.int .u64 (q2 : Nat))).setCell ⟨Bq, 3, none⟩ (.int .u64 (q3 : Nat))) Bq #[.int .u64 (q0 : Nat), .int .u64 (q1 : Nat), .int .u64 (q2 : Nat), .int .u64 (q3 : Nat)] 24 := (((Hq.set _).set _).set _).set _
  replace Hr := (((Hr.other (q := 0) ne (.int .u64 (q0 : Nat))).other (q := 1) ne (.int .u64 (q1 : Nat))).other (q := 2) ne (.int .u64 (q2 : Nat))).other (q := 3) ne (.int .u64 (q3 : Nat))
  clear n0 n1 n2 n3 z0 z1 z2 z3 HGE
  refine hK _ _ ge ?_
  clear hK K
  generalize (((wc.setCell ⟨Bq, 0, none⟩ (.int .u64 (q0 : Nat))).setCell ⟨Bq, 1, none⟩ (.int .u64 (q1 : Nat))).setCell ⟨Bq, 2, none⟩ (.int .u64 (q2 : Nat))).setCell ⟨Bq, 3, none⟩ (.int .u64 (q3 : Nat)) = wd at *
  clear wc
  refine wpK_one (f := 1) (i := 11) (by kernel_rfl) rfl rfl ?_
  intro wc gc K hK
  replace ge := ge.trans gc
  replace Hq := Hq.later gc
  replace Hr := Hr.later gc
  have n0 : wc.cell? ⟨Br, 0, none⟩ = some (.int .u64 0) := Hr.cell 0
  have z0 : wc.frozen? ⟨Br, 0, none⟩ = false := Hr.free 0
  have n1 : wc.cell? ⟨Br, 1, none⟩ = some (.int .u64 0) := Hr.cell 1
  have z1 : wc.frozen? ⟨Br, 1, none⟩ = false := Hr.free 1
  have n2 : wc.cell? ⟨Br, 2, none⟩ = some (.int .u64 0) := Hr.cell 2
  have z2 : wc.frozen? ⟨Br, 2, none⟩ = false := Hr.free 2
  have n3 : wc.cell? ⟨Br, 3, none⟩ = some (.int .u64 0) := Hr.cell 3
  have z3 : wc.frozen? ⟨Br, 3, none⟩ = false := Hr.free 3
  have HGE := Lib.hid ge
  clear ge gc
  go_simp
  have ge : Grows w9 ((((wc.setCell ⟨Br, 0, none⟩ (.int .u64 (r0 : Nat))).setCell ⟨Br, 1, none⟩ (.int .u64 (r1 : Nat))).setCell ⟨Br, 2, none⟩ (.int .u64 (r2 : Nat))).setCell ⟨Br, 3, none⟩ (.int .u64 (r3 : Nat))) := (((HGE.out.setCell lr _).setCell lr _).setCell lr _).setCell lr _
  replace Hr : Holds ((((wc.setCell ⟨Br, 0, none⟩ (.int .u64 (r0 : Nat))).setCell ⟨Br, 1, none⟩ (.int .u64 (r1 : Nat))).setCell ⟨Br, 2, none⟩ (.int .u64 (r2 : Nat))).setCell ⟨Br, 3, none⟩ (.int .u64 (r3 : Nat))) Br #[.int .u64 (r0 : Nat), .int .u64 (r1 : Nat), .int .u64 (r2 : Nat), .int .u64 (r3 : Nat)] 24 := (((Hr.set _).set _).set _).set _
  replace Hq := (((Hq.other (q := 0) (Ne.symm ne) (.int .u64 (r0 : Nat))).other (q := 1) (Ne.symm ne) (.int .u64 (r1 : Nat))).other (q := 2) (Ne.symm ne) (.int .u64 (r2 : Nat))).other (q := 3) (Ne.symm ne) (.int .u64 (r3 : Nat))
  clear n0 n1 n2 n3 z0 z1 z2 z3 HGE
  refine hK _ _ ge ?_
  clear hK K
  generalize (((wc.setCell ⟨Br, 0, none⟩ (.int .u64 (r0 : Nat))).setCell ⟨Br, 1, none⟩ (.int .u64 (r1 : Nat))).setCell ⟨Br, 2, none⟩ (.int .u64 (r2 : Nat))).setCell ⟨Br, 3, none⟩ (.int .u64 (r3 : Nat)) = wd at *
  clear wc
  refine wpK_one (f := 0) (i := 12) (by kernel_rfl) rfl rfl ?_
  intro wc gc K hK
  go_simp
  replace Hq := Hq.later gc
  replace Hr := Hr.later gc
  replace ge := ge.trans gc
  refine hK _ _ ge ?_
  clear hK K gc
  refine wpK_end (by kernel_rfl) ?_
  intro W10 gf
  replace Hq := Hq.later gf
  replace Hr := Hr.later gf
  replace ge := ge.trans gf
  clear gf
  replace xa := xa.later ge
  replace xb := xb.later ge
  replace xs := xs.later ge
  replace xd := xd.later ge
  replace xt := xt.later ge
  replace xu := xu.later ge
  have PB := below_step HPB.out ge
  clear ge HPB
  have xq : Box W10 Bq (q0 : Nat) (q1 : Nat) (q2 : Nat) (q3 : Nat) := ⟨Hq.cell 0, Hq.cell 1, Hq.cell 2, Hq.cell 3⟩
  clear Hq
  have xr : Box W10 Br (r0 : Nat) (r1 : Nat) (r2 : Nat) (r3 : Nat) := ⟨Hr.cell 0, Hr.cell 1, Hr.cell 2, Hr.cell 3⟩
  clear Hr
  clear lq
  clear lr
  clear ne
  have cq := xq
  obtain ⟨cq0, cq1, cq2, cq3⟩ := cq
  have lq := World.block_lt_of_cell? _ _ cq0
  simp only [] at lq
  have HPB := Lib.hid PB
  clear PB
  go_wp2_with fail
  have PB := HPB.out
  clear HPB
  clear cq0 cq1 cq2 cq3 lq
  refine (MUL.out.zero _).mono ?_
  rintro e w11 ⟨rfl, hc⟩
  replace xa := xa.later hc
  replace xb := xb.later hc
  replace xs := xs.later hc
  replace xd := xd.later hc
  replace xt := xt.later hc
  replace xu := xu.later hc
  replace xq := xq.later hc
  replace xr := xr.later hc
  have PC := below_step PB hc
  clear PB hc
  have PB := PC
  clear PC
  have cr := xr
  obtain ⟨cr0, cr1, cr2, cr3⟩ := cr
  have lr := World.block_lt_of_cell? _ _ cr0
  simp only [] at lr
  have HPB := Lib.hid PB
  clear PB
  go_wp2_with fail
  have PB := HPB.out
  clear HPB
  clear cr0 cr1 cr2 cr3 lr
  replace xa := xa.alloc (.cells #[.int .u64 (m0 : Nat), .int .u64 (m1 : Nat), .int .u64 (m2 : Nat), .int .u64 (m3 : Nat)] 24)
  replace xb := xb.alloc (.cells #[.int .u64 (m0 : Nat), .int .u64 (m1 : Nat), .int .u64 (m2 : Nat), .int .u64 (m3 : Nat)] 24)
  replace xs := xs.alloc (.cells #[.int .u64 (m0 : Nat), .int .u64 (m1 : Nat), .int .u64 (m2 : Nat), .int .u64 (m3 : Nat)] 24)
  replace xd := xd.alloc (.cells #[.int .u64 (m0 : Nat), .int .u64 (m1 : Nat), .int .u64 (m2 : Nat), .int .u64 (m3 : Nat)] 24)
  replace xt := xt.alloc (.cells #[.int .u64 (m0 : Nat), .int .u64 (m1 : Nat), .int .u64 (m2 : Nat), .int .u64 (m3 : Nat)] 24)
  replace xu := xu.alloc (.cells #[.int .u64 (m0 : Nat), .int .u64 (m1 : Nat), .int .u64 (m2 : Nat), .int .u64 (m3 : Nat)] 24)
  replace xq := xq.alloc (.cells #[.int .u64 (m0 : Nat), .int .u64 (m1 : Nat), .int .u64 (m2 : Nat), .int .u64 (m3 : Nat)] 24)
  replace xr := xr.alloc (.cells #[.int .u64 (m0 : Nat), .int .u64 (m1 : Nat), .int .u64 (m2 : Nat), .int .u64 (m3 : Nat)] 24)
  have xm := Box.new (w11) (m0 : Nat) (m1 : Nat) (m2 : Nat) (m3 : Nat) 24
  have PC := below_alloc PB (.cells #[.int .u64 (m0 : Nat), .int .u64 (m1 : Nat), .int .u64 (m2 : Nat), .int .u64 (m3 : Nat)] 24)
  clear PB
  have PB := PC
  clear PC
  generalize (w11).alloc (.cells #[.int .u64 (m0 : Nat), .int .u64 (m1 : Nat), .int .u64 (m2 : Nat), .int .u64 (m3 : Nat)] 24) = W12 at *
  generalize w11.heap.size = Bm at *
  refine (ADD3.out _).mono ?_
  rintro e w13 ⟨rfl, hc⟩
  replace xa := xa.later hc
  replace xb := xb.later hc
  replace xs := xs.later hc
  replace xd := xd.later hc
  replace xt := xt.later hc
  replace xu := xu.later hc
  replace xq := xq.later hc
  replace xr := xr.later hc
  replace xm := xm.later hc
  have PC := below_step PB hc
  clear PB hc
  have PB := PC
  clear PC
  have HPB := Lib.hid PB
  clear PB
  go_wp2_with fail
  have PB := HPB.out
  clear HPB
  replace xa := xa.alloc (.cells #[.int .u64 (a0 : Nat), .int .u64 (a1 : Nat), .int .u64 (a2 : Nat), .int .u64 (a3 : Nat)] 24)
  replace xb := xb.alloc (.cells #[.int .u64 (a0 : Nat), .int .u64 (a1 : Nat), .int .u64 (a2 : Nat), .int .u64 (a3 : Nat)] 24)
  replace xs := xs.alloc (.cells #[.int .u64 (a0 : Nat), .int .u64 (a1 : Nat), .int .u64 (a2 : Nat), .int .u64 (a3 : Nat)] 24)
  replace xd := xd.alloc (.cells #[.int .u64 (a0 : Nat), .int .u64 (a1 : Nat), .int .u64 (a2 : Nat), .int .u64 (a3 : Nat)] 24)
  replace xt := xt.alloc (.cells #[.int .u64 (a0 : Nat), .int .u64 (a1 : Nat), .int .u64 (a2 : Nat), .int .u64 (a3 : Nat)] 24)
  replace xu := xu.alloc (.cells #[.int .u64 (a0 : Nat), .int .u64 (a1 : Nat), .int .u64 (a2 : Nat), .int .u64 (a3 : Nat)] 24)
  replace xq := xq.alloc (.cells #[.int .u64 (a0 : Nat), .int .u64 (a1 : Nat), .int .u64 (a2 : Nat), .int .u64 (a3 : Nat)] 24)
  replace xr := xr.alloc (.cells #[.int .u64 (a0 : Nat), .int .u64 (a1 : Nat), .int .u64 (a2 : Nat), .int .u64 (a3 : Nat)] 24)
  replace xm := xm.alloc (.cells #[.int .u64 (a0 : Nat), .int .u64 (a1 : Nat), .int .u64 (a2 : Nat), .int .u64 (a3 : Nat)] 24)
  have xv := Box.new (w13) (a0 : Nat) (a1 : Nat) (a2 : Nat) (a3 : Nat) 24
  have PC := below_alloc PB (.cells #[.int .u64 (a0 : Nat), .int .u64 (a1 : Nat), .int .u64 (a2 : Nat), .int .u64 (a3 : Nat)] 24)
  clear PB
  have PB := PC
  clear PC
  generalize (w13).alloc (.cells #[.int .u64 (a0 : Nat), .int .u64 (a1 : Nat), .int .u64 (a2 : Nat), .int .u64 (a3 : Nat)] 24) = W14 at *
  generalize w13.heap.size = Bv at *
  have cv := xv
  obtain ⟨cv0, cv1, cv2, cv3⟩ := cv
  have lv := World.block_lt_of_cell? _ _ cv0
  simp only [] at lv
  have ca := xa
  obtain ⟨ca0, ca1, ca2, ca3⟩ := ca
  have la := World.block_lt_of_cell? _ _ ca0
  simp only [] at la
  have cr := xr
  obtain ⟨cr0, cr1, cr2, cr3⟩ := cr
  have lr := World.block_lt_of_cell? _ _ cr0
  simp only [] at lr
  have uv0 : ∀ u : After W14, u.w.cell? ⟨Bv, 0, none⟩ = some (.int .u64 (a0 : Nat)) := fun u => u.cell cv0
  have uv1 : ∀ u : After W14, u.w.cell? ⟨Bv, 1, none⟩ = some (.int .u64 (a1 : Nat)) := fun u => u.cell cv1
  have uv2 : ∀ u : After W14, u.w.cell? ⟨Bv, 2, none⟩ = some (.int .u64 (a2 : Nat)) := fun u => u.cell cv2
  have uv3 : ∀ u : After W14, u.w.cell? ⟨Bv, 3, none⟩ = some (.int .u64 (a3 : Nat)) := fun u => u.cell cv3
  have ua0 : ∀ u : After W14, u.w.cell? ⟨w.heap.size, 0, none⟩ = some (.int .u64 (a0 : Nat)) := fun u => u.cell ca0
  have ua1 : ∀ u : After W14, u.w.cell? ⟨w.heap.size, 1, none⟩ = some (.int .u64 (a1 : Nat)) := fun u => u.cell ca1
  have ua2 : ∀ u : After W14, u.w.cell? ⟨w.heap.size, 2, none⟩ = some (.int .u64 (a2 : Nat)) := fun u => u.cell ca2
  have ua3 : ∀ u : After W14, u.w.cell? ⟨w.heap.size, 3, none⟩ = some (.int .u64 (a3 : Nat)) := fun u => u.cell ca3
  have ur0 : ∀ u : After W14, u.w.cell? ⟨Br, 0, none⟩ = some (.int .u64 (r0 : Nat)) := fun u => u.cell cr0
  have ur1 : ∀ u : After W14, u.w.cell? ⟨Br, 1, none⟩ = some (.int .u64 (r1 : Nat)) := fun u => u.cell cr1
  have ur2 : ∀ u : After W14, u.w.cell? ⟨Br, 2, none⟩ = some (.int .u64 (r2 : Nat)) := fun u => u.cell cr2
  have ur3 : ∀ u : After W14, u.w.cell? ⟨Br, 3, none⟩ = some (.int .u64 (r3 : Nat)) := fun u => u.cell cr3
  have HPB := Lib.hid PB
  clear PB
  refine wp_region_after (by kernel_rfl) (by kernel_rfl) ?_
  repeat (go_big_quiet_step ((first | (go_at_call 19; exact after_call (ofIs n _)) | (go_at_call 15; exact after_call (LESSW.out.word _)))))
  refine wpQuiet_nil ?_
  rintro _ ⟨u, rfl⟩
  clear cv0 cv1 cv2 cv3 ca0 ca1 ca2 ca3 cr0 cr1 cr2 cr3 lv la lr
  clear uv0 uv1 uv2 uv3 ua0 ua1 ua2 ua3 ur0 ur1 ur2 ur3
  replace xa := xa.later u.below
  replace xb := xb.later u.below
  replace xs := xs.later u.below
  replace xd := xd.later u.below
  replace xt := xt.later u.below
  replace xu := xu.later u.below
  replace xq := xq.later u.below
  replace xr := xr.later u.below
  replace xm := xm.later u.below
  replace xv := xv.later u.below
  have PB := below_step HPB.out u.below
  clear HPB
  generalize u.w = W15 at *
  clear u
  have ca := xa
  obtain ⟨ca0, ca1, ca2, ca3⟩ := ca
  have la := World.block_lt_of_cell? _ _ ca0
  simp only [] at la
  have cb := xb
  obtain ⟨cb0, cb1, cb2, cb3⟩ := cb
  have lb := World.block_lt_of_cell? _ _ cb0
  simp only [] at lb
  have HPB := Lib.hid PB
  clear PB
  go_wp2_with fail
  have PB := HPB.out
  clear HPB
  clear ca0 ca1 ca2 ca3 cb0 cb1 cb2 cb3 la lb
  refine (DIVB.out _).mono ?_
  rintro e w16 ⟨rfl, hc⟩
  replace xa := xa.later hc
  replace xb := xb.later hc
  replace xs := xs.later hc
  replace xd := xd.later hc
  replace xt := xt.later hc
  replace xu := xu.later hc
  replace xq := xq.later hc
  replace xr := xr.later hc
  replace xm := xm.later hc
  replace xv := xv.later hc
  have PC := below_step PB hc
  clear PB hc
  have PB := PC
  clear PC
  have cb := xb
  obtain ⟨cb0, cb1, cb2, cb3⟩ := cb
  have lb := World.block_lt_of_cell? _ _ cb0
  simp only [] at lb
  have HPB := Lib.hid PB
  clear PB
  go_wp2_with fail
  have PB := HPB.out
  clear HPB
  clear cb0 cb1 cb2 cb3 lb
  replace xa := xa.alloc (.cells #[.int .u64 (k0 : Nat), .int .u64 (k1 : Nat), .int .u64 (k2 : Nat), .int .u64 (k3 : Nat)] 24)
  replace xb := xb.alloc (.cells #[.int .u64 (k0 : Nat), .int .u64 (k1 : Nat), .int .u64 (k2 : Nat), .int .u64 (k3 : Nat)] 24)
  replace xs := xs.alloc (.cells #[.int .u64 (k0 : Nat), .int .u64 (k1 : Nat), .int .u64 (k2 : Nat), .int .u64 (k3 : Nat)] 24)
  replace xd := xd.alloc (.cells #[.int .u64 (k0 : Nat), .int .u64 (k1 : Nat), .int .u64 (k2 : Nat), .int .u64 (k3 : Nat)] 24)
  replace xt := xt.alloc (.cells #[.int .u64 (k0 : Nat), .int .u64 (k1 : Nat), .int .u64 (k2 : Nat), .int .u64 (k3 : Nat)] 24)
  replace xu := xu.alloc (.cells #[.int .u64 (k0 : Nat), .int .u64 (k1 : Nat), .int .u64 (k2 : Nat), .int .u64 (k3 : Nat)] 24)
  replace xq := xq.alloc (.cells #[.int .u64 (k0 : Nat), .int .u64 (k1 : Nat), .int .u64 (k2 : Nat), .int .u64 (k3 : Nat)] 24)
  replace xr := xr.alloc (.cells #[.int .u64 (k0 : Nat), .int .u64 (k1 : Nat), .int .u64 (k2 : Nat), .int .u64 (k3 : Nat)] 24)
  replace xm := xm.alloc (.cells #[.int .u64 (k0 : Nat), .int .u64 (k1 : Nat), .int .u64 (k2 : Nat), .int .u64 (k3 : Nat)] 24)
  replace xv := xv.alloc (.cells #[.int .u64 (k0 : Nat), .int .u64 (k1 : Nat), .int .u64 (k2 : Nat), .int .u64 (k3 : Nat)] 24)
  have xk := Box.new (w16) (k0 : Nat) (k1 : Nat) (k2 : Nat) (k3 : Nat) 24
  have PC := below_alloc PB (.cells #[.int .u64 (k0 : Nat), .int .u64 (k1 : Nat), .int .u64 (k2 : Nat), .int .u64 (k3 : Nat)] 24)
  clear PB
  have PB := PC
  clear PC
  replace xa := xa.alloc (.cells #[.int .u64 (l0 : Nat), .int .u64 (l1 : Nat), .int .u64 (l2 : Nat), .int .u64 (l3 : Nat)] 24)
  replace xb := xb.alloc (.cells #[.int .u64 (l0 : Nat), .int .u64 (l1 : Nat), .int .u64 (l2 : Nat), .int .u64 (l3 : Nat)] 24)
  replace xs := xs.alloc (.cells #[.int .u64 (l0 : Nat), .int .u64 (l1 : Nat), .int .u64 (l2 : Nat), .int .u64 (l3 : Nat)] 24)
  replace xd := xd.alloc (.cells #[.int .u64 (l0 : Nat), .int .u64 (l1 : Nat), .int .u64 (l2 : Nat), .int .u64 (l3 : Nat)] 24)
  replace xt := xt.alloc (.cells #[.int .u64 (l0 : Nat), .int .u64 (l1 : Nat), .int .u64 (l2 : Nat), .int .u64 (l3 : Nat)] 24)
  replace xu := xu.alloc (.cells #[.int .u64 (l0 : Nat), .int .u64 (l1 : Nat), .int .u64 (l2 : Nat), .int .u64 (l3 : Nat)] 24)
  replace xq := xq.alloc (.cells #[.int .u64 (l0 : Nat), .int .u64 (l1 : Nat), .int .u64 (l2 : Nat), .int .u64 (l3 : Nat)] 24)
  replace xr := xr.alloc (.cells #[.int .u64 (l0 : Nat), .int .u64 (l1 : Nat), .int .u64 (l2 : Nat), .int .u64 (l3 : Nat)] 24)
  replace xm := xm.alloc (.cells #[.int .u64 (l0 : Nat), .int .u64 (l1 : Nat), .int .u64 (l2 : Nat), .int .u64 (l3 : Nat)] 24)
  replace xv := xv.alloc (.cells #[.int .u64 (l0 : Nat), .int .u64 (l1 : Nat), .int .u64 (l2 : Nat), .int .u64 (l3 : Nat)] 24)
  replace xk := xk.alloc (.cells #[.int .u64 (l0 : Nat), .int .u64 (l1 : Nat), .int .u64 (l2 : Nat), .int .u64 (l3 : Nat)] 24)
  have xl := Box.new ((w16).alloc (.cells #[.int .u64 (k0 : Nat), .int .u64 (k1 : Nat), .int .u64 (k2 : Nat), .int .u64 (k3 : Nat)] 24)) (l0 : Nat) (l1 : Nat) (l2 : Nat) (l3 : Nat) 24
  simp only [World.size_alloc] at xl
  have PC := below_alloc PB (.cells #[.int .u64 (l0 : Nat), .int .u64 (l1 : Nat), .int .u64 (l2 : Nat), .int .u64 (l3 : Nat)] 24)
  clear PB
  have PB := PC
  clear PC
  generalize ((w16).alloc (.cells #[.int .u64 (k0 : Nat), .int .u64 (k1 : Nat), .int .u64 (k2 : Nat), .int .u64 (k3 : Nat)] 24)).alloc (.cells #[.int .u64 (l0 : Nat), .int .u64 (l1 : Nat), .int .u64 (l2 : Nat), .int .u64 (l3 : Nat)] 24) = W17 at *
  generalize w16.heap.size + 1 = Bl at *
  generalize w16.heap.size = Bk at *
  refine (DIVL.out _).mono ?_
  rintro e w18 ⟨rfl, hc⟩
  replace xa := xa.later hc
  replace xb := xb.later hc
  replace xs := xs.later hc
  replace xd := xd.later hc
  replace xt := xt.later hc
  replace xu := xu.later hc
  replace xq := xq.later hc
  replace xr := xr.later hc
  replace xm := xm.later hc
  replace xv := xv.later hc
  replace xk := xk.later hc
  replace xl := xl.later hc
  have PC := below_step PB hc
  clear PB hc
  have PB := PC
  clear PC
  have cl := xl
  obtain ⟨cl0, cl1, cl2, cl3⟩ := cl
  have ll := World.block_lt_of_cell? _ _ cl0
  simp only [] at ll
  have cb := xb
  obtain ⟨cb0, cb1, cb2, cb3⟩ := cb
  have lb := World.block_lt_of_cell? _ _ cb0
  simp only [] at lb
  have HPB := Lib.hid PB
  clear PB
  go_wp2_with fail
  have PB := HPB.out
  clear HPB
  clear cl0 cl1 cl2 cl3 cb0 cb1 cb2 cb3 ll lb
  replace xa := xa.alloc (.cells #[.int .u64 (z0 : Nat), .int .u64 (z1 : Nat), .int .u64 (z2 : Nat), .int .u64 (z3 : Nat)] 24)
  replace xb := xb.alloc (.cells #[.int .u64 (z0 : Nat), .int .u64 (z1 : Nat), .int .u64 (z2 : Nat), .int .u64 (z3 : Nat)] 24)
  replace xs := xs.alloc (.cells #[.int .u64 (z0 : Nat), .int .u64 (z1 : Nat), .int .u64 (z2 : Nat), .int .u64 (z3 : Nat)] 24)
  replace xd := xd.alloc (.cells #[.int .u64 (z0 : Nat), .int .u64 (z1 : Nat), .int .u64 (z2 : Nat), .int .u64 (z3 : Nat)] 24)
  replace xt := xt.alloc (.cells #[.int .u64 (z0 : Nat), .int .u64 (z1 : Nat), .int .u64 (z2 : Nat), .int .u64 (z3 : Nat)] 24)
  replace xu := xu.alloc (.cells #[.int .u64 (z0 : Nat), .int .u64 (z1 : Nat), .int .u64 (z2 : Nat), .int .u64 (z3 : Nat)] 24)
  replace xq := xq.alloc (.cells #[.int .u64 (z0 : Nat), .int .u64 (z1 : Nat), .int .u64 (z2 : Nat), .int .u64 (z3 : Nat)] 24)
  replace xr := xr.alloc (.cells #[.int .u64 (z0 : Nat), .int .u64 (z1 : Nat), .int .u64 (z2 : Nat), .int .u64 (z3 : Nat)] 24)
  replace xm := xm.alloc (.cells #[.int .u64 (z0 : Nat), .int .u64 (z1 : Nat), .int .u64 (z2 : Nat), .int .u64 (z3 : Nat)] 24)
  replace xv := xv.alloc (.cells #[.int .u64 (z0 : Nat), .int .u64 (z1 : Nat), .int .u64 (z2 : Nat), .int .u64 (z3 : Nat)] 24)
  replace xk := xk.alloc (.cells #[.int .u64 (z0 : Nat), .int .u64 (z1 : Nat), .int .u64 (z2 : Nat), .int .u64 (z3 : Nat)] 24)
  replace xl := xl.alloc (.cells #[.int .u64 (z0 : Nat), .int .u64 (z1 : Nat), .int .u64 (z2 : Nat), .int .u64 (z3 : Nat)] 24)
  have xz := Box.new (w18) (z0 : Nat) (z1 : Nat) (z2 : Nat) (z3 : Nat) 24
  have PC := below_alloc PB (.cells #[.int .u64 (z0 : Nat), .int .u64 (z1 : Nat), .int .u64 (z2 : Nat), .int .u64 (z3 : Nat)] 24)
  clear PB
  have PB := PC
  clear PC
  replace xa := xa.alloc (.cells #[.int .u64 (l0 : Nat), .int .u64 (l1 : Nat), .int .u64 (l2 : Nat), .int .u64 (l3 : Nat)] 24)
  replace xb := xb.alloc (.cells #[.int .u64 (l0 : Nat), .int .u64 (l1 : Nat), .int .u64 (l2 : Nat), .int .u64 (l3 : Nat)] 24)
  replace xs := xs.alloc (.cells #[.int .u64 (l0 : Nat), .int .u64 (l1 : Nat), .int .u64 (l2 : Nat), .int .u64 (l3 : Nat)] 24)
  replace xd := xd.alloc (.cells #[.int .u64 (l0 : Nat), .int .u64 (l1 : Nat), .int .u64 (l2 : Nat), .int .u64 (l3 : Nat)] 24)
  replace xt := xt.alloc (.cells #[.int .u64 (l0 : Nat), .int .u64 (l1 : Nat), .int .u64 (l2 : Nat), .int .u64 (l3 : Nat)] 24)
  replace xu := xu.alloc (.cells #[.int .u64 (l0 : Nat), .int .u64 (l1 : Nat), .int .u64 (l2 : Nat), .int .u64 (l3 : Nat)] 24)
  replace xq := xq.alloc (.cells #[.int .u64 (l0 : Nat), .int .u64 (l1 : Nat), .int .u64 (l2 : Nat), .int .u64 (l3 : Nat)] 24)
  replace xr := xr.alloc (.cells #[.int .u64 (l0 : Nat), .int .u64 (l1 : Nat), .int .u64 (l2 : Nat), .int .u64 (l3 : Nat)] 24)
  replace xm := xm.alloc (.cells #[.int .u64 (l0 : Nat), .int .u64 (l1 : Nat), .int .u64 (l2 : Nat), .int .u64 (l3 : Nat)] 24)
  replace xv := xv.alloc (.cells #[.int .u64 (l0 : Nat), .int .u64 (l1 : Nat), .int .u64 (l2 : Nat), .int .u64 (l3 : Nat)] 24)
  replace xk := xk.alloc (.cells #[.int .u64 (l0 : Nat), .int .u64 (l1 : Nat), .int .u64 (l2 : Nat), .int .u64 (l3 : Nat)] 24)
  replace xl := xl.alloc (.cells #[.int .u64 (l0 : Nat), .int .u64 (l1 : Nat), .int .u64 (l2 : Nat), .int .u64 (l3 : Nat)] 24)
  replace xz := xz.alloc (.cells #[.int .u64 (l0 : Nat), .int .u64 (l1 : Nat), .int .u64 (l2 : Nat), .int .u64 (l3 : Nat)] 24)
  have xy := Box.new ((w18).alloc (.cells #[.int .u64 (z0 : Nat), .int .u64 (z1 : Nat), .int .u64 (z2 : Nat), .int .u64 (z3 : Nat)] 24)) (l0 : Nat) (l1 : Nat) (l2 : Nat) (l3 : Nat) 24
  simp only [World.size_alloc] at xy
  have PC := below_alloc PB (.cells #[.int .u64 (l0 : Nat), .int .u64 (l1 : Nat), .int .u64 (l2 : Nat), .int .u64 (l3 : Nat)] 24)
  clear PB
  have PB := PC
  clear PC
  generalize ((w18).alloc (.cells #[.int .u64 (z0 : Nat), .int .u64 (z1 : Nat), .int .u64 (z2 : Nat), .int .u64 (z3 : Nat)] 24)).alloc (.cells #[.int .u64 (l0 : Nat), .int .u64 (l1 : Nat), .int .u64 (l2 : Nat), .int .u64 (l3 : Nat)] 24) = W19 at *
  generalize w18.heap.size + 1 = By at *
  generalize w18.heap.size = Bz at *
  refine (LESSL.out _).mono ?_
  rintro e w20 ⟨rfl, hc⟩
  replace xa := xa.later hc
  replace xb := xb.later hc
  replace xs := xs.later hc
  replace xd := xd.later hc
  replace xt := xt.later hc
  replace xu := xu.later hc
  replace xq := xq.later hc
  replace xr := xr.later hc
  replace xm := xm.later hc
  replace xv := xv.later hc
  replace xk := xk.later hc
  replace xl := xl.later hc
  replace xz := xz.later hc
  replace xy := xy.later hc
  have PC := below_step PB hc
  clear PB hc
  have PB := PC
  clear PC
  have ca := xa
  obtain ⟨ca0, ca1, ca2, ca3⟩ := ca
  have la := World.block_lt_of_cell? _ _ ca0
  simp only [] at la
  have cl := xl
  obtain ⟨cl0, cl1, cl2, cl3⟩ := cl
  have ll := World.block_lt_of_cell? _ _ cl0
  simp only [] at ll
  have HPB := Lib.hid PB
  clear PB
  go_wp2_with fail
  have PB := HPB.out
  clear HPB
  clear ca0 ca1 ca2 ca3 cl0 cl1 cl2 cl3 la ll
  refine (SUBL.out _).mono ?_
  rintro e w21 ⟨rfl, hc⟩
  replace xa := xa.later hc
  replace xb := xb.later hc
  replace xs := xs.later hc
  replace xd := xd.later hc
  replace xt := xt.later hc
  replace xu := xu.later hc
  replace xq := xq.later hc
  replace xr := xr.later hc
  replace xm := xm.later hc
  replace xv := xv.later hc
  replace xk := xk.later hc
  replace xl := xl.later hc
  replace xz := xz.later hc
  replace xy := xy.later hc
  have PC := below_step PB hc
  clear PB hc
  have PB := PC
  clear PC
  have cb := xb
  obtain ⟨cb0, cb1, cb2, cb3⟩ := cb
  have lb := World.block_lt_of_cell? _ _ cb0
  simp only [] at lb
  have HPB := Lib.hid PB
  clear PB
  go_wp2_with fail
  have PB := HPB.out
  clear HPB
  clear cb0 cb1 cb2 cb3 lb
  replace xa := xa.alloc (.cells #[.int .u64 (x0 : Nat), .int .u64 (x1 : Nat), .int .u64 (x2 : Nat), .int .u64 (x3 : Nat)] 24)
  replace xb := xb.alloc (.cells #[.int .u64 (x0 : Nat), .int .u64 (x1 : Nat), .int .u64 (x2 : Nat), .int .u64 (x3 : Nat)] 24)
  replace xs := xs.alloc (.cells #[.int .u64 (x0 : Nat), .int .u64 (x1 : Nat), .int .u64 (x2 : Nat), .int .u64 (x3 : Nat)] 24)
  replace xd := xd.alloc (.cells #[.int .u64 (x0 : Nat), .int .u64 (x1 : Nat), .int .u64 (x2 : Nat), .int .u64 (x3 : Nat)] 24)
  replace xt := xt.alloc (.cells #[.int .u64 (x0 : Nat), .int .u64 (x1 : Nat), .int .u64 (x2 : Nat), .int .u64 (x3 : Nat)] 24)
  replace xu := xu.alloc (.cells #[.int .u64 (x0 : Nat), .int .u64 (x1 : Nat), .int .u64 (x2 : Nat), .int .u64 (x3 : Nat)] 24)
  replace xq := xq.alloc (.cells #[.int .u64 (x0 : Nat), .int .u64 (x1 : Nat), .int .u64 (x2 : Nat), .int .u64 (x3 : Nat)] 24)
  replace xr := xr.alloc (.cells #[.int .u64 (x0 : Nat), .int .u64 (x1 : Nat), .int .u64 (x2 : Nat), .int .u64 (x3 : Nat)] 24)
  replace xm := xm.alloc (.cells #[.int .u64 (x0 : Nat), .int .u64 (x1 : Nat), .int .u64 (x2 : Nat), .int .u64 (x3 : Nat)] 24)
  replace xv := xv.alloc (.cells #[.int .u64 (x0 : Nat), .int .u64 (x1 : Nat), .int .u64 (x2 : Nat), .int .u64 (x3 : Nat)] 24)
  replace xk := xk.alloc (.cells #[.int .u64 (x0 : Nat), .int .u64 (x1 : Nat), .int .u64 (x2 : Nat), .int .u64 (x3 : Nat)] 24)
  replace xl := xl.alloc (.cells #[.int .u64 (x0 : Nat), .int .u64 (x1 : Nat), .int .u64 (x2 : Nat), .int .u64 (x3 : Nat)] 24)
  replace xz := xz.alloc (.cells #[.int .u64 (x0 : Nat), .int .u64 (x1 : Nat), .int .u64 (x2 : Nat), .int .u64 (x3 : Nat)] 24)
  replace xy := xy.alloc (.cells #[.int .u64 (x0 : Nat), .int .u64 (x1 : Nat), .int .u64 (x2 : Nat), .int .u64 (x3 : Nat)] 24)
  have xx := Box.new (w21) (x0 : Nat) (x1 : Nat) (x2 : Nat) (x3 : Nat) 24
  have PC := below_alloc PB (.cells #[.int .u64 (x0 : Nat), .int .u64 (x1 : Nat), .int .u64 (x2 : Nat), .int .u64 (x3 : Nat)] 24)
  clear PB
  have PB := PC
  clear PC
  generalize (w21).alloc (.cells #[.int .u64 (x0 : Nat), .int .u64 (x1 : Nat), .int .u64 (x2 : Nat), .int .u64 (x3 : Nat)] 24) = W22 at *
  generalize w21.heap.size = Bx at *
  refine (DIVX.out _).mono ?_
  rintro e w23 ⟨rfl, hc⟩
  replace xa := xa.later hc
  replace xb := xb.later hc
  replace xs := xs.later hc
  replace xd := xd.later hc
  replace xt := xt.later hc
  replace xu := xu.later hc
  replace xq := xq.later hc
  replace xr := xr.later hc
  replace xm := xm.later hc
  replace xv := xv.later hc
  replace xk := xk.later hc
  replace xl := xl.later hc
  replace xz := xz.later hc
  replace xy := xy.later hc
  replace xx := xx.later hc
  have PC := below_step PB hc
  clear PB hc
  have PB := PC
  clear PC
  have ck := xk
  obtain ⟨ck0, ck1, ck2, ck3⟩ := ck
  have lk := World.block_lt_of_cell? _ _ ck0
  simp only [] at lk
  have HPB := Lib.hid PB
  clear PB
  go_wp2_with fail
  have PB := HPB.out
  clear HPB
  clear ck0 ck1 ck2 ck3 lk
  replace xa := xa.alloc (.cells #[.int .u64 (k0 : Nat), .int .u64 (k1 : Nat), .int .u64 (k2 : Nat), .int .u64 (k3 : Nat)] 24)
  replace xb := xb.alloc (.cells #[.int .u64 (k0 : Nat), .int .u64 (k1 : Nat), .int .u64 (k2 : Nat), .int .u64 (k3 : Nat)] 24)
  replace xs := xs.alloc (.cells #[.int .u64 (k0 : Nat), .int .u64 (k1 : Nat), .int .u64 (k2 : Nat), .int .u64 (k3 : Nat)] 24)
  replace xd := xd.alloc (.cells #[.int .u64 (k0 : Nat), .int .u64 (k1 : Nat), .int .u64 (k2 : Nat), .int .u64 (k3 : Nat)] 24)
  replace xt := xt.alloc (.cells #[.int .u64 (k0 : Nat), .int .u64 (k1 : Nat), .int .u64 (k2 : Nat), .int .u64 (k3 : Nat)] 24)
  replace xu := xu.alloc (.cells #[.int .u64 (k0 : Nat), .int .u64 (k1 : Nat), .int .u64 (k2 : Nat), .int .u64 (k3 : Nat)] 24)
  replace xq := xq.alloc (.cells #[.int .u64 (k0 : Nat), .int .u64 (k1 : Nat), .int .u64 (k2 : Nat), .int .u64 (k3 : Nat)] 24)
  replace xr := xr.alloc (.cells #[.int .u64 (k0 : Nat), .int .u64 (k1 : Nat), .int .u64 (k2 : Nat), .int .u64 (k3 : Nat)] 24)
  replace xm := xm.alloc (.cells #[.int .u64 (k0 : Nat), .int .u64 (k1 : Nat), .int .u64 (k2 : Nat), .int .u64 (k3 : Nat)] 24)
  replace xv := xv.alloc (.cells #[.int .u64 (k0 : Nat), .int .u64 (k1 : Nat), .int .u64 (k2 : Nat), .int .u64 (k3 : Nat)] 24)
  replace xk := xk.alloc (.cells #[.int .u64 (k0 : Nat), .int .u64 (k1 : Nat), .int .u64 (k2 : Nat), .int .u64 (k3 : Nat)] 24)
  replace xl := xl.alloc (.cells #[.int .u64 (k0 : Nat), .int .u64 (k1 : Nat), .int .u64 (k2 : Nat), .int .u64 (k3 : Nat)] 24)
  replace xz := xz.alloc (.cells #[.int .u64 (k0 : Nat), .int .u64 (k1 : Nat), .int .u64 (k2 : Nat), .int .u64 (k3 : Nat)] 24)
  replace xy := xy.alloc (.cells #[.int .u64 (k0 : Nat), .int .u64 (k1 : Nat), .int .u64 (k2 : Nat), .int .u64 (k3 : Nat)] 24)
  replace xx := xx.alloc (.cells #[.int .u64 (k0 : Nat), .int .u64 (k1 : Nat), .int .u64 (k2 : Nat), .int .u64 (k3 : Nat)] 24)
  have xi := Box.new (w23) (k0 : Nat) (k1 : Nat) (k2 : Nat) (k3 : Nat) 24
  have PC := below_alloc PB (.cells #[.int .u64 (k0 : Nat), .int .u64 (k1 : Nat), .int .u64 (k2 : Nat), .int .u64 (k3 : Nat)] 24)
  clear PB
  have PB := PC
  clear PC
  replace xa := xa.alloc (.cells #[.int .u64 (z0 : Nat), .int .u64 (z1 : Nat), .int .u64 (z2 : Nat), .int .u64 (z3 : Nat)] 24)
  replace xb := xb.alloc (.cells #[.int .u64 (z0 : Nat), .int .u64 (z1 : Nat), .int .u64 (z2 : Nat), .int .u64 (z3 : Nat)] 24)
  replace xs := xs.alloc (.cells #[.int .u64 (z0 : Nat), .int .u64 (z1 : Nat), .int .u64 (z2 : Nat), .int .u64 (z3 : Nat)] 24)
  replace xd := xd.alloc (.cells #[.int .u64 (z0 : Nat), .int .u64 (z1 : Nat), .int .u64 (z2 : Nat), .int .u64 (z3 : Nat)] 24)
  replace xt := xt.alloc (.cells #[.int .u64 (z0 : Nat), .int .u64 (z1 : Nat), .int .u64 (z2 : Nat), .int .u64 (z3 : Nat)] 24)
  replace xu := xu.alloc (.cells #[.int .u64 (z0 : Nat), .int .u64 (z1 : Nat), .int .u64 (z2 : Nat), .int .u64 (z3 : Nat)] 24)
  replace xq := xq.alloc (.cells #[.int .u64 (z0 : Nat), .int .u64 (z1 : Nat), .int .u64 (z2 : Nat), .int .u64 (z3 : Nat)] 24)
  replace xr := xr.alloc (.cells #[.int .u64 (z0 : Nat), .int .u64 (z1 : Nat), .int .u64 (z2 : Nat), .int .u64 (z3 : Nat)] 24)
  replace xm := xm.alloc (.cells #[.int .u64 (z0 : Nat), .int .u64 (z1 : Nat), .int .u64 (z2 : Nat), .int .u64 (z3 : Nat)] 24)
  replace xv := xv.alloc (.cells #[.int .u64 (z0 : Nat), .int .u64 (z1 : Nat), .int .u64 (z2 : Nat), .int .u64 (z3 : Nat)] 24)
  replace xk := xk.alloc (.cells #[.int .u64 (z0 : Nat), .int .u64 (z1 : Nat), .int .u64 (z2 : Nat), .int .u64 (z3 : Nat)] 24)
  replace xl := xl.alloc (.cells #[.int .u64 (z0 : Nat), .int .u64 (z1 : Nat), .int .u64 (z2 : Nat), .int .u64 (z3 : Nat)] 24)
  replace xz := xz.alloc (.cells #[.int .u64 (z0 : Nat), .int .u64 (z1 : Nat), .int .u64 (z2 : Nat), .int .u64 (z3 : Nat)] 24)
  replace xy := xy.alloc (.cells #[.int .u64 (z0 : Nat), .int .u64 (z1 : Nat), .int .u64 (z2 : Nat), .int .u64 (z3 : Nat)] 24)
  replace xx := xx.alloc (.cells #[.int .u64 (z0 : Nat), .int .u64 (z1 : Nat), .int .u64 (z2 : Nat), .int .u64 (z3 : Nat)] 24)
  replace xi := xi.alloc (.cells #[.int .u64 (z0 : Nat), .int .u64 (z1 : Nat), .int .u64 (z2 : Nat), .int .u64 (z3 : Nat)] 24)
  have xj := Box.new ((w23).alloc (.cells #[.int .u64 (k0 : Nat), .int .u64 (k1 : Nat), .int .u64 (k2 : Nat), .int .u64 (k3 : Nat)] 24)) (z0 : Nat) (z1 : Nat) (z2 : Nat) (z3 : Nat) 24
  simp only [World.size_alloc] at xj
  have PC := below_alloc PB (.cells #[.int .u64 (z0 : Nat), .int .u64 (z1 : Nat), .int .u64 (z2 : Nat), .int .u64 (z3 : Nat)] 24)
  clear PB
  have PB := PC
  clear PC
  generalize ((w23).alloc (.cells #[.int .u64 (k0 : Nat), .int .u64 (k1 : Nat), .int .u64 (k2 : Nat), .int .u64 (k3 : Nat)] 24)).alloc (.cells #[.int .u64 (z0 : Nat), .int .u64 (z1 : Nat), .int .u64 (z2 : Nat), .int .u64 (z3 : Nat)] 24) = W24 at *
  generalize w23.heap.size + 1 = Bj at *
  generalize w23.heap.size = Bi at *
  refine (works_any _).mono ?_
  rintro e w25 ⟨rfl, hc⟩
  replace xa := xa.later hc
  replace xb := xb.later hc
  replace xs := xs.later hc
  replace xd := xd.later hc
  replace xt := xt.later hc
  replace xu := xu.later hc
  replace xq := xq.later hc
  replace xr := xr.later hc
  replace xm := xm.later hc
  replace xv := xv.later hc
  replace xk := xk.later hc
  replace xl := xl.later hc
  replace xz := xz.later hc
  replace xy := xy.later hc
  replace xx := xx.later hc
  replace xi := xi.later hc
  replace xj := xj.later hc
  have PC := below_step PB hc
  clear PB hc
  have PB := PC
  clear PC
  have HPB := Lib.hid PB
  clear PB
  go_wp2_with fail
  have PB := HPB.out
  clear HPB
  go_returns
  exact ⟨rfl, PB⟩

end Go.Proofs.Ytcjggdoopehkpaa
