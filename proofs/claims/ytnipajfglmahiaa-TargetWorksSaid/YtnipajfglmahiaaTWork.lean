/- Work of the package target: how many hashes one has to try, at every target. No condition. -/
import Derived.Test.YtnipajfglmahiaaTOfAny
import Derived.Test.YtnipajfglmahiaaRefUp
namespace Go.Proofs.Ytnipajfglmahiaa
open Go.RowKit

def DivX (x0 x1 x2 x3 y0 y1 y2 y3 q0 q1 q2 q3 r0 r1 r2 r3 : Nat) (e : Int) : Prop := ∀ w : World, Calls Try.prog 25 #[.agg #[.int .u64 (x0 : Nat), .int .u64 (x1 : Nat), .int .u64 (x2 : Nat), .int .u64 (x3 : Nat)], .agg #[.int .u64 (y0 : Nat), .int .u64 (y1 : Nat), .int .u64 (y2 : Nat), .int .u64 (y3 : Nat)]] w fun e' w' => e' = .returned (.tuple #[.agg #[.int .u64 (q0 : Nat), .int .u64 (q1 : Nat), .int .u64 (q2 : Nat), .int .u64 (q3 : Nat)], .agg #[.int .u64 (r0 : Nat), .int .u64 (r1 : Nat), .int .u64 (r2 : Nat), .int .u64 (r3 : Nat)], .int .i64 e]) ∧ Below w.heap.size w w'
theorem AddIs.one {x0 x1 x2 x3 s0 s1 s2 s3 : Nat} {o : Bool} (h : AddIs x0 x1 x2 x3 1 0 0 0 s0 s1 s2 s3 o) (w : World) : Calls Try.prog 23 #[.agg #[.int .u64 (x0 : Nat), .int .u64 (x1 : Nat), .int .u64 (x2 : Nat), .int .u64 (x3 : Nat)], .agg #[.int .u64 1, .int .u64 0, .int .u64 0, .int .u64 0]] w fun e w' => e = .returned (.tuple #[.agg #[.int .u64 (s0 : Nat), .int .u64 (s1 : Nat), .int .u64 (s2 : Nat), .int .u64 (s3 : Nat)], .bool o]) ∧ Below w.heap.size w w' := h w
theorem SubIs.most {x0 x1 x2 x3 s0 s1 s2 s3 : Nat} {o : Bool} (h : SubIs 18446744073709551615 18446744073709551615 18446744073709551615 18446744073709551615 x0 x1 x2 x3 s0 s1 s2 s3 o) (w : World) : Calls Try.prog 21 #[.agg #[.int .u64 18446744073709551615, .int .u64 18446744073709551615, .int .u64 18446744073709551615, .int .u64 18446744073709551615], .agg #[.int .u64 (x0 : Nat), .int .u64 (x1 : Nat), .int .u64 (x2 : Nat), .int .u64 (x3 : Nat)]] w fun e w' => e = .returned (.tuple #[.agg #[.int .u64 (s0 : Nat), .int .u64 (s1 : Nat), .int .u64 (s2 : Nat), .int .u64 (s3 : Nat)], .bool o]) ∧ Below w.heap.size w w' := h w

set_option maxHeartbeats 1000000 in
theorem div_zero (a0 a1 a2 a3 : Nat) (w : World) : Calls Try.prog 25 #[.agg #[.int .u64 (a0 : Nat), .int .u64 (a1 : Nat), .int .u64 (a2 : Nat), .int .u64 (a3 : Nat)], .agg #[.int .u64 0, .int .u64 0, .int .u64 0, .int .u64 0]] w fun e w' =>
    e = .returned (.tuple #[.agg #[.int .u64 0, .int .u64 0, .int .u64 0, .int .u64 0], .agg #[.int .u64 0, .int .u64 0, .int .u64 0, .int .u64 0], .int .i64 1]) ∧ Below w.heap.size w w' := by
  have EQ := eq_big
  go_enter Try.func25, Try.ntmps25
  go_wp2_with fail
  go_region
  go_wp2_with fail
  go_returns
  refine ⟨rfl, ?_⟩
  go_grown

set_option maxRecDepth 100000 in
set_option maxHeartbeats 8000000 in
theorem work_zero (t0 t1 t2 t3 : Nat) (w : World) (ez : EqZ t0 t1 t2 t3 true) :
    Calls Try.prog 16 #[.agg #[.int .u64 (t0 : Nat), .int .u64 (t1 : Nat), .int .u64 (t2 : Nat), .int .u64 (t3 : Nat)]] w fun e w' => e = .returned (.agg #[.int .u64 18446744073709551615, .int .u64 18446744073709551615, .int .u64 18446744073709551615, .int .u64 18446744073709551615]) ∧ Below w.heap.size w w' := by
  unfold EqZ at ez
  go_enter Try.func16, Try.ntmps16
  go_wp2_with fail
  go_returns
  refine ⟨rfl, ?_⟩
  go_grown

set_option maxRecDepth 100000 in
set_option maxHeartbeats 8000000 in
theorem work_all (t0 t1 t2 t3 n0 n1 n2 n3 l0 l1 l2 l3 q0 q1 q2 q3 r0 r1 r2 r3 k0 k1 k2 k3 : Nat) (o : Bool) (e : Int) (w : World) (ez : EqZ t0 t1 t2 t3 false) (add1 : AddIs t0 t1 t2 t3 1 0 0 0 n0 n1 n2 n3 o) (sub : SubIs 18446744073709551615 18446744073709551615 18446744073709551615 18446744073709551615 t0 t1 t2 t3 l0 l1 l2 l3 false) (div : DivX l0 l1 l2 l3 n0 n1 n2 n3 q0 q1 q2 q3 r0 r1 r2 r3 e) (add2 : AddIs q0 q1 q2 q3 1 0 0 0 k0 k1 k2 k3 false) :
    Calls Try.prog 16 #[.agg #[.int .u64 (t0 : Nat), .int .u64 (t1 : Nat), .int .u64 (t2 : Nat), .int .u64 (t3 : Nat)]] w fun e w' => e = .returned (.agg #[.int .u64 (k0 : Nat), .int .u64 (k1 : Nat), .int .u64 (k2 : Nat), .int .u64 (k3 : Nat)]) ∧ Below w.heap.size w w' := by
  have ADD1 := Lib.hid add1
  have SUB := Lib.hid sub
  have DIV := Lib.hid div
  have ADD2 := Lib.hid add2
  clear add1 sub div add2
  unfold EqZ at ez
  go_enter Try.func16, Try.ntmps16
  go_wp2_with fail
  have PB := below3 w #[.int .u64 (t0 : Nat), .int .u64 (t1 : Nat), .int .u64 (t2 : Nat), .int .u64 (t3 : Nat)] #[.int .u64 0, .int .u64 0, .int .u64 0, .int .u64 0] #[.int .u64 18446744073709551615, .int .u64 18446744073709551615, .int .u64 18446744073709551615, .int .u64 18446744073709551615]
  have H0 : Holds (((w.alloc (.cells #[.int .u64 (t0 : Nat), .int .u64 (t1 : Nat), .int .u64 (t2 : Nat), .int .u64 (t3 : Nat)] 25)).alloc (.cells #[.int .u64 0, .int .u64 0, .int .u64 0, .int .u64 0] 25)).alloc (.cells #[.int .u64 18446744073709551615, .int .u64 18446744073709551615, .int .u64 18446744073709551615, .int .u64 18446744073709551615] 25)) w.heap.size #[.int .u64 (t0 : Nat), .int .u64 (t1 : Nat), .int .u64 (t2 : Nat), .int .u64 (t3 : Nat)] 25 := boxes3 w _ _ _ 0 _ rfl
  have HR : Holds (((w.alloc (.cells #[.int .u64 (t0 : Nat), .int .u64 (t1 : Nat), .int .u64 (t2 : Nat), .int .u64 (t3 : Nat)] 25)).alloc (.cells #[.int .u64 0, .int .u64 0, .int .u64 0, .int .u64 0] 25)).alloc (.cells #[.int .u64 18446744073709551615, .int .u64 18446744073709551615, .int .u64 18446744073709551615, .int .u64 18446744073709551615] 25)) (w.heap.size + 1) #[.int .u64 0, .int .u64 0, .int .u64 0, .int .u64 0] 25 := boxes3 w _ _ _ 1 _ rfl
  have H2 : Holds (((w.alloc (.cells #[.int .u64 (t0 : Nat), .int .u64 (t1 : Nat), .int .u64 (t2 : Nat), .int .u64 (t3 : Nat)] 25)).alloc (.cells #[.int .u64 0, .int .u64 0, .int .u64 0, .int .u64 0] 25)).alloc (.cells #[.int .u64 18446744073709551615, .int .u64 18446744073709551615, .int .u64 18446744073709551615, .int .u64 18446744073709551615] 25)) (w.heap.size + 2) #[.int .u64 18446744073709551615, .int .u64 18446744073709551615, .int .u64 18446744073709551615, .int .u64 18446744073709551615] 25 := boxes3 w _ _ _ 2 _ rfl
  have xt : Box (((w.alloc (.cells #[.int .u64 (t0 : Nat), .int .u64 (t1 : Nat), .int .u64 (t2 : Nat), .int .u64 (t3 : Nat)] 25)).alloc (.cells #[.int .u64 0, .int .u64 0, .int .u64 0, .int .u64 0] 25)).alloc (.cells #[.int .u64 18446744073709551615, .int .u64 18446744073709551615, .int .u64 18446744073709551615, .int .u64 18446744073709551615] 25)) w.heap.size t0 t1 t2 t3 := ⟨H0.cell 0, H0.cell 1, H0.cell 2, H0.cell 3⟩
  have xm : Box (((w.alloc (.cells #[.int .u64 (t0 : Nat), .int .u64 (t1 : Nat), .int .u64 (t2 : Nat), .int .u64 (t3 : Nat)] 25)).alloc (.cells #[.int .u64 0, .int .u64 0, .int .u64 0, .int .u64 0] 25)).alloc (.cells #[.int .u64 18446744073709551615, .int .u64 18446744073709551615, .int .u64 18446744073709551615, .int .u64 18446744073709551615] 25)) (w.heap.size + 1 + 1) 18446744073709551615 18446744073709551615 18446744073709551615 18446744073709551615 := ⟨H2.cell 0, H2.cell 1, H2.cell 2, H2.cell 3⟩
  clear H0 H2
  generalize ((w.alloc (.cells #[.int .u64 (t0 : Nat), .int .u64 (t1 : Nat), .int .u64 (t2 : Nat), .int .u64 (t3 : Nat)] 25)).alloc (.cells #[.int .u64 0, .int .u64 0, .int .u64 0, .int .u64 0] 25)).alloc (.cells #[.int .u64 18446744073709551615, .int .u64 18446744073709551615, .int .u64 18446744073709551615, .int .u64 18446744073709551615] 25) = W1 at *
  have HPB := Lib.hid PB
  clear PB
  refine wp_region_grow 6 (by kernel_rfl) (Nat.le_of_ble_eq_true (by kernel_rfl)) (by kernel_rfl) (by kernel_rfl) (fun _ _ _ _ _ h => h) ?_
  apply Exists.intro
  refine ⟨?_, ?_⟩
  · intro wg hg
    simp only [List.take_succ_cons, List.take_zero]
    have ct := xt.later hg
    obtain ⟨ct0, ct1, ct2, ct3⟩ := ct
    have ut0 : ∀ u : After wg, u.w.cell? ⟨w.heap.size, 0, none⟩ = some (.int .u64 (t0 : Nat)) := fun u => u.cell ct0
    have ut1 : ∀ u : After wg, u.w.cell? ⟨w.heap.size, 1, none⟩ = some (.int .u64 (t1 : Nat)) := fun u => u.cell ct1
    have ut2 : ∀ u : After wg, u.w.cell? ⟨w.heap.size, 2, none⟩ = some (.int .u64 (t2 : Nat)) := fun u => u.cell ct2
    have ut3 : ∀ u : After wg, u.w.cell? ⟨w.heap.size, 3, none⟩ = some (.int .u64 (t3 : Nat)) := fun u => u.cell ct3
    repeat (go_big_quiet_step ((first | (go_at_call 24; exact after_call (of_int 1 _)) | (go_at_call 23; exact after_call (ADD1.out.one _)))))
    refine wpQuiet_nil ?_
    exact rfl
  intro wg hg
  show wpK _ _ _ _ _ 3 _ _ _
  refine wpK_box1 (f := 2) (i := 6) (c := #[.int .u64 0, .int .u64 0, .int .u64 0, .int .u64 0]) (T := 25) (by kernel_rfl) rfl rfl rfl (fun w => by go_simp) hg ?_
  intro Bn wh gh ln Hn
  replace ln := Nat.le_trans hg.size ln
  have ge := hg.trans gh
  clear hg gh
  refine wpK_one (f := 1) (i := 7) (by kernel_rfl) rfl rfl ?_
  intro wc gc K hK
  replace ge := ge.trans gc
  replace Hn := Hn.later gc
  have ic0 : wc.cell? ⟨Bn, 0, none⟩ = some (.int .u64 0) := Hn.cell 0
  have iz0 : wc.frozen? ⟨Bn, 0, none⟩ = false := Hn.free 0
  have ic1 : wc.cell? ⟨Bn, 1, none⟩ = some (.int .u64 0) := Hn.cell 1
  have iz1 : wc.frozen? ⟨Bn, 1, none⟩ = false := Hn.free 1
  have ic2 : wc.cell? ⟨Bn, 2, none⟩ = some (.int .u64 0) := Hn.cell 2
  have iz2 : wc.frozen? ⟨Bn, 2, none⟩ = false := Hn.free 2
  have ic3 : wc.cell? ⟨Bn, 3, none⟩ = some (.int .u64 0) := Hn.cell 3
  have iz3 : wc.frozen? ⟨Bn, 3, none⟩ = false := Hn.free 3
  have HGE := Lib.hid ge
  clear ge gc
  go_simp
  have ge : Grows W1 ((((wc.setCell ⟨Bn, 0, none⟩ (.int .u64 (n0 : Nat))).setCell ⟨Bn, 1, none⟩ (.int .u64 (n1 : Nat))).setCell ⟨Bn, 2, none⟩ (.int .u64 (n2 : Nat))).setCell ⟨Bn, 3, none⟩ (.int .u64 (n3 : Nat))) := (((HGE.out.setCell ln _).setCell ln _).setCell ln _).setCell ln _
  replace Hn : Holds ((((wc.setCell ⟨Bn, 0, none⟩ (.int .u64 (n0 : Nat))).setCell ⟨Bn, 1, none⟩ (.int .u64 (n1 : Nat))).setCell ⟨Bn, 2, none⟩ (.int .u64 (n2 : Nat))).setCell ⟨Bn, 3, none⟩ (.int .u64 (n3 : Nat))) Bn #[.int .u64 (n0 : Nat), .int .u64 (n1 : Nat), .int .u64 (n2 : Nat), .int .u64 (n3 : Nat)] 25 := (((Hn.set _).set _).set _).set _
  clear ic0 ic1 ic2 ic3 iz0 iz1 iz2 iz3 HGE
  refine hK _ _ ge ?_
  clear hK K
  generalize (((wc.setCell ⟨Bn, 0, none⟩ (.int .u64 (n0 : Nat))).setCell ⟨Bn, 1, none⟩ (.int .u64 (n1 : Nat))).setCell ⟨Bn, 2, none⟩ (.int .u64 (n2 : Nat))).setCell ⟨Bn, 3, none⟩ (.int .u64 (n3 : Nat)) = wd at *
  clear wc
  refine wpK_one (f := 0) (i := 8) (by kernel_rfl) rfl rfl ?_
  intro wc gc K hK
  go_simp
  replace Hn := Hn.later gc
  replace ge := ge.trans gc
  refine hK _ _ ge ?_
  clear hK K gc
  refine wpK_end (by kernel_rfl) ?_
  intro W2 gf
  replace Hn := Hn.later gf
  replace ge := ge.trans gf
  clear gf
  replace xt := xt.later ge
  replace xm := xm.later ge
  replace HR := HR.later ge
  have PB := below_step HPB.out ge
  clear ge HPB
  have xn : Box W2 Bn (n0 : Nat) (n1 : Nat) (n2 : Nat) (n3 : Nat) := ⟨Hn.cell 0, Hn.cell 1, Hn.cell 2, Hn.cell 3⟩
  clear Hn
  clear ln
  have cm := xm
  obtain ⟨cm0, cm1, cm2, cm3⟩ := cm
  have lm := World.block_lt_of_cell? _ _ cm0
  simp only [] at lm
  have ct := xt
  obtain ⟨ct0, ct1, ct2, ct3⟩ := ct
  have lt := World.block_lt_of_cell? _ _ ct0
  simp only [] at lt
  have HPB := Lib.hid PB
  clear PB
  go_wp2_with fail
  have PB := HPB.out
  clear HPB
  clear cm0 cm1 cm2 cm3 ct0 ct1 ct2 ct3 lm lt
  refine (SUB.out.most _).mono ?_
  rintro e w3 ⟨rfl, hc⟩
  replace xt := xt.later hc
  replace xm := xm.later hc
  replace xn := xn.later hc
  replace HR := HR.later hc
  have PC := below_step PB hc
  clear PB hc
  have PB := PC
  clear PC
  have cn := xn
  obtain ⟨cn0, cn1, cn2, cn3⟩ := cn
  have ln := World.block_lt_of_cell? _ _ cn0
  simp only [] at ln
  have HPB := Lib.hid PB
  clear PB
  go_wp2_with fail
  have PB := HPB.out
  clear HPB
  clear cn0 cn1 cn2 cn3 ln
  replace xt := xt.alloc (.cells #[.int .u64 (l0 : Nat), .int .u64 (l1 : Nat), .int .u64 (l2 : Nat), .int .u64 (l3 : Nat)] 25)
  replace xm := xm.alloc (.cells #[.int .u64 (l0 : Nat), .int .u64 (l1 : Nat), .int .u64 (l2 : Nat), .int .u64 (l3 : Nat)] 25)
  replace xn := xn.alloc (.cells #[.int .u64 (l0 : Nat), .int .u64 (l1 : Nat), .int .u64 (l2 : Nat), .int .u64 (l3 : Nat)] 25)
  replace HR := HR.later ((Below.refl _ _).alloc (Nat.le_refl _) (.cells #[.int .u64 (l0 : Nat), .int .u64 (l1 : Nat), .int .u64 (l2 : Nat), .int .u64 (l3 : Nat)] 25))
  have xl := Box.new (w3) (l0 : Nat) (l1 : Nat) (l2 : Nat) (l3 : Nat) 25
  have PC := below_alloc PB (.cells #[.int .u64 (l0 : Nat), .int .u64 (l1 : Nat), .int .u64 (l2 : Nat), .int .u64 (l3 : Nat)] 25)
  clear PB
  have PB := PC
  clear PC
  generalize (w3).alloc (.cells #[.int .u64 (l0 : Nat), .int .u64 (l1 : Nat), .int .u64 (l2 : Nat), .int .u64 (l3 : Nat)] 25) = W4 at *
  generalize w3.heap.size = Bl at *
  refine (DIV.out _).mono ?_
  rintro e w5 ⟨rfl, hc⟩
  replace xt := xt.later hc
  replace xm := xm.later hc
  replace xn := xn.later hc
  replace xl := xl.later hc
  replace HR := HR.later hc
  have PC := below_step PB hc
  clear PB hc
  have PB := PC
  clear PC
  have HPB := Lib.hid PB
  clear PB
  go_wp2_with fail
  have PB := HPB.out
  clear HPB
  replace xt := xt.alloc (.cells #[.int .u64 (q0 : Nat), .int .u64 (q1 : Nat), .int .u64 (q2 : Nat), .int .u64 (q3 : Nat)] 25)
  replace xm := xm.alloc (.cells #[.int .u64 (q0 : Nat), .int .u64 (q1 : Nat), .int .u64 (q2 : Nat), .int .u64 (q3 : Nat)] 25)
  replace xn := xn.alloc (.cells #[.int .u64 (q0 : Nat), .int .u64 (q1 : Nat), .int .u64 (q2 : Nat), .int .u64 (q3 : Nat)] 25)
  replace xl := xl.alloc (.cells #[.int .u64 (q0 : Nat), .int .u64 (q1 : Nat), .int .u64 (q2 : Nat), .int .u64 (q3 : Nat)] 25)
  replace HR := HR.later ((Below.refl _ _).alloc (Nat.le_refl _) (.cells #[.int .u64 (q0 : Nat), .int .u64 (q1 : Nat), .int .u64 (q2 : Nat), .int .u64 (q3 : Nat)] 25))
  have xq := Box.new (w5) (q0 : Nat) (q1 : Nat) (q2 : Nat) (q3 : Nat) 25
  have PC := below_alloc PB (.cells #[.int .u64 (q0 : Nat), .int .u64 (q1 : Nat), .int .u64 (q2 : Nat), .int .u64 (q3 : Nat)] 25)
  clear PB
  have PB := PC
  clear PC
  replace xt := xt.alloc (.cells #[.int .u64 (r0 : Nat), .int .u64 (r1 : Nat), .int .u64 (r2 : Nat), .int .u64 (r3 : Nat)] 25)
  replace xm := xm.alloc (.cells #[.int .u64 (r0 : Nat), .int .u64 (r1 : Nat), .int .u64 (r2 : Nat), .int .u64 (r3 : Nat)] 25)
  replace xn := xn.alloc (.cells #[.int .u64 (r0 : Nat), .int .u64 (r1 : Nat), .int .u64 (r2 : Nat), .int .u64 (r3 : Nat)] 25)
  replace xl := xl.alloc (.cells #[.int .u64 (r0 : Nat), .int .u64 (r1 : Nat), .int .u64 (r2 : Nat), .int .u64 (r3 : Nat)] 25)
  replace xq := xq.alloc (.cells #[.int .u64 (r0 : Nat), .int .u64 (r1 : Nat), .int .u64 (r2 : Nat), .int .u64 (r3 : Nat)] 25)
  replace HR := HR.later ((Below.refl _ _).alloc (Nat.le_refl _) (.cells #[.int .u64 (r0 : Nat), .int .u64 (r1 : Nat), .int .u64 (r2 : Nat), .int .u64 (r3 : Nat)] 25))
  have xr := Box.new ((w5).alloc (.cells #[.int .u64 (q0 : Nat), .int .u64 (q1 : Nat), .int .u64 (q2 : Nat), .int .u64 (q3 : Nat)] 25)) (r0 : Nat) (r1 : Nat) (r2 : Nat) (r3 : Nat) 25
  simp only [World.size_alloc] at xr
  have PC := below_alloc PB (.cells #[.int .u64 (r0 : Nat), .int .u64 (r1 : Nat), .int .u64 (r2 : Nat), .int .u64 (r3 : Nat)] 25)
  clear PB
  have PB := PC
  clear PC
  generalize ((w5).alloc (.cells #[.int .u64 (q0 : Nat), .int .u64 (q1 : Nat), .int .u64 (q2 : Nat), .int .u64 (q3 : Nat)] 25)).alloc (.cells #[.int .u64 (r0 : Nat), .int .u64 (r1 : Nat), .int .u64 (r2 : Nat), .int .u64 (r3 : Nat)] 25) = W6 at *
  generalize w5.heap.size + 1 = Br at *
  generalize w5.heap.size = Bq at *
  have HPB := Lib.hid PB
  clear PB
  refine wp_region_grow 6 (by kernel_rfl) (Nat.le_of_ble_eq_true (by kernel_rfl)) (by kernel_rfl) (by kernel_rfl) (fun _ _ _ _ _ h => h) ?_
  apply Exists.intro
  refine ⟨?_, ?_⟩
  · intro wg hg
    simp only [List.take_succ_cons, List.take_zero]
    have cq := xq.later hg
    obtain ⟨cq0, cq1, cq2, cq3⟩ := cq
    have uq0 : ∀ u : After wg, u.w.cell? ⟨Bq, 0, none⟩ = some (.int .u64 (q0 : Nat)) := fun u => u.cell cq0
    have uq1 : ∀ u : After wg, u.w.cell? ⟨Bq, 1, none⟩ = some (.int .u64 (q1 : Nat)) := fun u => u.cell cq1
    have uq2 : ∀ u : After wg, u.w.cell? ⟨Bq, 2, none⟩ = some (.int .u64 (q2 : Nat)) := fun u => u.cell cq2
    have uq3 : ∀ u : After wg, u.w.cell? ⟨Bq, 3, none⟩ = some (.int .u64 (q3 : Nat)) := fun u => u.cell cq3
    repeat (go_big_quiet_step ((first | (go_at_call 24; exact after_call (of_int 1 _)) | (go_at_call 23; exact after_call (ADD2.out.one _)))))
    refine wpQuiet_nil ?_
    exact rfl
  intro wg hg
  show wpK _ _ _ _ _ 3 _ _ _
  refine wpK_box1 (f := 2) (i := 6) (c := #[.int .u64 0, .int .u64 0, .int .u64 0, .int .u64 0]) (T := 25) (by kernel_rfl) rfl rfl rfl (fun w => by go_simp) hg ?_
  intro Bk wh gh lk Hk
  replace lk := Nat.le_trans hg.size lk
  have ge := hg.trans gh
  clear hg gh
  refine wpK_one (f := 1) (i := 7) (by kernel_rfl) rfl rfl ?_
  intro wc gc K hK
  replace ge := ge.trans gc
  replace Hk := Hk.later gc
  have ic0 : wc.cell? ⟨Bk, 0, none⟩ = some (.int .u64 0) := Hk.cell 0
  have iz0 : wc.frozen? ⟨Bk, 0, none⟩ = false := Hk.free 0
  have ic1 : wc.cell? ⟨Bk, 1, none⟩ = some (.int .u64 0) := Hk.cell 1
  have iz1 : wc.frozen? ⟨Bk, 1, none⟩ = false := Hk.free 1
  have ic2 : wc.cell? ⟨Bk, 2, none⟩ = some (.int .u64 0) := Hk.cell 2
  have iz2 : wc.frozen? ⟨Bk, 2, none⟩ = false := Hk.free 2
  have ic3 : wc.cell? ⟨Bk, 3, none⟩ = some (.int .u64 0) := Hk.cell 3
  have iz3 : wc.frozen? ⟨Bk, 3, none⟩ = false := Hk.free 3
  have HGE := Lib.hid ge
  clear ge gc
  go_simp
  have ge : Grows W6 ((((wc.setCell ⟨Bk, 0, none⟩ (.int .u64 (k0 : Nat))).setCell ⟨Bk, 1, none⟩ (.int .u64 (k1 : Nat))).setCell ⟨Bk, 2, none⟩ (.int .u64 (k2 : Nat))).setCell ⟨Bk, 3, none⟩ (.int .u64 (k3 : Nat))) := (((HGE.out.setCell lk _).setCell lk _).setCell lk _).setCell lk _
  replace Hk : Holds ((((wc.setCell ⟨Bk, 0, none⟩ (.int .u64 (k0 : Nat))).setCell ⟨Bk, 1, none⟩ (.int .u64 (k1 : Nat))).setCell ⟨Bk, 2, none⟩ (.int .u64 (k2 : Nat))).setCell ⟨Bk, 3, none⟩ (.int .u64 (k3 : Nat))) Bk #[.int .u64 (k0 : Nat), .int .u64 (k1 : Nat), .int .u64 (k2 : Nat), .int .u64 (k3 : Nat)] 25 := (((Hk.set _).set _).set _).set _
  clear ic0 ic1 ic2 ic3 iz0 iz1 iz2 iz3 HGE
  refine hK _ _ ge ?_
  clear hK K
  generalize (((wc.setCell ⟨Bk, 0, none⟩ (.int .u64 (k0 : Nat))).setCell ⟨Bk, 1, none⟩ (.int .u64 (k1 : Nat))).setCell ⟨Bk, 2, none⟩ (.int .u64 (k2 : Nat))).setCell ⟨Bk, 3, none⟩ (.int .u64 (k3 : Nat)) = wd at *
  clear wc
  refine wpK_one (f := 0) (i := 8) (by kernel_rfl) rfl rfl ?_
  intro wc gc K hK
  go_simp
  replace Hk := Hk.later gc
  replace ge := ge.trans gc
  refine hK _ _ ge ?_
  clear hK K gc
  refine wpK_end (by kernel_rfl) ?_
  intro W7 gf
  replace Hk := Hk.later gf
  replace ge := ge.trans gf
  clear gf
  replace xt := xt.later ge
  replace xm := xm.later ge
  replace xn := xn.later ge
  replace xl := xl.later ge
  replace xq := xq.later ge
  replace xr := xr.later ge
  replace HR := HR.later ge
  have PB := below_step HPB.out ge
  clear ge HPB
  have xk : Box W7 Bk (k0 : Nat) (k1 : Nat) (k2 : Nat) (k3 : Nat) := ⟨Hk.cell 0, Hk.cell 1, Hk.cell 2, Hk.cell 3⟩
  clear Hk
  clear lk
  have ck := xk
  obtain ⟨ck0, ck1, ck2, ck3⟩ := ck
  have lk := World.block_lt_of_cell? _ _ ck0
  simp only [] at lk
  have jc0 : W7.cell? ⟨w.heap.size + 1, 0, none⟩ = some (.int .u64 0) := HR.cell 0
  have jz0 : W7.frozen? ⟨w.heap.size + 1, 0, none⟩ = false := HR.free 0
  have jc1 : W7.cell? ⟨w.heap.size + 1, 1, none⟩ = some (.int .u64 0) := HR.cell 1
  have jz1 : W7.frozen? ⟨w.heap.size + 1, 1, none⟩ = false := HR.free 1
  have jc2 : W7.cell? ⟨w.heap.size + 1, 2, none⟩ = some (.int .u64 0) := HR.cell 2
  have jz2 : W7.frozen? ⟨w.heap.size + 1, 2, none⟩ = false := HR.free 2
  have jc3 : W7.cell? ⟨w.heap.size + 1, 3, none⟩ = some (.int .u64 0) := HR.cell 3
  have jz3 : W7.frozen? ⟨w.heap.size + 1, 3, none⟩ = false := HR.free 3
  have HPB := Lib.hid PB
  clear PB
  go_wp2_with fail
  have b := ((((HPB.out.setCell (p := ⟨w.heap.size + 1, 0, none⟩) (by simp) (.int .u64 (k0 : Nat))).setCell (p := ⟨w.heap.size + 1, 1, none⟩) (by simp) (.int .u64 (k1 : Nat))).setCell (p := ⟨w.heap.size + 1, 2, none⟩) (by simp) (.int .u64 (k2 : Nat))).setCell (p := ⟨w.heap.size + 1, 3, none⟩) (by simp) (.int .u64 (k3 : Nat)))
  have HS : Holds ((((W7.setCell ⟨w.heap.size + 1, 0, none⟩ (.int .u64 (k0 : Nat))).setCell ⟨w.heap.size + 1, 1, none⟩ (.int .u64 (k1 : Nat))).setCell ⟨w.heap.size + 1, 2, none⟩ (.int .u64 (k2 : Nat))).setCell ⟨w.heap.size + 1, 3, none⟩ (.int .u64 (k3 : Nat))) (w.heap.size + 1) #[.int .u64 (k0 : Nat), .int .u64 (k1 : Nat), .int .u64 (k2 : Nat), .int .u64 (k3 : Nat)] 25 := (((HR.set _).set _).set _).set _
  have jg0 : ((((W7.setCell ⟨w.heap.size + 1, 0, none⟩ (.int .u64 (k0 : Nat))).setCell ⟨w.heap.size + 1, 1, none⟩ (.int .u64 (k1 : Nat))).setCell ⟨w.heap.size + 1, 2, none⟩ (.int .u64 (k2 : Nat))).setCell ⟨w.heap.size + 1, 3, none⟩ (.int .u64 (k3 : Nat))).cell? ⟨w.heap.size + 1, 0, none⟩ = some (.int .u64 (k0 : Nat)) := HS.cell 0
  have jg1 : ((((W7.setCell ⟨w.heap.size + 1, 0, none⟩ (.int .u64 (k0 : Nat))).setCell ⟨w.heap.size + 1, 1, none⟩ (.int .u64 (k1 : Nat))).setCell ⟨w.heap.size + 1, 2, none⟩ (.int .u64 (k2 : Nat))).setCell ⟨w.heap.size + 1, 3, none⟩ (.int .u64 (k3 : Nat))).cell? ⟨w.heap.size + 1, 1, none⟩ = some (.int .u64 (k1 : Nat)) := HS.cell 1
  have jg2 : ((((W7.setCell ⟨w.heap.size + 1, 0, none⟩ (.int .u64 (k0 : Nat))).setCell ⟨w.heap.size + 1, 1, none⟩ (.int .u64 (k1 : Nat))).setCell ⟨w.heap.size + 1, 2, none⟩ (.int .u64 (k2 : Nat))).setCell ⟨w.heap.size + 1, 3, none⟩ (.int .u64 (k3 : Nat))).cell? ⟨w.heap.size + 1, 2, none⟩ = some (.int .u64 (k2 : Nat)) := HS.cell 2
  have jg3 : ((((W7.setCell ⟨w.heap.size + 1, 0, none⟩ (.int .u64 (k0 : Nat))).setCell ⟨w.heap.size + 1, 1, none⟩ (.int .u64 (k1 : Nat))).setCell ⟨w.heap.size + 1, 2, none⟩ (.int .u64 (k2 : Nat))).setCell ⟨w.heap.size + 1, 3, none⟩ (.int .u64 (k3 : Nat))).cell? ⟨w.heap.size + 1, 3, none⟩ = some (.int .u64 (k3 : Nat)) := HS.cell 3
  refine bodyPost_ret (v := .agg #[.int .u64 (k0 : Nat), .int .u64 (k1 : Nat), .int .u64 (k2 : Nat), .int .u64 (k3 : Nat)]) (by simp [results, Try.results16, go_sem, jg0, jg1, jg2, jg3]) rfl ⟨rfl, b⟩

/-- The work of a target v: 2^256 by v + 1, and all that there is for none. -/
def workOf (v : Nat) : Nat := if v = 0 then 115792089237316195423570985008687907853269984665640564039457584007913129639936 - 1 else (115792089237316195423570985008687907853269984665640564039457584007913129639936 - 1 - v) / (v + 1) + 1
def WorkIs (x0 x1 x2 x3 k0 k1 k2 k3 : Nat) : Prop := ∀ w : World, Calls Try.prog 16 #[.agg #[.int .u64 (x0 : Nat), .int .u64 (x1 : Nat), .int .u64 (x2 : Nat), .int .u64 (x3 : Nat)]] w fun e w' => e = .returned (.agg #[.int .u64 (k0 : Nat), .int .u64 (k1 : Nat), .int .u64 (k2 : Nat), .int .u64 (k3 : Nat)]) ∧ Below w.heap.size w w'
theorem workIs {t0 t1 t2 t3 k0 k1 k2 k3 : Nat} (ht : Words t0 t1 t2 t3) (hk : Words k0 k1 k2 k3) (h : val k0 k1 k2 k3 = workOf (val t0 t1 t2 t3)) : WorkIs t0 t1 t2 t3 k0 k1 k2 k3 := by
  intro w
  have wm : Words 18446744073709551615 18446744073709551615 18446744073709551615 18446744073709551615 := ⟨by omega, by omega, by omega, by omega⟩
  have vm : val 18446744073709551615 18446744073709551615 18446744073709551615 18446744073709551615 = 115792089237316195423570985008687907853269984665640564039457584007913129639936 - 1 := by decide
  have lt := val_lt ht
  unfold workOf at h
  by_cases z : val t0 t1 t2 t3 = 0
  · rw [if_pos z, ← vm] at h
    obtain ⟨rfl, rfl, rfl, rfl⟩ := val_inj hk wm h
    exact work_zero t0 t1 t2 t3 w (eqZ ht true (by symm; rw [decide_eq_true_iff]; exact z))
  · rw [if_neg z] at h
    have ez := eqZ ht false (by symm; rw [decide_eq_false_iff_not]; exact z)
    have w1 : Words 1 0 0 0 := ⟨by omega, by omega, by omega, by omega⟩
    have v1 : val 1 0 0 0 = 1 := rfl
    obtain ⟨n0, n1, n2, n3, wn, en⟩ := words_of (x := (val t0 t1 t2 t3 + 1) % 115792089237316195423570985008687907853269984665640564039457584007913129639936) (Nat.mod_lt _ (by decide))
    obtain ⟨l0, l1, l2, l3, wl, el⟩ := words_of (x := 115792089237316195423570985008687907853269984665640564039457584007913129639936 - 1 - val t0 t1 t2 t3) (by omega)
    have add1 := addIs ht w1 wn _ (by rw [v1]; exact en) rfl
    have sub := subIs wm ht wl false (by rw [vm, if_neg (by omega), el]) (by symm; rw [decide_eq_false_iff_not, vm]; omega)
    by_cases top : val t0 t1 t2 t3 = 115792089237316195423570985008687907853269984665640564039457584007913129639936 - 1
    · rw [top] at h en
      have ez2 : val n0 n1 n2 n3 = 0 := by rw [en]
      obtain ⟨rfl, rfl, rfl, rfl⟩ := zero_words ez2
      rw [show (115792089237316195423570985008687907853269984665640564039457584007913129639936 - 1 - (115792089237316195423570985008687907853269984665640564039457584007913129639936 - 1)) / (115792089237316195423570985008687907853269984665640564039457584007913129639936 - 1 + 1) + 1 = 1 by decide] at h
      obtain ⟨rfl, rfl, rfl, rfl⟩ := val_inj hk w1 (h.trans v1.symm)
      have add2 := addIs (a0 := 0) (a1 := 0) (a2 := 0) (a3 := 0) ⟨by omega, by omega, by omega, by omega⟩ w1 w1 false (by decide) (by decide)
      exact work_all t0 t1 t2 t3 0 0 0 0 l0 l1 l2 l3 0 0 0 0 0 0 0 0 1 0 0 0 _ 1 w ez add1 sub (fun w => div_zero l0 l1 l2 l3 w) add2
    · rw [Nat.mod_eq_of_lt (by omega)] at en
      obtain ⟨q0, q1, q2, q3, wq, eq⟩ := words_of (x := (115792089237316195423570985008687907853269984665640564039457584007913129639936 - 1 - val t0 t1 t2 t3) / (val t0 t1 t2 t3 + 1)) (Nat.lt_of_le_of_lt (Nat.div_le_self _ _) (by omega))
      obtain ⟨r0, r1, r2, r3, wr, er⟩ := words_of (x := (115792089237316195423570985008687907853269984665640564039457584007913129639936 - 1 - val t0 t1 t2 t3) % (val t0 t1 t2 t3 + 1)) (Nat.lt_of_le_of_lt (Nat.mod_le _ _) (by omega))
      have div := divIs wl wn wq wr (by rw [en]; omega) (by rw [eq, el, en]) (by rw [er, el, en])
      have kl := val_lt hk
      have add2 := addIs wq w1 hk false (by rw [h, v1, eq, Nat.mod_eq_of_lt (by rw [← h]; exact kl)]) (by symm; rw [decide_eq_false_iff_not, v1, eq, ← h]; omega)
      exact work_all t0 t1 t2 t3 n0 n1 n2 n3 l0 l1 l2 l3 q0 q1 q2 q3 r0 r1 r2 r3 k0 k1 k2 k3 _ 0 w ez add1 sub div add2

end Go.Proofs.Ytnipajfglmahiaa
