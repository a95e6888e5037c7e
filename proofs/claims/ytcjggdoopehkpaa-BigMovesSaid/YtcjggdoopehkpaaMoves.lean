/- BigMoves of the statements of layer 2, walked: what it asks of the package big, given what each call returns. -/
import Derived.Test.YtcjggdoopehkpaaCon
import Derived.Test.YtcjggdoopehkpaaGrow
namespace Go.Proofs.Ytcjggdoopehkpaa
open Go.RowKit

theorem UpIs.at1 {x0 x1 x2 x3 s0 s1 s2 s3 : Nat} (h : UpIs x0 x1 x2 x3 1 s0 s1 s2 s3) (w : World) : Calls Try.prog 24 #[.agg #[.int .u64 (x0 : Nat), .int .u64 (x1 : Nat), .int .u64 (x2 : Nat), .int .u64 (x3 : Nat)], .int .i64 1] w fun e w' => e = .returned (.agg #[.int .u64 (s0 : Nat), .int .u64 (s1 : Nat), .int .u64 (s2 : Nat), .int .u64 (s3 : Nat)]) ∧ Below w.heap.size w w' := h w
theorem UpIs.one {n s0 s1 s2 s3 : Nat} (h : UpIs 1 0 0 0 n s0 s1 s2 s3) (w : World) : Calls Try.prog 24 #[.agg #[.int .u64 1, .int .u64 0, .int .u64 0, .int .u64 0], .int .i64 (n : Nat)] w fun e w' => e = .returned (.agg #[.int .u64 (s0 : Nat), .int .u64 (s1 : Nat), .int .u64 (s2 : Nat), .int .u64 (s3 : Nat)]) ∧ Below w.heap.size w w' := h w

set_option maxRecDepth 100000 in
set_option maxHeartbeats 8000000 in
theorem moves_walk (a0 a1 a2 a3 k na nq t0 t1 t2 t3 p0 p1 p2 p3 q0 q1 q2 q3 r0 r1 r2 r3 v0 v1 v2 v3 s0 s1 s2 s3 : Nat) (o z : Bool) (w : World) (hk : k < 256) (hna : na ≤ 256) (_hnq : nq ≤ 256)
    (add : AddIs a0 a1 a2 a3 a0 a1 a2 a3 t0 t1 t2 t3 o) (up1 : UpIs a0 a1 a2 a3 1 t0 t1 t2 t3) (bA : BitsIs a0 a1 a2 a3 na) (nb : ((na : Int) == 256) = o)
    (upk : UpIs 1 0 0 0 k p0 p1 p2 p3) (div : DivIs a0 a1 a2 a3 p0 p1 p2 p3 q0 q1 q2 q3 r0 r1 r2 r3) (down : DownIs a0 a1 a2 a3 k q0 q1 q2 q3)
    (upq : UpIs q0 q1 q2 q3 k v0 v1 v2 v3) (sub : SubIs a0 a1 a2 a3 v0 v1 v2 v3 r0 r1 r2 r3 false) (bQ : BitsIs q0 q1 q2 q3 nq) (mx : nq = na - k)
    (upa : UpIs a0 a1 a2 a3 k s0 s1 s2 s3) (dn : z = false → DownIs s0 s1 s2 s3 k a0 a1 a2 a3) (last : decide ((256 : Int) - (k : Int) < (na : Int)) = z) :
    Calls Try.prog 7 #[.agg #[.int .u64 (a0 : Nat), .int .u64 (a1 : Nat), .int .u64 (a2 : Nat), .int .u64 (a3 : Nat)], .int .u8 (k : Nat)] w fun e w' => e = .returned (.bool true) ∧ Below w.heap.size w w' := by
  have ADD := Lib.hid add
  have UP1 := Lib.hid up1
  have BA := Lib.hid bA
  have NB := Lib.hid nb
  have UPK := Lib.hid upk
  have DIVH := Lib.hid div
  have DOWNH := Lib.hid down
  have UPQ := Lib.hid upq
  have SUBH := Lib.hid sub
  have BQ := Lib.hid bQ
  have MX := Lib.hid mx
  have UPA := Lib.hid upa
  have DN := Lib.hid dn
  have LAST := Lib.hid last
  clear add up1 bA nb upk div down upq sub bQ mx upa dn last
  go_enter Try.func7, Try.ntmps7
  go_wp2_with fail
  refine (ADD.out _).mono ?_
  rintro e w1 ⟨rfl, h1⟩
  have PB : Below w.heap.size w w1 := by
    refine Below.trans ?_ (h1.mono (by simp))
    go_grown
  have xa : Box w1 w.heap.size a0 a1 a2 a3 := ⟨cell_later h1 (by go_cell), cell_later h1 (by go_cell), cell_later h1 (by go_cell), cell_later h1 (by go_cell)⟩
  clear h1
  have HPB := Lib.hid PB
  clear PB
  go_wp2_with fail
  have PB := HPB.out
  clear HPB
  have EQ := eq_big
  replace xa := xa.alloc (.cells #[.int .u64 (t0 : Nat), .int .u64 (t1 : Nat), .int .u64 (t2 : Nat), .int .u64 (t3 : Nat)] 24)
  have xt := Box.new (w1) (t0 : Nat) (t1 : Nat) (t2 : Nat) (t3 : Nat) 24
  have PC := below_alloc PB (.cells #[.int .u64 (t0 : Nat), .int .u64 (t1 : Nat), .int .u64 (t2 : Nat), .int .u64 (t3 : Nat)] 24)
  clear PB
  have PB := PC
  clear PC
  generalize (w1).alloc (.cells #[.int .u64 (t0 : Nat), .int .u64 (t1 : Nat), .int .u64 (t2 : Nat), .int .u64 (t3 : Nat)] 24) = W1 at *
  generalize w1.heap.size = Bt at *
  have ca := xa
  obtain ⟨ca0, ca1, ca2, ca3⟩ := ca
  have la := World.block_lt_of_cell? _ _ ca0
  simp only [] at la
  have ct := xt
  obtain ⟨ct0, ct1, ct2, ct3⟩ := ct
  have lt := World.block_lt_of_cell? _ _ ct0
  simp only [] at lt
  have ua0 : ∀ u : After W1, u.w.cell? ⟨w.heap.size, 0, none⟩ = some (.int .u64 (a0 : Nat)) := fun u => u.cell ca0
  have ua1 : ∀ u : After W1, u.w.cell? ⟨w.heap.size, 1, none⟩ = some (.int .u64 (a1 : Nat)) := fun u => u.cell ca1
  have ua2 : ∀ u : After W1, u.w.cell? ⟨w.heap.size, 2, none⟩ = some (.int .u64 (a2 : Nat)) := fun u => u.cell ca2
  have ua3 : ∀ u : After W1, u.w.cell? ⟨w.heap.size, 3, none⟩ = some (.int .u64 (a3 : Nat)) := fun u => u.cell ca3
  have ut0 : ∀ u : After W1, u.w.cell? ⟨Bt, 0, none⟩ = some (.int .u64 (t0 : Nat)) := fun u => u.cell ct0
  have ut1 : ∀ u : After W1, u.w.cell? ⟨Bt, 1, none⟩ = some (.int .u64 (t1 : Nat)) := fun u => u.cell ct1
  have ut2 : ∀ u : After W1, u.w.cell? ⟨Bt, 2, none⟩ = some (.int .u64 (t2 : Nat)) := fun u => u.cell ct2
  have ut3 : ∀ u : After W1, u.w.cell? ⟨Bt, 3, none⟩ = some (.int .u64 (t3 : Nat)) := fun u => u.cell ct3
  have nb := NB.out
  have HPB := Lib.hid PB
  clear PB
  refine wp_region_after (by kernel_rfl) (by kernel_rfl) ?_
  repeat (go_big_quiet_step ((first | (go_at_call 24; exact after_call (UP1.out.at1 _)) | (go_at_call 17; exact after_call (BA.out _)))))
  refine wpQuiet_nil ?_
  rintro _ ⟨u, rfl⟩
  clear ca0 ca1 ca2 ca3 ct0 ct1 ct2 ct3 la lt
  clear ua0 ua1 ua2 ua3 ut0 ut1 ut2 ut3
  clear nb
  replace xa := xa.later u.below
  replace xt := xt.later u.below
  have PB := below_step HPB.out u.below
  clear HPB
  generalize u.w = W2 at *
  clear u
  have HPB := Lib.hid PB
  clear PB
  go_wp2_with fail
  have PB := HPB.out
  clear HPB
  refine (of_int 1 _).mono ?_
  rintro e w3 ⟨rfl, hc⟩
  replace xa := xa.later hc
  replace xt := xt.later hc
  have PC := below_step PB hc
  clear PB hc
  have PB := PC
  clear PC
  have HPB := Lib.hid PB
  clear PB
  go_wp2_with fail
  have PB := HPB.out
  clear HPB
  refine (UPK.out.one _).mono ?_
  rintro e w4 ⟨rfl, hc⟩
  replace xa := xa.later hc
  replace xt := xt.later hc
  have PC := below_step PB hc
  clear PB hc
  have PB := PC
  clear PC
  have ca := xa
  obtain ⟨ca0, ca1, ca2, ca3⟩ := ca
  have la := World.block_lt_of_cell? _ _ ca0
  simp only [] at la
  have HPB := Lib.hid PB
  clear PB
  go_wp2_with fail
  have PB := HPB.out
  clear HPB
  clear ca0 ca1 ca2 ca3 la
  replace xa := xa.alloc (.cells #[.int .u64 (p0 : Nat), .int .u64 (p1 : Nat), .int .u64 (p2 : Nat), .int .u64 (p3 : Nat)] 24)
  replace xt := xt.alloc (.cells #[.int .u64 (p0 : Nat), .int .u64 (p1 : Nat), .int .u64 (p2 : Nat), .int .u64 (p3 : Nat)] 24)
  have xp := Box.new (w4) (p0 : Nat) (p1 : Nat) (p2 : Nat) (p3 : Nat) 24
  have PC := below_alloc PB (.cells #[.int .u64 (p0 : Nat), .int .u64 (p1 : Nat), .int .u64 (p2 : Nat), .int .u64 (p3 : Nat)] 24)
  clear PB
  have PB := PC
  clear PC
  generalize (w4).alloc (.cells #[.int .u64 (p0 : Nat), .int .u64 (p1 : Nat), .int .u64 (p2 : Nat), .int .u64 (p3 : Nat)] 24) = W5 at *
  generalize w4.heap.size = Bp at *
  refine (DIVH.out _).mono ?_
  rintro e w6 ⟨rfl, hc⟩
  replace xa := xa.later hc
  replace xt := xt.later hc
  replace xp := xp.later hc
  have PC := below_step PB hc
  clear PB hc
  have PB := PC
  clear PC
  have HPB := Lib.hid PB
  clear PB
  go_wp2_with fail
  have PB := HPB.out
  clear HPB
  replace xa := xa.alloc (.cells #[.int .u64 (q0 : Nat), .int .u64 (q1 : Nat), .int .u64 (q2 : Nat), .int .u64 (q3 : Nat)] 24)
  replace xt := xt.alloc (.cells #[.int .u64 (q0 : Nat), .int .u64 (q1 : Nat), .int .u64 (q2 : Nat), .int .u64 (q3 : Nat)] 24)
  replace xp := xp.alloc (.cells #[.int .u64 (q0 : Nat), .int .u64 (q1 : Nat), .int .u64 (q2 : Nat), .int .u64 (q3 : Nat)] 24)
  have xq := Box.new (w6) (q0 : Nat) (q1 : Nat) (q2 : Nat) (q3 : Nat) 24
  have PC := below_alloc PB (.cells #[.int .u64 (q0 : Nat), .int .u64 (q1 : Nat), .int .u64 (q2 : Nat), .int .u64 (q3 : Nat)] 24)
  clear PB
  have PB := PC
  clear PC
  replace xa := xa.alloc (.cells #[.int .u64 (r0 : Nat), .int .u64 (r1 : Nat), .int .u64 (r2 : Nat), .int .u64 (r3 : Nat)] 24)
  replace xt := xt.alloc (.cells #[.int .u64 (r0 : Nat), .int .u64 (r1 : Nat), .int .u64 (r2 : Nat), .int .u64 (r3 : Nat)] 24)
  replace xp := xp.alloc (.cells #[.int .u64 (r0 : Nat), .int .u64 (r1 : Nat), .int .u64 (r2 : Nat), .int .u64 (r3 : Nat)] 24)
  replace xq := xq.alloc (.cells #[.int .u64 (r0 : Nat), .int .u64 (r1 : Nat), .int .u64 (r2 : Nat), .int .u64 (r3 : Nat)] 24)
  have xr := Box.new ((w6).alloc (.cells #[.int .u64 (q0 : Nat), .int .u64 (q1 : Nat), .int .u64 (q2 : Nat), .int .u64 (q3 : Nat)] 24)) (r0 : Nat) (r1 : Nat) (r2 : Nat) (r3 : Nat) 24
  simp only [World.size_alloc] at xr
  have PC := below_alloc PB (.cells #[.int .u64 (r0 : Nat), .int .u64 (r1 : Nat), .int .u64 (r2 : Nat), .int .u64 (r3 : Nat)] 24)
  clear PB
  have PB := PC
  clear PC
  generalize ((w6).alloc (.cells #[.int .u64 (q0 : Nat), .int .u64 (q1 : Nat), .int .u64 (q2 : Nat), .int .u64 (q3 : Nat)] 24)).alloc (.cells #[.int .u64 (r0 : Nat), .int .u64 (r1 : Nat), .int .u64 (r2 : Nat), .int .u64 (r3 : Nat)] 24) = W7 at *
  generalize w6.heap.size + 1 = Br at *
  generalize w6.heap.size = Bq at *
  have ca := xa
  obtain ⟨ca0, ca1, ca2, ca3⟩ := ca
  have la := World.block_lt_of_cell? _ _ ca0
  simp only [] at la
  have cq := xq
  obtain ⟨cq0, cq1, cq2, cq3⟩ := cq
  have lq := World.block_lt_of_cell? _ _ cq0
  simp only [] at lq
  have ua0 : ∀ u : After W7, u.w.cell? ⟨w.heap.size, 0, none⟩ = some (.int .u64 (a0 : Nat)) := fun u => u.cell ca0
  have ua1 : ∀ u : After W7, u.w.cell? ⟨w.heap.size, 1, none⟩ = some (.int .u64 (a1 : Nat)) := fun u => u.cell ca1
  have ua2 : ∀ u : After W7, u.w.cell? ⟨w.heap.size, 2, none⟩ = some (.int .u64 (a2 : Nat)) := fun u => u.cell ca2
  have ua3 : ∀ u : After W7, u.w.cell? ⟨w.heap.size, 3, none⟩ = some (.int .u64 (a3 : Nat)) := fun u => u.cell ca3
  have uq0 : ∀ u : After W7, u.w.cell? ⟨Bq, 0, none⟩ = some (.int .u64 (q0 : Nat)) := fun u => u.cell cq0
  have uq1 : ∀ u : After W7, u.w.cell? ⟨Bq, 1, none⟩ = some (.int .u64 (q1 : Nat)) := fun u => u.cell cq1
  have uq2 : ∀ u : After W7, u.w.cell? ⟨Bq, 2, none⟩ = some (.int .u64 (q2 : Nat)) := fun u => u.cell cq2
  have uq3 : ∀ u : After W7, u.w.cell? ⟨Bq, 3, none⟩ = some (.int .u64 (q3 : Nat)) := fun u => u.cell cq3
  have HPB := Lib.hid PB
  clear PB
  refine wp_region_after (by kernel_rfl) (by kernel_rfl) ?_
  repeat (go_big_quiet_step ((first | (go_at_call 26; exact after_call (DOWNH.out _)))))
  refine wpQuiet_nil ?_
  rintro _ ⟨u, rfl⟩
  clear ca0 ca1 ca2 ca3 cq0 cq1 cq2 cq3 la lq
  clear ua0 ua1 ua2 ua3 uq0 uq1 uq2 uq3
  replace xa := xa.later u.below
  replace xt := xt.later u.below
  replace xp := xp.later u.below
  replace xq := xq.later u.below
  replace xr := xr.later u.below
  have PB := below_step HPB.out u.below
  clear HPB
  generalize u.w = W8 at *
  clear u
  have HPB := Lib.hid PB
  clear PB
  go_wp2_with fail
  have PB := HPB.out
  clear HPB
  have HPB := Lib.hid PB
  clear PB
  refine wp_region_grow 8 (by kernel_rfl) (Nat.le_of_ble_eq_true (by kernel_rfl)) (by kernel_rfl) (by kernel_rfl) (fun _ _ _ _ _ h => h) ?_
  apply Exists.intro
  refine ⟨?_, ?_⟩
  · intro wg hg
    simp only [List.take_succ_cons, List.take_zero]
    have ca := xa.later hg
    obtain ⟨ca0, ca1, ca2, ca3⟩ := ca
    have cq := xq.later hg
    obtain ⟨cq0, cq1, cq2, cq3⟩ := cq
    have ua0 : ∀ u : After wg, u.w.cell? ⟨w.heap.size, 0, none⟩ = some (.int .u64 (a0 : Nat)) := fun u => u.cell ca0
    have ua1 : ∀ u : After wg, u.w.cell? ⟨w.heap.size, 1, none⟩ = some (.int .u64 (a1 : Nat)) := fun u => u.cell ca1
    have ua2 : ∀ u : After wg, u.w.cell? ⟨w.heap.size, 2, none⟩ = some (.int .u64 (a2 : Nat)) := fun u => u.cell ca2
    have ua3 : ∀ u : After wg, u.w.cell? ⟨w.heap.size, 3, none⟩ = some (.int .u64 (a3 : Nat)) := fun u => u.cell ca3
    have uq0 : ∀ u : After wg, u.w.cell? ⟨Bq, 0, none⟩ = some (.int .u64 (q0 : Nat)) := fun u => u.cell cq0
    have uq1 : ∀ u : After wg, u.w.cell? ⟨Bq, 1, none⟩ = some (.int .u64 (q1 : Nat)) := fun u => u.cell cq1
    have uq2 : ∀ u : After wg, u.w.cell? ⟨Bq, 2, none⟩ = some (.int .u64 (q2 : Nat)) := fun u => u.cell cq2
    have uq3 : ∀ u : After wg, u.w.cell? ⟨Bq, 3, none⟩ = some (.int .u64 (q3 : Nat)) := fun u => u.cell cq3
    repeat (go_big_quiet_step ((first | (go_at_call 24; exact after_call (UPQ.out _)) | (go_at_call 11; exact after_call (SUBH.out _)))))
    refine wpQuiet_nil ?_
    exact rfl
  intro wg hg
  show wpK _ _ _ _ _ 3 _ _ _
  refine wpK_box1 (f := 2) (i := 8) (c := #[.int .u64 0, .int .u64 0, .int .u64 0, .int .u64 0]) (T := 24) (by kernel_rfl) rfl rfl rfl (fun w => by go_simp) hg ?_
  intro Bl wh gh ll Hl
  replace ll := Nat.le_trans hg.size ll
  have ge := hg.trans gh
  clear hg gh
  refine wpK_one (f := 1) (i := 9) (by kernel_rfl) rfl rfl ?_
  intro wc gc K hK
  replace ge := ge.trans gc
  replace Hl := Hl.later gc
  have n0 : wc.cell? ⟨Bl, 0, none⟩ = some (.int .u64 0) := Hl.cell 0
  have z0 : wc.frozen? ⟨Bl, 0, none⟩ = false := Hl.free 0
  have n1 : wc.cell? ⟨Bl, 1, none⟩ = some (.int .u64 0) := Hl.cell 1
  have z1 : wc.frozen? ⟨Bl, 1, none⟩ = false := Hl.free 1
  have n2 : wc.cell? ⟨Bl, 2, none⟩ = some (.int .u64 0) := Hl.cell 2
  have z2 : wc.frozen? ⟨Bl, 2, none⟩ = false := Hl.free 2
  have n3 : wc.cell? ⟨Bl, 3, none⟩ = some (.int .u64 0) := Hl.cell 3
  have z3 : wc.frozen? ⟨Bl, 3, none⟩ = false := Hl.free 3
  have HGE := Lib.hid ge
  clear ge gc
  go_simp
  have ge : Grows W8 ((((wc.setCell ⟨Bl, 0, none⟩ (.int .u64 (r0 : Nat))).setCell ⟨Bl, 1, none⟩ (.int .u64 (r1 : Nat))).setCell ⟨Bl, 2, none⟩ (.int .u64 (r2 : Nat))).setCell ⟨Bl, 3, none⟩ (.int .u64 (r3 : Nat))) := (((HGE.out.setCell ll _).setCell ll _).setCell ll _).setCell ll _
  replace Hl : Holds ((((wc.setCell ⟨Bl, 0, none⟩ (.int .u64 (r0 : Nat))).setCell ⟨Bl, 1, none⟩ (.int .u64 (r1 : Nat))).setCell ⟨Bl, 2, none⟩ (.int .u64 (r2 : Nat))).setCell ⟨Bl, 3, none⟩ (.int .u64 (r3 : Nat))) Bl #[.int .u64 (r0 : Nat), .int .u64 (r1 : Nat), .int .u64 (r2 : Nat), .int .u64 (r3 : Nat)] 24 := (((Hl.set _).set _).set _).set _
  clear n0 n1 n2 n3 z0 z1 z2 z3 HGE
  refine hK _ _ ge ?_
  clear hK K
  generalize (((wc.setCell ⟨Bl, 0, none⟩ (.int .u64 (r0 : Nat))).setCell ⟨Bl, 1, none⟩ (.int .u64 (r1 : Nat))).setCell ⟨Bl, 2, none⟩ (.int .u64 (r2 : Nat))).setCell ⟨Bl, 3, none⟩ (.int .u64 (r3 : Nat)) = wd at *
  clear wc
  refine wpK_one (f := 0) (i := 10) (by kernel_rfl) rfl rfl ?_
  intro wc gc K hK
  go_simp
  replace Hl := Hl.later gc
  replace ge := ge.trans gc
  refine hK _ _ ge ?_
  clear hK K gc
  refine wpK_end (by kernel_rfl) ?_
  intro W9 gf
  replace Hl := Hl.later gf
  replace ge := ge.trans gf
  clear gf
  replace xa := xa.later ge
  replace xt := xt.later ge
  replace xp := xp.later ge
  replace xq := xq.later ge
  replace xr := xr.later ge
  have PB := below_step HPB.out ge
  clear ge HPB
  have xl : Box W9 Bl (r0 : Nat) (r1 : Nat) (r2 : Nat) (r3 : Nat) := ⟨Hl.cell 0, Hl.cell 1, Hl.cell 2, Hl.cell 3⟩
  clear Hl
  clear ll
  have HPB := Lib.hid PB
  clear PB
  go_wp2_with fail
  have PB := HPB.out
  clear HPB
  have ca := xa
  obtain ⟨ca0, ca1, ca2, ca3⟩ := ca
  have la := World.block_lt_of_cell? _ _ ca0
  simp only [] at la
  have cq := xq
  obtain ⟨cq0, cq1, cq2, cq3⟩ := cq
  have lq := World.block_lt_of_cell? _ _ cq0
  simp only [] at lq
  have cr := xr
  obtain ⟨cr0, cr1, cr2, cr3⟩ := cr
  have lr := World.block_lt_of_cell? _ _ cr0
  simp only [] at lr
  have cl := xl
  obtain ⟨cl0, cl1, cl2, cl3⟩ := cl
  have ll := World.block_lt_of_cell? _ _ cl0
  simp only [] at ll
  have ua0 : ∀ u : After W9, u.w.cell? ⟨w.heap.size, 0, none⟩ = some (.int .u64 (a0 : Nat)) := fun u => u.cell ca0
  have ua1 : ∀ u : After W9, u.w.cell? ⟨w.heap.size, 1, none⟩ = some (.int .u64 (a1 : Nat)) := fun u => u.cell ca1
  have ua2 : ∀ u : After W9, u.w.cell? ⟨w.heap.size, 2, none⟩ = some (.int .u64 (a2 : Nat)) := fun u => u.cell ca2
  have ua3 : ∀ u : After W9, u.w.cell? ⟨w.heap.size, 3, none⟩ = some (.int .u64 (a3 : Nat)) := fun u => u.cell ca3
  have uq0 : ∀ u : After W9, u.w.cell? ⟨Bq, 0, none⟩ = some (.int .u64 (q0 : Nat)) := fun u => u.cell cq0
  have uq1 : ∀ u : After W9, u.w.cell? ⟨Bq, 1, none⟩ = some (.int .u64 (q1 : Nat)) := fun u => u.cell cq1
  have uq2 : ∀ u : After W9, u.w.cell? ⟨Bq, 2, none⟩ = some (.int .u64 (q2 : Nat)) := fun u => u.cell cq2
  have uq3 : ∀ u : After W9, u.w.cell? ⟨Bq, 3, none⟩ = some (.int .u64 (q3 : Nat)) := fun u => u.cell cq3
  have ur0 : ∀ u : After W9, u.w.cell? ⟨Br, 0, none⟩ = some (.int .u64 (r0 : Nat)) := fun u => u.cell cr0
  have ur1 : ∀ u : After W9, u.w.cell? ⟨Br, 1, none⟩ = some (.int .u64 (r1 : Nat)) := fun u => u.cell cr1
  have ur2 : ∀ u : After W9, u.w.cell? ⟨Br, 2, none⟩ = some (.int .u64 (r2 : Nat)) := fun u => u.cell cr2
  have ur3 : ∀ u : After W9, u.w.cell? ⟨Br, 3, none⟩ = some (.int .u64 (r3 : Nat)) := fun u => u.cell cr3
  have ul0 : ∀ u : After W9, u.w.cell? ⟨Bl, 0, none⟩ = some (.int .u64 (r0 : Nat)) := fun u => u.cell cl0
  have ul1 : ∀ u : After W9, u.w.cell? ⟨Bl, 1, none⟩ = some (.int .u64 (r1 : Nat)) := fun u => u.cell cl1
  have ul2 : ∀ u : After W9, u.w.cell? ⟨Bl, 2, none⟩ = some (.int .u64 (r2 : Nat)) := fun u => u.cell cl2
  have ul3 : ∀ u : After W9, u.w.cell? ⟨Bl, 3, none⟩ = some (.int .u64 (r3 : Nat)) := fun u => u.cell cl3
  have hmx : ((nq : Int) != max 0 ((na : Int) - (k : Int))) = false := by
    rw [MX.out, bne_eq_false_iff_eq]
    omega
  have HPB := Lib.hid PB
  clear PB
  refine wp_region_after (by kernel_rfl) (by kernel_rfl) ?_
  repeat (go_big_quiet_step ((first | (go_at_call_of 17 ((q0 : Nat) : Int); exact after_call (BQ.out _)) | (go_at_call_of 17 ((a0 : Nat) : Int); exact after_call (BA.out _)))))
  refine wpQuiet_nil ?_
  rintro _ ⟨u, rfl⟩
  clear ca0 ca1 ca2 ca3 cq0 cq1 cq2 cq3 cr0 cr1 cr2 cr3 cl0 cl1 cl2 cl3 la lq lr ll
  clear ua0 ua1 ua2 ua3 uq0 uq1 uq2 uq3 ur0 ur1 ur2 ur3 ul0 ul1 ul2 ul3
  clear hmx
  replace xa := xa.later u.below
  replace xt := xt.later u.below
  replace xp := xp.later u.below
  replace xq := xq.later u.below
  replace xr := xr.later u.below
  replace xl := xl.later u.below
  have PB := below_step HPB.out u.below
  clear HPB
  generalize u.w = W10 at *
  clear u
  have HPB := Lib.hid PB
  clear PB
  go_wp2_with fail
  have PB := HPB.out
  clear HPB
  cases z
  · have DNF := Lib.hid (DN.out rfl)
    clear DN
    have ca := xa
    obtain ⟨ca0, ca1, ca2, ca3⟩ := ca
    have la := World.block_lt_of_cell? _ _ ca0
    simp only [] at la
    have ua0 : ∀ u : After W10, u.w.cell? ⟨w.heap.size, 0, none⟩ = some (.int .u64 (a0 : Nat)) := fun u => u.cell ca0
    have ua1 : ∀ u : After W10, u.w.cell? ⟨w.heap.size, 1, none⟩ = some (.int .u64 (a1 : Nat)) := fun u => u.cell ca1
    have ua2 : ∀ u : After W10, u.w.cell? ⟨w.heap.size, 2, none⟩ = some (.int .u64 (a2 : Nat)) := fun u => u.cell ca2
    have ua3 : ∀ u : After W10, u.w.cell? ⟨w.heap.size, 3, none⟩ = some (.int .u64 (a3 : Nat)) := fun u => u.cell ca3
    have hz := LAST.out
    have HPB := Lib.hid PB
    clear PB
    refine wp_region_after (by kernel_rfl) (by kernel_rfl) ?_
    repeat (go_big_quiet_step ((first | (go_at_call 17; exact after_call (BA.out _)) | (go_at_call 21; exact after_call (works_any _)) | (go_at_call 24; exact after_call (UPA.out _)) | (go_at_call 26; exact after_call (DNF.out _)))))
    refine wpQuiet_nil ?_
    rintro _ ⟨u, rfl⟩
    clear ca0 ca1 ca2 ca3 la
    clear ua0 ua1 ua2 ua3
    clear hz
    replace xa := xa.later u.below
    replace xt := xt.later u.below
    replace xp := xp.later u.below
    replace xq := xq.later u.below
    replace xr := xr.later u.below
    replace xl := xl.later u.below
    have PB := below_step HPB.out u.below
    clear HPB
    generalize u.w = W11 at *
    clear u
    have HPB := Lib.hid PB
    clear PB
    go_wp2_with fail
    have PB := HPB.out
    clear HPB
    go_returns
    exact ⟨rfl, PB⟩
  · clear DN
    have ca := xa
    obtain ⟨ca0, ca1, ca2, ca3⟩ := ca
    have la := World.block_lt_of_cell? _ _ ca0
    simp only [] at la
    have ua0 : ∀ u : After W10, u.w.cell? ⟨w.heap.size, 0, none⟩ = some (.int .u64 (a0 : Nat)) := fun u => u.cell ca0
    have ua1 : ∀ u : After W10, u.w.cell? ⟨w.heap.size, 1, none⟩ = some (.int .u64 (a1 : Nat)) := fun u => u.cell ca1
    have ua2 : ∀ u : After W10, u.w.cell? ⟨w.heap.size, 2, none⟩ = some (.int .u64 (a2 : Nat)) := fun u => u.cell ca2
    have ua3 : ∀ u : After W10, u.w.cell? ⟨w.heap.size, 3, none⟩ = some (.int .u64 (a3 : Nat)) := fun u => u.cell ca3
    have hz := LAST.out
    have HPB := Lib.hid PB
    clear PB
    refine wp_region_after (by kernel_rfl) (by kernel_rfl) ?_
    repeat (go_big_quiet_step ((first | (go_at_call 17; exact after_call (BA.out _)) | (go_at_call 21; exact after_call (works_any _)))))
    refine wpQuiet_nil ?_
    rintro _ ⟨u, rfl⟩
    clear ca0 ca1 ca2 ca3 la
    clear ua0 ua1 ua2 ua3
    clear hz
    replace xa := xa.later u.below
    replace xt := xt.later u.below
    replace xp := xp.later u.below
    replace xq := xq.later u.below
    replace xr := xr.later u.below
    replace xl := xl.later u.below
    have PB := below_step HPB.out u.below
    clear HPB
    generalize u.w = W11 at *
    clear u
    have HPB := Lib.hid PB
    clear PB
    go_wp2_with fail
    have PB := HPB.out
    clear HPB
    go_returns
    exact ⟨rfl, PB⟩

end Go.Proofs.Ytcjggdoopehkpaa
