/- Div of the package big at every two numbers, the divisor not 0: quotient and rest. -/
import Derived.Test.YtnipajfglmahiaaDivLong
import Derived.Test.YtnipajfglmahiaaDivWord
namespace Go.Proofs.Ytnipajfglmahiaa
open Go.RowKit

def DivWordIs (a0 a1 a2 a3 n q0 q1 q2 q3 r : Nat) : Prop := ∀ w : World, Calls Try.prog 42 #[.agg #[.int .u64 (a0 : Nat), .int .u64 (a1 : Nat), .int .u64 (a2 : Nat), .int .u64 (a3 : Nat)], .int .u64 (n : Nat)] w fun e w' => e = .returned (.tuple #[.agg #[.int .u64 (q0 : Nat), .int .u64 (q1 : Nat), .int .u64 (q2 : Nat), .int .u64 (q3 : Nat)], .int .u64 (r : Nat)]) ∧ Below w.heap.size w w'

theorem step_word {r a n : Nat} (h : r < n) (hn : n < 18446744073709551616) (ha : a < 18446744073709551616) : ∃ q s : Nat, q < 18446744073709551616 ∧ s < n ∧ r * 18446744073709551616 + a = q * n + s ∧ Div64Is r a n q s := by
  refine ⟨_, _, ?_, Nat.mod_lt _ (by omega), ?_, div64Is r a n h hn ha⟩
  · rw [Nat.div_lt_iff_lt_mul (by omega)]
    have : (r + 1) * 18446744073709551616 ≤ n * 18446744073709551616 := Nat.mul_le_mul_right _ h
    rw [Nat.mul_comm 18446744073709551616 n]; omega
  · rw [Nat.mul_comm _ n]; exact (Nat.div_add_mod _ _).symm

theorem divWordIs {a0 a1 a2 a3 n : Nat} (ha : Words a0 a1 a2 a3) (hn : 0 < n) (hn' : n < 18446744073709551616) :
    ∃ q0 q1 q2 q3 r : Nat, Words q0 q1 q2 q3 ∧ r < n ∧ val a0 a1 a2 a3 = val q0 q1 q2 q3 * n + r ∧ DivWordIs a0 a1 a2 a3 n q0 q1 q2 q3 r := by
  obtain ⟨h0, h1, h2, h3⟩ := ha
  obtain ⟨q3, r3, x3, y3, z3, d3⟩ := step_word (r := 0) hn hn' h3
  obtain ⟨q2, r2, x2, y2, z2, d2⟩ := step_word y3 hn' h2
  obtain ⟨q1, r1, x1, y1, z1, d1⟩ := step_word y2 hn' h1
  obtain ⟨q0, r0, x0, y0, z0, d0⟩ := step_word y1 hn' h0
  refine ⟨q0, q1, q2, q3, r0, ⟨x0, x1, x2, x3⟩, y0, ?_, fun w => divWord_words a0 a1 a2 a3 n q0 q1 q2 q3 r0 r1 r2 r3 w d3 d2 d1 d0⟩
  have vm := val_mul q0 q1 q2 q3 n
  rw [vm]
  rw [Nat.zero_mul, Nat.zero_add] at z3
  clear vm d0 d1 d2 d3 x0 x1 x2 x3 h0 h1 h2 h3
  unfold val; omega

set_option maxRecDepth 100000 in
set_option maxHeartbeats 8000000 in
theorem div_short (a0 a1 a2 a3 b0 b1 b2 b3 q0 q1 q2 q3 r : Nat) (w : World)
    (ez : ∀ w : World, (Op.equalIn 10000 25 (.agg #[.int .u64 (b0 : Nat), .int .u64 (b1 : Nat), .int .u64 (b2 : Nat), .int .u64 (b3 : Nat)]) (.agg #[.int .u64 0, .int .u64 0, .int .u64 0, .int .u64 0])).run Try.prog w = .ok false w)
    (eo : ∀ w : World, (Op.equalIn 10000 25 (.agg #[.int .u64 (b0 : Nat), .int .u64 (b1 : Nat), .int .u64 (b2 : Nat), .int .u64 (b3 : Nat)]) (.agg #[.int .u64 (b0 : Nat), .int .u64 0, .int .u64 0, .int .u64 0])).run Try.prog w = .ok true w)
    (dw : DivWordIs a0 a1 a2 a3 b0 q0 q1 q2 q3 r) :
    Calls Try.prog 25 #[.agg #[.int .u64 (a0 : Nat), .int .u64 (a1 : Nat), .int .u64 (a2 : Nat), .int .u64 (a3 : Nat)], .agg #[.int .u64 (b0 : Nat), .int .u64 (b1 : Nat), .int .u64 (b2 : Nat), .int .u64 (b3 : Nat)]] w fun e w' => e = .returned (.tuple #[.agg #[.int .u64 (q0 : Nat), .int .u64 (q1 : Nat), .int .u64 (q2 : Nat), .int .u64 (q3 : Nat)], .agg #[.int .u64 (r : Nat), .int .u64 0, .int .u64 0, .int .u64 0], .int .i64 0]) ∧ Below w.heap.size w w' := by
  have DWH := Lib.hid dw
  clear dw
  go_enter Try.func25, Try.ntmps25
  go_wp2_with fail
  obtain ⟨W, hW⟩ : ∃ W : World, W = (((w.alloc (.cells #[.int .u64 (a0 : Nat), .int .u64 (a1 : Nat), .int .u64 (a2 : Nat), .int .u64 (a3 : Nat)] 25)).alloc (.cells #[.int .u64 (b0 : Nat), .int .u64 (b1 : Nat), .int .u64 (b2 : Nat), .int .u64 (b3 : Nat)] 25)).alloc (.cells #[.int .u64 0, .int .u64 0, .int .u64 0, .int .u64 0] 25)).alloc (.cells #[.int .u64 0, .int .u64 0, .int .u64 0, .int .u64 0] 25) := ⟨_, rfl⟩
  have oa : Own W (w.heap.size) a0 a1 a2 a3 := by rw [hW]; refine ⟨⟨?_, ?_, ?_, ?_⟩, ?_, ?_, ?_, ?_⟩ <;> go_cell
  have ob : Own W (w.heap.size + 1) b0 b1 b2 b3 := by rw [hW]; refine ⟨⟨?_, ?_, ?_, ?_⟩, ?_, ?_, ?_, ?_⟩ <;> go_cell
  have oq : Own W (w.heap.size + 1 + 1) 0 0 0 0 := by rw [hW]; refine ⟨⟨?_, ?_, ?_, ?_⟩, ?_, ?_, ?_, ?_⟩ <;> go_cell
  have oR : Own W (w.heap.size + 1 + 1 + 1) 0 0 0 0 := by rw [hW]; refine ⟨⟨?_, ?_, ?_, ?_⟩, ?_, ?_, ?_, ?_⟩ <;> go_cell
  have pw : Below w.heap.size w W := by rw [hW]; go_grown
  rw [← hW]
  clear hW
  have ca := oa
  have cb := ob
  obtain ⟨⟨xa0, xa1, xa2, xa3⟩, _⟩ := ca
  obtain ⟨⟨xb0, xb1, xb2, xb3⟩, _⟩ := cb
  have ua0 : ∀ u : After W, u.w.cell? ⟨w.heap.size, 0, none⟩ = some (.int .u64 (a0 : Nat)) := fun u => u.cell xa0
  have ua1 : ∀ u : After W, u.w.cell? ⟨w.heap.size, 1, none⟩ = some (.int .u64 (a1 : Nat)) := fun u => u.cell xa1
  have ua2 : ∀ u : After W, u.w.cell? ⟨w.heap.size, 2, none⟩ = some (.int .u64 (a2 : Nat)) := fun u => u.cell xa2
  have ua3 : ∀ u : After W, u.w.cell? ⟨w.heap.size, 3, none⟩ = some (.int .u64 (a3 : Nat)) := fun u => u.cell xa3
  have ub0 : ∀ u : After W, u.w.cell? ⟨w.heap.size + 1, 0, none⟩ = some (.int .u64 (b0 : Nat)) := fun u => u.cell xb0
  have ub1 : ∀ u : After W, u.w.cell? ⟨w.heap.size + 1, 1, none⟩ = some (.int .u64 (b1 : Nat)) := fun u => u.cell xb1
  have ub2 : ∀ u : After W, u.w.cell? ⟨w.heap.size + 1, 2, none⟩ = some (.int .u64 (b2 : Nat)) := fun u => u.cell xb2
  have ub3 : ∀ u : After W, u.w.cell? ⟨w.heap.size + 1, 3, none⟩ = some (.int .u64 (b3 : Nat)) := fun u => u.cell xb3
  have PW := Lib.hid pw
  clear pw
  refine wp_region_after (by kernel_rfl) (by kernel_rfl) ?_
  repeat (go_big_quiet_step ((go_at_call 24; exact after_call (of_int _ _))))
  refine wpQuiet_nil ?_
  rintro _ ⟨u, rfl⟩
  clear ua0 ua1 ua2 ua3 ub0 ub1 ub2 ub3 xa0 xa1 xa2 xa3 xb0 xb1 xb2 xb3
  replace oa := oa.later u.below
  replace ob := ob.later u.below
  replace oq := oq.later u.below
  replace oR := oR.later u.below
  have PW1 := Lib.hid (below_step PW.out u.below)
  clear PW
  generalize u.w = W1 at *
  have ca := oa
  have cb := ob
  have cq := oq
  have cr := oR
  obtain ⟨⟨xa0, xa1, xa2, xa3⟩, ya0, ya1, ya2, ya3⟩ := ca
  obtain ⟨⟨xb0, xb1, xb2, xb3⟩, yb0, yb1, yb2, yb3⟩ := cb
  obtain ⟨⟨xq0, xq1, xq2, xq3⟩, yq0, yq1, yq2, yq3⟩ := cq
  obtain ⟨⟨xr0, xr1, xr2, xr3⟩, yr0, yr1, yr2, yr3⟩ := cr
  go_wp2_with fail
  refine (DWH.out _).mono ?_
  rintro e W4 ⟨rfl, h4⟩
  clear xa0 xa1 xa2 xa3 ya0 ya1 ya2 ya3 xb0 xb1 xb2 xb3 yb0 yb1 yb2 yb3 xq0 xq1 xq2 xq3 yq0 yq1 yq2 yq3 xr0 xr1 xr2 xr3 yr0 yr1 yr2 yr3 oa ob
  replace oq := oq.later h4
  replace oR := oR.later h4
  have PW4 := Lib.hid (below_step PW1.out h4)
  clear PW1 h4
  have cq := oq
  have cr := oR
  obtain ⟨⟨xq0, xq1, xq2, xq3⟩, yq0, yq1, yq2, yq3⟩ := cq
  obtain ⟨⟨xr0, xr1, xr2, xr3⟩, yr0, yr1, yr2, yr3⟩ := cr
  go_wp2_with fail
  obtain ⟨W5, hW5⟩ : ∃ W5 : World, W5 = ((((W4.setCell ⟨w.heap.size + 1 + 1, 0, none⟩ (.int .u64 (q0 : Nat))).setCell ⟨w.heap.size + 1 + 1, 1, none⟩ (.int .u64 (q1 : Nat))).setCell ⟨w.heap.size + 1 + 1, 2, none⟩ (.int .u64 (q2 : Nat))).setCell ⟨w.heap.size + 1 + 1, 3, none⟩ (.int .u64 (q3 : Nat))).setCell ⟨w.heap.size + 1 + 1 + 1, 0, none⟩ (.int .u64 (r : Nat)) := ⟨_, rfl⟩
  have tq : Own W5 (w.heap.size + 1 + 1) q0 q1 q2 q3 := by rw [hW5]; refine ⟨⟨?_, ?_, ?_, ?_⟩, ?_, ?_, ?_, ?_⟩ <;> go_cell
  have tr : Own W5 (w.heap.size + 1 + 1 + 1) r 0 0 0 := by rw [hW5]; refine ⟨⟨?_, ?_, ?_, ?_⟩, ?_, ?_, ?_, ?_⟩ <;> go_cell
  have pw : Below w.heap.size w W5 := by
    rw [hW5]
    exact ((((PW4.out.setCell (by simp <;> omega) _).setCell (by simp <;> omega) _).setCell (by simp <;> omega) _).setCell (by simp <;> omega) _).setCell (by simp <;> omega) _
  rw [← hW5]
  clear hW5 oq oR PW4 xq0 xq1 xq2 xq3 yq0 yq1 yq2 yq3 xr0 xr1 xr2 xr3 yr0 yr1 yr2 yr3
  have PW5 := Lib.hid pw
  clear pw
  obtain ⟨⟨xq0, xq1, xq2, xq3⟩, yq0, yq1, yq2, yq3⟩ := tq
  obtain ⟨⟨xr0, xr1, xr2, xr3⟩, yr0, yr1, yr2, yr3⟩ := tr
  go_region
  go_wp2_with fail
  have gq0 : ((((((((W5.setCell ⟨w.heap.size + 1 + 1, 0, none⟩ (.int .u64 (q0 : Nat))).setCell ⟨w.heap.size + 1 + 1, 1, none⟩ (.int .u64 (q1 : Nat))).setCell ⟨w.heap.size + 1 + 1, 2, none⟩ (.int .u64 (q2 : Nat))).setCell ⟨w.heap.size + 1 + 1, 3, none⟩ (.int .u64 (q3 : Nat))).setCell ⟨w.heap.size + 1 + 1 + 1, 0, none⟩ (.int .u64 (r : Nat))).setCell ⟨w.heap.size + 1 + 1 + 1, 1, none⟩ (.int .u64 0)).setCell ⟨w.heap.size + 1 + 1 + 1, 2, none⟩ (.int .u64 0)).setCell ⟨w.heap.size + 1 + 1 + 1, 3, none⟩ (.int .u64 0)).cell? ⟨w.heap.size + 1 + 1, 0, none⟩ = some (.int .u64 (q0 : Nat)) := by go_cell
  have gq1 : ((((((((W5.setCell ⟨w.heap.size + 1 + 1, 0, none⟩ (.int .u64 (q0 : Nat))).setCell ⟨w.heap.size + 1 + 1, 1, none⟩ (.int .u64 (q1 : Nat))).setCell ⟨w.heap.size + 1 + 1, 2, none⟩ (.int .u64 (q2 : Nat))).setCell ⟨w.heap.size + 1 + 1, 3, none⟩ (.int .u64 (q3 : Nat))).setCell ⟨w.heap.size + 1 + 1 + 1, 0, none⟩ (.int .u64 (r : Nat))).setCell ⟨w.heap.size + 1 + 1 + 1, 1, none⟩ (.int .u64 0)).setCell ⟨w.heap.size + 1 + 1 + 1, 2, none⟩ (.int .u64 0)).setCell ⟨w.heap.size + 1 + 1 + 1, 3, none⟩ (.int .u64 0)).cell? ⟨w.heap.size + 1 + 1, 1, none⟩ = some (.int .u64 (q1 : Nat)) := by go_cell
  have gq2 : ((((((((W5.setCell ⟨w.heap.size + 1 + 1, 0, none⟩ (.int .u64 (q0 : Nat))).setCell ⟨w.heap.size + 1 + 1, 1, none⟩ (.int .u64 (q1 : Nat))).setCell ⟨w.heap.size + 1 + 1, 2, none⟩ (.int .u64 (q2 : Nat))).setCell ⟨w.heap.size + 1 + 1, 3, none⟩ (.int .u64 (q3 : Nat))).setCell ⟨w.heap.size + 1 + 1 + 1, 0, none⟩ (.int .u64 (r : Nat))).setCell ⟨w.heap.size + 1 + 1 + 1, 1, none⟩ (.int .u64 0)).setCell ⟨w.heap.size + 1 + 1 + 1, 2, none⟩ (.int .u64 0)).setCell ⟨w.heap.size + 1 + 1 + 1, 3, none⟩ (.int .u64 0)).cell? ⟨w.heap.size + 1 + 1, 2, none⟩ = some (.int .u64 (q2 : Nat)) := by go_cell
  have gq3 : ((((((((W5.setCell ⟨w.heap.size + 1 + 1, 0, none⟩ (.int .u64 (q0 : Nat))).setCell ⟨w.heap.size + 1 + 1, 1, none⟩ (.int .u64 (q1 : Nat))).setCell ⟨w.heap.size + 1 + 1, 2, none⟩ (.int .u64 (q2 : Nat))).setCell ⟨w.heap.size + 1 + 1, 3, none⟩ (.int .u64 (q3 : Nat))).setCell ⟨w.heap.size + 1 + 1 + 1, 0, none⟩ (.int .u64 (r : Nat))).setCell ⟨w.heap.size + 1 + 1 + 1, 1, none⟩ (.int .u64 0)).setCell ⟨w.heap.size + 1 + 1 + 1, 2, none⟩ (.int .u64 0)).setCell ⟨w.heap.size + 1 + 1 + 1, 3, none⟩ (.int .u64 0)).cell? ⟨w.heap.size + 1 + 1, 3, none⟩ = some (.int .u64 (q3 : Nat)) := by go_cell
  have gr0 : ((((((((W5.setCell ⟨w.heap.size + 1 + 1, 0, none⟩ (.int .u64 (q0 : Nat))).setCell ⟨w.heap.size + 1 + 1, 1, none⟩ (.int .u64 (q1 : Nat))).setCell ⟨w.heap.size + 1 + 1, 2, none⟩ (.int .u64 (q2 : Nat))).setCell ⟨w.heap.size + 1 + 1, 3, none⟩ (.int .u64 (q3 : Nat))).setCell ⟨w.heap.size + 1 + 1 + 1, 0, none⟩ (.int .u64 (r : Nat))).setCell ⟨w.heap.size + 1 + 1 + 1, 1, none⟩ (.int .u64 0)).setCell ⟨w.heap.size + 1 + 1 + 1, 2, none⟩ (.int .u64 0)).setCell ⟨w.heap.size + 1 + 1 + 1, 3, none⟩ (.int .u64 0)).cell? ⟨w.heap.size + 1 + 1 + 1, 0, none⟩ = some (.int .u64 (r : Nat)) := by go_cell
  have gr1 : ((((((((W5.setCell ⟨w.heap.size + 1 + 1, 0, none⟩ (.int .u64 (q0 : Nat))).setCell ⟨w.heap.size + 1 + 1, 1, none⟩ (.int .u64 (q1 : Nat))).setCell ⟨w.heap.size + 1 + 1, 2, none⟩ (.int .u64 (q2 : Nat))).setCell ⟨w.heap.size + 1 + 1, 3, none⟩ (.int .u64 (q3 : Nat))).setCell ⟨w.heap.size + 1 + 1 + 1, 0, none⟩ (.int .u64 (r : Nat))).setCell ⟨w.heap.size + 1 + 1 + 1, 1, none⟩ (.int .u64 0)).setCell ⟨w.heap.size + 1 + 1 + 1, 2, none⟩ (.int .u64 0)).setCell ⟨w.heap.size + 1 + 1 + 1, 3, none⟩ (.int .u64 0)).cell? ⟨w.heap.size + 1 + 1 + 1, 1, none⟩ = some (.int .u64 0) := by go_cell
  have gr2 : ((((((((W5.setCell ⟨w.heap.size + 1 + 1, 0, none⟩ (.int .u64 (q0 : Nat))).setCell ⟨w.heap.size + 1 + 1, 1, none⟩ (.int .u64 (q1 : Nat))).setCell ⟨w.heap.size + 1 + 1, 2, none⟩ (.int .u64 (q2 : Nat))).setCell ⟨w.heap.size + 1 + 1, 3, none⟩ (.int .u64 (q3 : Nat))).setCell ⟨w.heap.size + 1 + 1 + 1, 0, none⟩ (.int .u64 (r : Nat))).setCell ⟨w.heap.size + 1 + 1 + 1, 1, none⟩ (.int .u64 0)).setCell ⟨w.heap.size + 1 + 1 + 1, 2, none⟩ (.int .u64 0)).setCell ⟨w.heap.size + 1 + 1 + 1, 3, none⟩ (.int .u64 0)).cell? ⟨w.heap.size + 1 + 1 + 1, 2, none⟩ = some (.int .u64 0) := by go_cell
  have gr3 : ((((((((W5.setCell ⟨w.heap.size + 1 + 1, 0, none⟩ (.int .u64 (q0 : Nat))).setCell ⟨w.heap.size + 1 + 1, 1, none⟩ (.int .u64 (q1 : Nat))).setCell ⟨w.heap.size + 1 + 1, 2, none⟩ (.int .u64 (q2 : Nat))).setCell ⟨w.heap.size + 1 + 1, 3, none⟩ (.int .u64 (q3 : Nat))).setCell ⟨w.heap.size + 1 + 1 + 1, 0, none⟩ (.int .u64 (r : Nat))).setCell ⟨w.heap.size + 1 + 1 + 1, 1, none⟩ (.int .u64 0)).setCell ⟨w.heap.size + 1 + 1 + 1, 2, none⟩ (.int .u64 0)).setCell ⟨w.heap.size + 1 + 1 + 1, 3, none⟩ (.int .u64 0)).cell? ⟨w.heap.size + 1 + 1 + 1, 3, none⟩ = some (.int .u64 0) := by go_cell
  refine bodyPost_ret (v := .tuple #[.agg #[.int .u64 (q0 : Nat), .int .u64 (q1 : Nat), .int .u64 (q2 : Nat), .int .u64 (q3 : Nat)], .agg #[.int .u64 (r : Nat), .int .u64 0, .int .u64 0, .int .u64 0], .int .i64 0]) (by simp [results, Try.results25, go_sem, gq0, gq1, gq2, gq3, gr0, gr1, gr2, gr3]) rfl ⟨rfl, ?_⟩
  exact ((((((((PW5.out.setCell (by simp <;> omega) _).setCell (by simp <;> omega) _).setCell (by simp <;> omega) _).setCell (by simp <;> omega) _).setCell (by simp <;> omega) _).setCell (by simp <;> omega) _).setCell (by simp <;> omega) _).setCell (by simp <;> omega) _).drew

theorem eqz {b0 b1 b2 b3 c : Nat} (hb : Words b0 b1 b2 b3) (hc : c < 18446744073709551616) (x : Bool) (hx : x = decide (val b0 b1 b2 b3 = c)) (w : World) :
    (Op.equalIn 10000 25 (.agg #[.int .u64 (b0 : Nat), .int .u64 (b1 : Nat), .int .u64 (b2 : Nat), .int .u64 (b3 : Nat)]) (.agg #[.int .u64 (c : Nat), .int .u64 0, .int .u64 0, .int .u64 0])).run Try.prog w = .ok x w :=
  eqIs hb (b0 := c) (b1 := 0) (b2 := 0) (b3 := 0) ⟨hc, by omega, by omega, by omega⟩ x (by rw [hx]; congr 1) w

/-- Div at every two numbers, the divisor not 0. -/
theorem div_any {a0 a1 a2 a3 b0 b1 b2 b3 : Nat} (ha : Words a0 a1 a2 a3) (hb : Words b0 b1 b2 b3) (pos : 0 < val b0 b1 b2 b3) (w : World) :
    Calls Try.prog 25 #[.agg #[.int .u64 (a0 : Nat), .int .u64 (a1 : Nat), .int .u64 (a2 : Nat), .int .u64 (a3 : Nat)], .agg #[.int .u64 (b0 : Nat), .int .u64 (b1 : Nat), .int .u64 (b2 : Nat), .int .u64 (b3 : Nat)]] w (DivPost (val a0 a1 a2 a3) (val b0 b1 b2 b3) w) := by
  have z := eqz hb (c := 0) (by omega) false (by symm; rw [decide_eq_false_iff_not]; omega)
  by_cases one : val b0 b1 b2 b3 = b0
  · have hb' := hb
    obtain ⟨k0, k1, k2, k3⟩ := hb'
    obtain ⟨q0, q1, q2, q3, r, wq, rl, e, dw⟩ := divWordIs ha (n := b0) (by omega) k0
    refine (div_short a0 a1 a2 a3 b0 b1 b2 b3 q0 q1 q2 q3 r w z (eqz hb k0 true (by rw [decide_eq_true one])) dw).mono fun e' w' ⟨he, hw⟩ => ?_
    exact ⟨q0, q1, q2, q3, r, 0, 0, 0, he, wq, ⟨by omega, by omega, by omega, by omega⟩, by rw [one, e]; unfold val; omega, by rw [one]; unfold val; omega, hw⟩
  · have bA := bits4_of ha
    have bB := bits4_of hb
    have la : val a0 a1 a2 a3 < 2 ^ 256 := by obtain ⟨_, _, _, _⟩ := ha; rw [show (2 : Nat) ^ 256 = 115792089237316195423570985008687907853269984665640564039457584007913129639936 by decide]; unfold val; omega
    have lb : val b0 b1 b2 b3 < 2 ^ 256 := by obtain ⟨_, _, _, _⟩ := hb; rw [show (2 : Nat) ^ 256 = 115792089237316195423570985008687907853269984665640564039457584007913129639936 by decide]; unfold val; omega
    have le : ∀ x n, BitsOf x n → x < 2 ^ 256 → n ≤ 256 := fun x n h hx => by
      by_cases h0 : x = 0
      · rw [h.1 h0]; omega
      · obtain ⟨c1, c2, c3⟩ := h.2 h0
        rcases Nat.lt_or_ge 256 n with hlt | hge
        · have : 2 ^ 256 ≤ 2 ^ (n - 1) := Nat.pow_le_pow_right (by omega) (by omega)
          omega
        · exact hge
    refine div_long a0 a1 a2 a3 b0 b1 b2 b3 _ _ w ha hb z (eqz hb (by obtain ⟨k0, _⟩ := hb; exact k0) false (by symm; rw [decide_eq_false_iff_not]; exact one)) (bitsIs ha) (bitsIs hb) (le _ _ bA la) (le _ _ bB lb) ?_ pos
    generalize bits4 (Lib.bitLen a0) (Lib.bitLen a1) (Lib.bitLen a2) (Lib.bitLen a3) a0 a1 a2 a3 = na at *
    generalize bits4 (Lib.bitLen b0) (Lib.bitLen b1) (Lib.bitLen b2) (Lib.bitLen b3) b0 b1 b2 b3 = nb at *
    generalize val a0 a1 a2 a3 = A at *
    generalize val b0 b1 b2 b3 = B at *
    obtain ⟨c1, c2, c3⟩ := bB.2 (by omega)
    have na256 := le _ _ bA la
    have e256 : (2 : Nat) ^ 256 = 115792089237316195423570985008687907853269984665640564039457584007913129639936 := by decide
    refine ⟨by omega, ?_, Nat.zero_mod _, fun h => ?_⟩
    · by_cases A0 : A = 0
      · rw [A0]; exact Nat.mul_pos pos (Nat.two_pow_pos _)
      · obtain ⟨d1, d2, d3⟩ := bA.2 A0
        have h1 : 2 ^ (nb - 1) * 2 ^ ((na : Int) - (nb : Int) + 1).toNat ≤ B * 2 ^ ((na : Int) - (nb : Int) + 1).toNat := Nat.mul_le_mul_right _ c2
        rw [← Nat.pow_add] at h1
        have h2 : 2 ^ na ≤ 2 ^ (nb - 1 + ((na : Int) - (nb : Int) + 1).toNat) := Nat.pow_le_pow_right (by omega) (by omega)
        omega
    · have h1 : B * 2 ^ ((na : Int) - (nb : Int)).toNat < 2 ^ nb * 2 ^ ((na : Int) - (nb : Int)).toNat := Nat.mul_lt_mul_of_pos_right c3 (Nat.two_pow_pos _)
      rw [← Nat.pow_add] at h1
      have h2 : 2 ^ (nb + ((na : Int) - (nb : Int)).toNat) ≤ 2 ^ 256 := Nat.pow_le_pow_right (by omega) (by omega)
      omega

end Go.Proofs.Ytnipajfglmahiaa
