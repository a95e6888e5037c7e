/- The anchor of the package big's statements is true: it returns true, and nothing that was there has turned. -/
import Derived.Test.YtcjggdoopehkpaaDivLit
import Derived.Deep.RegionHeld3
namespace Go.Proofs.Ytcjggdoopehkpaa
open Go.RowKit

/-- Block b holds a number of four words. -/
def Box (w : World) (b : Nat) (x0 x1 x2 x3 : Int) : Prop :=
  w.cell? ⟨b, 0, none⟩ = some (.int .u64 x0) ∧ w.cell? ⟨b, 1, none⟩ = some (.int .u64 x1) ∧ w.cell? ⟨b, 2, none⟩ = some (.int .u64 x2) ∧ w.cell? ⟨b, 3, none⟩ = some (.int .u64 x3)
theorem Box.later {w wx : World} {b : Nat} {x0 x1 x2 x3 : Int} (h : Box w b x0 x1 x2 x3) (hb : Below w.heap.size w wx) : Box wx b x0 x1 x2 x3 :=
  ⟨cell_later hb h.1, cell_later hb h.2.1, cell_later hb h.2.2.1, cell_later hb h.2.2.2⟩
theorem Box.alloc {w : World} {b : Nat} {x0 x1 x2 x3 : Int} (h : Box w b x0 x1 x2 x3) (o : Obj) : Box (w.alloc o) b x0 x1 x2 x3 := h.later ((Below.refl _ _).alloc (Nat.le_refl _) o)
theorem Box.new (w : World) (x0 x1 x2 x3 : Int) (t : TypeId) : Box (w.alloc (.cells #[.int .u64 x0, .int .u64 x1, .int .u64 x2, .int .u64 x3] t)) w.heap.size x0 x1 x2 x3 := by
  refine ⟨?_, ?_, ?_, ?_⟩ <;> simp [go_sem]
theorem below_step {w w1 w2 : World} (h : Below w.heap.size w w1) (k : Below w1.heap.size w1 w2) : Below w.heap.size w w2 := h.trans (k.mono h.size)
theorem below_alloc {w w1 : World} (h : Below w.heap.size w w1) (o : Obj) : Below w.heap.size w (w1.alloc o) := h.alloc h.size o

set_option maxHeartbeats 1000000 in
theorem most_exact (w : World) : Calls Try.prog 38 #[] w fun e w' => e = .returned (.agg #[.int .u64 18446744073709551615, .int .u64 18446744073709551615, .int .u64 18446744073709551615, .int .u64 18446744073709551615]) ∧ Below w.heap.size w w' ∧ w' = w.alloc (.cells #[.int .u64 18446744073709551615, .int .u64 18446744073709551615, .int .u64 18446744073709551615, .int .u64 18446744073709551615] 24) := by
  go_enter Try.func38, Try.ntmps38
  go_wp2_with fail
  go_returns
  exact ⟨rfl, (Below.refl _ _).alloc (Nat.le_refl _) _, rfl⟩

set_option maxRecDepth 100000 in
set_option maxHeartbeats 4000000 in
theorem works_any (w : World) : Calls Try.prog 21 #[] w fun e w' => e = .returned (.bool true) ∧ Below w.heap.size w w' := by
  have EQ := eq_big
  go_enter Try.func21, Try.ntmps21
  go_wp2_with fail
  have PB := Below.refl w.heap.size w
  refine (most_any _).mono ?_
  rintro e w1 ⟨rfl, h1⟩
  have q1 := below_step PB h1
  clear PB h1
  have PB := q1
  clear q1
  go_wp2_with fail
  refine (of_int 1 _).mono ?_
  rintro e w2 ⟨rfl, h2⟩
  have q2 := below_step PB h2
  clear PB h2
  have PB := q2
  clear q2
  go_wp2_with fail
  refine (lit_add _).mono ?_
  rintro e w3 ⟨rfl, h3⟩
  have q3 := below_step PB h3
  clear PB h3
  have PB := q3
  clear q3
  go_wp2_with fail
  have x1 := Box.new w3 0 0 0 0 24
  have PC := below_alloc PB (.cells #[.int .u64 0, .int .u64 0, .int .u64 0, .int .u64 0] 24)
  clear PB
  have PB := PC
  clear PC
  refine (of_int 1 _).mono ?_
  rintro e w4 ⟨rfl, h4⟩
  replace x1 := x1.later h4
  have q4 := below_step PB h4
  clear PB h4
  have PB := q4
  clear q4
  go_wp2_with fail
  refine (lit_sub _).mono ?_
  rintro e w5 ⟨rfl, h5⟩
  replace x1 := x1.later h5
  have q5 := below_step PB h5
  clear PB h5
  have PB := q5
  clear q5
  go_wp2_with fail
  replace x1 := x1.alloc (.cells #[.int .u64 18446744073709551615, .int .u64 18446744073709551615, .int .u64 18446744073709551615, .int .u64 18446744073709551615] 24)
  have x2 := Box.new w5 18446744073709551615 18446744073709551615 18446744073709551615 18446744073709551615 24
  have PC := below_alloc PB (.cells #[.int .u64 18446744073709551615, .int .u64 18446744073709551615, .int .u64 18446744073709551615, .int .u64 18446744073709551615] 24)
  clear PB
  have PB := PC
  clear PC
  refine (of_int 1 _).mono ?_
  rintro e w6 ⟨rfl, h6⟩
  replace x1 := x1.later h6
  replace x2 := x2.later h6
  have q6 := below_step PB h6
  clear PB h6
  have PB := q6
  clear q6
  go_wp2_with fail
  refine (lit_up _).mono ?_
  rintro e w7 ⟨rfl, h7⟩
  replace x1 := x1.later h7
  replace x2 := x2.later h7
  have q7 := below_step PB h7
  clear PB h7
  have PB := q7
  clear q7
  go_wp2_with fail
  refine (lit_mul _).mono ?_
  rintro e w8 ⟨rfl, h8⟩
  replace x1 := x1.later h8
  replace x2 := x2.later h8
  have q8 := below_step PB h8
  clear PB h8
  have PB := q8
  clear q8
  go_wp2_with fail
  replace x1 := x1.alloc (.cells #[.int .u64 0, .int .u64 0, .int .u64 0, .int .u64 0] 24)
  replace x2 := x2.alloc (.cells #[.int .u64 0, .int .u64 0, .int .u64 0, .int .u64 0] 24)
  have x3 := Box.new w8 0 0 0 0 24
  have PC := below_alloc PB (.cells #[.int .u64 0, .int .u64 0, .int .u64 0, .int .u64 0] 24)
  clear PB
  have PB := PC
  clear PC
  refine (of_int 100 _).mono ?_
  rintro e w9 ⟨rfl, h9⟩
  replace x1 := x1.later h9
  replace x2 := x2.later h9
  replace x3 := x3.later h9
  have q9 := below_step PB h9
  clear PB h9
  have PB := q9
  clear q9
  go_wp2_with fail
  refine (of_int 7 _).mono ?_
  rintro e w10 ⟨rfl, h10⟩
  replace x1 := x1.later h10
  replace x2 := x2.later h10
  replace x3 := x3.later h10
  have q10 := below_step PB h10
  clear PB h10
  have PB := q10
  clear q10
  go_wp2_with fail
  refine (lit_div _).mono ?_
  rintro e w11 ⟨rfl, h11⟩
  replace x1 := x1.later h11
  replace x2 := x2.later h11
  replace x3 := x3.later h11
  have q11 := below_step PB h11
  clear PB h11
  have PB := q11
  clear q11
  go_wp2_with fail
  replace x1 := x1.alloc (.cells #[.int .u64 14, .int .u64 0, .int .u64 0, .int .u64 0] 24)
  replace x2 := x2.alloc (.cells #[.int .u64 14, .int .u64 0, .int .u64 0, .int .u64 0] 24)
  replace x3 := x3.alloc (.cells #[.int .u64 14, .int .u64 0, .int .u64 0, .int .u64 0] 24)
  have x4 := Box.new w11 14 0 0 0 24
  have PC := below_alloc PB (.cells #[.int .u64 14, .int .u64 0, .int .u64 0, .int .u64 0] 24)
  clear PB
  have PB := PC
  clear PC
  replace x1 := x1.alloc (.cells #[.int .u64 2, .int .u64 0, .int .u64 0, .int .u64 0] 24)
  replace x2 := x2.alloc (.cells #[.int .u64 2, .int .u64 0, .int .u64 0, .int .u64 0] 24)
  replace x3 := x3.alloc (.cells #[.int .u64 2, .int .u64 0, .int .u64 0, .int .u64 0] 24)
  replace x4 := x4.alloc (.cells #[.int .u64 2, .int .u64 0, .int .u64 0, .int .u64 0] 24)
  have x5 := Box.new (w11.alloc (.cells #[.int .u64 14, .int .u64 0, .int .u64 0, .int .u64 0] 24)) 2 0 0 0 24
  have PC := below_alloc PB (.cells #[.int .u64 2, .int .u64 0, .int .u64 0, .int .u64 0] 24)
  clear PB
  have PB := PC
  clear PC
  refine (of_int 7 _).mono ?_
  rintro e w12 ⟨rfl, h12⟩
  replace x1 := x1.later h12
  replace x2 := x2.later h12
  replace x3 := x3.later h12
  replace x4 := x4.later h12
  replace x5 := x5.later h12
  have q12 := below_step PB h12
  clear PB h12
  have PB := q12
  clear q12
  go_wp2_with fail
  refine (lit_div0 _).mono ?_
  rintro e w13 ⟨rfl, h13⟩
  replace x1 := x1.later h13
  replace x2 := x2.later h13
  replace x3 := x3.later h13
  replace x4 := x4.later h13
  replace x5 := x5.later h13
  have q13 := below_step PB h13
  clear PB h13
  have PB := q13
  clear q13
  go_wp2_with fail
  replace x1 := (x1.alloc (.cells #[.int .u64 0, .int .u64 0, .int .u64 0, .int .u64 0] 24)).alloc (.cells #[.int .u64 0, .int .u64 0, .int .u64 0, .int .u64 0] 24)
  replace x2 := (x2.alloc (.cells #[.int .u64 0, .int .u64 0, .int .u64 0, .int .u64 0] 24)).alloc (.cells #[.int .u64 0, .int .u64 0, .int .u64 0, .int .u64 0] 24)
  replace x3 := (x3.alloc (.cells #[.int .u64 0, .int .u64 0, .int .u64 0, .int .u64 0] 24)).alloc (.cells #[.int .u64 0, .int .u64 0, .int .u64 0, .int .u64 0] 24)
  replace x4 := (x4.alloc (.cells #[.int .u64 0, .int .u64 0, .int .u64 0, .int .u64 0] 24)).alloc (.cells #[.int .u64 0, .int .u64 0, .int .u64 0, .int .u64 0] 24)
  replace x5 := (x5.alloc (.cells #[.int .u64 0, .int .u64 0, .int .u64 0, .int .u64 0] 24)).alloc (.cells #[.int .u64 0, .int .u64 0, .int .u64 0, .int .u64 0] 24)
  have PC := below_alloc (below_alloc PB (.cells #[.int .u64 0, .int .u64 0, .int .u64 0, .int .u64 0] 24)) (.cells #[.int .u64 0, .int .u64 0, .int .u64 0, .int .u64 0] 24)
  clear PB
  generalize ((w13.alloc (.cells #[.int .u64 0, .int .u64 0, .int .u64 0, .int .u64 0] 24)).alloc (.cells #[.int .u64 0, .int .u64 0, .int .u64 0, .int .u64 0] 24)) = W at *
  rw [World.size_alloc] at x5
  obtain ⟨x10, x11, x12, x13⟩ := x1
  obtain ⟨x20, x21, x22, x23⟩ := x2
  obtain ⟨x30, x31, x32, x33⟩ := x3
  obtain ⟨x40, x41, x42, x43⟩ := x4
  obtain ⟨x50, x51, x52, x53⟩ := x5
  have lx1 : w3.heap.size < W.heap.size := by have := World.block_lt_of_cell? _ _ x10; simpa using this
  have lx2 : w5.heap.size < W.heap.size := by have := World.block_lt_of_cell? _ _ x20; simpa using this
  have lx3 : w8.heap.size < W.heap.size := by have := World.block_lt_of_cell? _ _ x30; simpa using this
  have lx4 : w11.heap.size < W.heap.size := by have := World.block_lt_of_cell? _ _ x40; simpa using this
  have lx5 : w11.heap.size + 1 < W.heap.size := by have := World.block_lt_of_cell? _ _ x50; simpa using this
  have PB := Lib.hid PC
  clear PC
  generalize w11.heap.size + 1 = B5 at *
  go_region_held3 (fun w' => w'.cell? ⟨w3.heap.size, 0, none⟩ = some (.int .u64 0) ∧ w'.cell? ⟨w3.heap.size, 1, none⟩ = some (.int .u64 0) ∧ w'.cell? ⟨w3.heap.size, 2, none⟩ = some (.int .u64 0) ∧ w'.cell? ⟨w3.heap.size, 3, none⟩ = some (.int .u64 0) ∧ w'.cell? ⟨w5.heap.size, 0, none⟩ = some (.int .u64 18446744073709551615) ∧ w'.cell? ⟨w5.heap.size, 1, none⟩ = some (.int .u64 18446744073709551615) ∧ w'.cell? ⟨w5.heap.size, 2, none⟩ = some (.int .u64 18446744073709551615) ∧ w'.cell? ⟨w5.heap.size, 3, none⟩ = some (.int .u64 18446744073709551615) ∧ w'.cell? ⟨w8.heap.size, 0, none⟩ = some (.int .u64 0) ∧ w'.cell? ⟨w8.heap.size, 1, none⟩ = some (.int .u64 0) ∧ w'.cell? ⟨w8.heap.size, 2, none⟩ = some (.int .u64 0) ∧ w'.cell? ⟨w8.heap.size, 3, none⟩ = some (.int .u64 0) ∧ w'.cell? ⟨w11.heap.size, 0, none⟩ = some (.int .u64 14) ∧ w'.cell? ⟨w11.heap.size, 1, none⟩ = some (.int .u64 0) ∧ w'.cell? ⟨w11.heap.size, 2, none⟩ = some (.int .u64 0) ∧ w'.cell? ⟨w11.heap.size, 3, none⟩ = some (.int .u64 0) ∧ w'.cell? ⟨B5, 0, none⟩ = some (.int .u64 2) ∧ w'.cell? ⟨B5, 1, none⟩ = some (.int .u64 0) ∧ w'.cell? ⟨B5, 2, none⟩ = some (.int .u64 0) ∧ w'.cell? ⟨B5, 3, none⟩ = some (.int .u64 0)) (first | (refine ⟨?_, ?_, ?_, ?_, ?_, ?_, ?_, ?_, ?_, ?_, ?_, ?_, ?_, ?_, ?_, ?_, ?_, ?_, ?_, ?_⟩ <;> with_reducible assumption) | (refine ⟨?_, ?_, ?_, ?_, ?_, ?_, ?_, ?_, ?_, ?_, ?_, ?_, ?_, ?_, ?_, ?_, ?_, ?_, ?_, ?_⟩ <;> (refine cell_later (w := W) ?_ ?_ <;> first | (with_reducible assumption) | (go_grown; done))) | (refine ⟨?_, ?_, ?_, ?_, ?_, ?_, ?_, ?_, ?_, ?_, ?_, ?_, ?_, ?_, ?_, ?_, ?_, ?_, ?_, ?_⟩ <;> (refine cell_later hb9 ?_; refine cell_later hb8 ?_; refine cell_later (w := W) ?_ ?_ <;> first | (with_reducible assumption) | (go_grown; done))) | (refine ⟨?_, ?_, ?_, ?_, ?_, ?_, ?_, ?_, ?_, ?_, ?_, ?_, ?_, ?_, ?_, ?_, ?_, ?_, ?_, ?_⟩ <;> (refine cell_later hb8 ?_; refine cell_later (w := W) ?_ ?_ <;> first | (with_reducible assumption) | (go_grown; done))) | go_keep)
    (first | (go_at_call 38; refine (most_exact _).mono ?_; rintro e w' ⟨rfl, hb', rfl⟩; clear hb') | (go_at_call 19; refine (of_exact _ _).mono ?_; rintro e w' ⟨rfl, rfl⟩) | (go_at_call 17; refine (lit_bits _).mono ?_; rintro e w' ⟨rfl, hb8⟩) | (go_at_call 28; refine (lit_ofHash _).mono ?_; rintro e w' ⟨rfl, hb9⟩))
  go_wp2_with fail
  go_returns
  refine ⟨rfl, below_step (below_step (below_step PB.out ?_) hb8) hb9⟩
  go_grown

end Go.Proofs.Ytcjggdoopehkpaa
