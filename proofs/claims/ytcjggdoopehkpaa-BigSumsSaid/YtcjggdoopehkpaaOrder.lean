/- BigOrder of the statements of layer 2 returns true for all numbers: of two one is less, or both are the same; less goes on to the next; bits go with the order. -/
import Derived.Test.YtcjggdoopehkpaaAnchor
import Derived.Test.YtcjggdoopehkpaaMath
import Derived.Test.YtcjggdoopehkpaaAfter
import Derived.Deep.RegionWith
namespace Go.Proofs.Ytcjggdoopehkpaa
open Go.RowKit

def LessIs (a0 a1 a2 a3 b0 b1 b2 b3 : Nat) (r : Bool) : Prop := ∀ w : World, Calls Try.prog 15 #[.agg #[.int .u64 (a0 : Nat), .int .u64 (a1 : Nat), .int .u64 (a2 : Nat), .int .u64 (a3 : Nat)], .agg #[.int .u64 (b0 : Nat), .int .u64 (b1 : Nat), .int .u64 (b2 : Nat), .int .u64 (b3 : Nat)]] w fun e w' => e = .returned (.bool r) ∧ Below w.heap.size w w'
def BitsIs (a0 a1 a2 a3 n : Nat) : Prop := ∀ w : World, Calls Try.prog 17 #[.agg #[.int .u64 (a0 : Nat), .int .u64 (a1 : Nat), .int .u64 (a2 : Nat), .int .u64 (a3 : Nat)]] w fun e w' => e = .returned (.int .i64 (n : Nat)) ∧ Below w.heap.size w w'

theorem lessIs {a0 a1 a2 a3 b0 b1 b2 b3 : Nat} (ha : Words a0 a1 a2 a3) (hb : Words b0 b1 b2 b3) (r : Bool) (hr : r = decide (val a0 a1 a2 a3 < val b0 b1 b2 b3)) : LessIs a0 a1 a2 a3 b0 b1 b2 b3 r := by
  intro w
  have h := less_words a0 a1 a2 a3 b0 b1 b2 b3 _ _ _ _ _ _ _ _ w (gives_sub a0 b0 0 (diff a0 b0 0) (borrow a0 b0 0) (by omega) rfl rfl)
    (gives_sub a1 b1 _ (diff a1 b1 (borrow a0 b0 0)) (borrow a1 b1 (borrow a0 b0 0)) (borrow_le _ _ _) rfl rfl)
    (gives_sub a2 b2 _ (diff a2 b2 (borrow a1 b1 (borrow a0 b0 0))) (borrow a2 b2 (borrow a1 b1 (borrow a0 b0 0))) (borrow_le _ _ _) rfl rfl)
    (gives_sub a3 b3 _ (diff a3 b3 (borrow a2 b2 (borrow a1 b1 (borrow a0 b0 0)))) (borrow a3 b3 (borrow a2 b2 (borrow a1 b1 (borrow a0 b0 0)))) (borrow_le _ _ _) rfl rfl)
  rw [borrow_val ha hb] at h
  refine h.mono fun e w' ⟨he, hw⟩ => ⟨?_, hw⟩
  rw [he, hr]
  by_cases hlt : val a0 a1 a2 a3 < val b0 b1 b2 b3
  · rw [if_pos hlt, decide_eq_true hlt]; rfl
  · rw [if_neg hlt, decide_eq_false hlt]; rfl

theorem bitsIs {a0 a1 a2 a3 : Nat} (ha : Words a0 a1 a2 a3) : BitsIs a0 a1 a2 a3 (bits4 (Lib.bitLen a0) (Lib.bitLen a1) (Lib.bitLen a2) (Lib.bitLen a3) a0 a1 a2 a3) := by
  intro w
  obtain ⟨h0, h1, h2, h3⟩ := ha
  exact bits_words a0 a1 a2 a3 _ _ _ _ _ _ _ _ w (lenIs a0 _ h0 rfl) (lenIs a1 _ h1 rfl) (lenIs a2 _ h2 rfl) (lenIs a3 _ h3 rfl) (bitLen_le64 _ h0) (bitLen_le64 _ h1) (bitLen_le64 _ h2) (bitLen_le64 _ h3) rfl rfl rfl rfl

/-- '==' between two numbers, decided. -/
def EqIs (a0 a1 a2 a3 b0 b1 b2 b3 : Nat) (r : Bool) : Prop := ∀ w : World, (Op.equalIn 10000 24 (.agg #[.int .u64 (a0 : Nat), .int .u64 (a1 : Nat), .int .u64 (a2 : Nat), .int .u64 (a3 : Nat)]) (.agg #[.int .u64 (b0 : Nat), .int .u64 (b1 : Nat), .int .u64 (b2 : Nat), .int .u64 (b3 : Nat)])).run Try.prog w = .ok r w
theorem eqIs {a0 a1 a2 a3 b0 b1 b2 b3 : Nat} (ha : Words a0 a1 a2 a3) (hb : Words b0 b1 b2 b3) (r : Bool) (hr : r = decide (val a0 a1 a2 a3 = val b0 b1 b2 b3)) : EqIs a0 a1 a2 a3 b0 b1 b2 b3 r := by
  intro w
  rw [eq_big, hr]
  congr 1
  rw [Bool.eq_iff_iff]
  simp only [Bool.and_eq_true, beq_iff_eq, decide_eq_true_eq]
  constructor
  · rintro ⟨e0, e1, e2, e3⟩
    obtain rfl : a0 = b0 := by omega
    obtain rfl : a1 = b1 := by omega
    obtain rfl : a2 = b2 := by omega
    obtain rfl : a3 = b3 := by omega
    rfl
  · intro h
    obtain ⟨rfl, rfl, rfl, rfl⟩ := val_inj ha hb h
    exact ⟨rfl, rfl, rfl, rfl⟩

set_option maxRecDepth 100000 in
set_option maxHeartbeats 4000000 in
theorem order_lt_t0 (a0 a1 a2 a3 b0 b1 b2 b3 c0 c1 c2 c3 : Nat) (w : World) (lab : LessIs a0 a1 a2 a3 b0 b1 b2 b3 true) (lba : LessIs b0 b1 b2 b3 a0 a1 a2 a3 false) (eab : EqIs a0 a1 a2 a3 b0 b1 b2 b3 false) (lbc : LessIs b0 b1 b2 b3 c0 c1 c2 c3 true) (lac : LessIs a0 a1 a2 a3 c0 c1 c2 c3 true) (na nb : Nat) (nA : BitsIs a0 a1 a2 a3 na) (nB : BitsIs b0 b1 b2 b3 nb) (hn : decide (nb ≤ na) = false) :
    Calls Try.prog 8 #[.agg #[.int .u64 (a0 : Nat), .int .u64 (a1 : Nat), .int .u64 (a2 : Nat), .int .u64 (a3 : Nat)], .agg #[.int .u64 (b0 : Nat), .int .u64 (b1 : Nat), .int .u64 (b2 : Nat), .int .u64 (b3 : Nat)], .agg #[.int .u64 (c0 : Nat), .int .u64 (c1 : Nat), .int .u64 (c2 : Nat), .int .u64 (c3 : Nat)]] w fun e w' => e = .returned (.bool true) ∧ Below w.heap.size w w' := by
  have LAB := Lib.hid lab
  have LBA := Lib.hid lba
  clear lab lba
  unfold EqIs at eab
  have LBC := Lib.hid lbc
  clear lbc
  have LAC := Lib.hid lac
  clear lac
  have NA := Lib.hid nA
  have NB := Lib.hid nB
  clear nA nB
  go_enter Try.func8, Try.ntmps8
  go_wp2_with fail
  refine (LAB.out _).mono ?_
  rintro e w1 ⟨rfl, h1⟩
  have pb : Below w.heap.size w w1 := by
    refine Below.trans ?_ (h1.mono (by simp; omega))
    go_grown
  have xa : Box w1 (w.heap.size) a0 a1 a2 a3 := ⟨cell_later h1 (by go_cell), cell_later h1 (by go_cell), cell_later h1 (by go_cell), cell_later h1 (by go_cell)⟩
  have xb : Box w1 (w.heap.size + 1) b0 b1 b2 b3 := ⟨cell_later h1 (by go_cell), cell_later h1 (by go_cell), cell_later h1 (by go_cell), cell_later h1 (by go_cell)⟩
  have xc : Box w1 (w.heap.size + 1 + 1) c0 c1 c2 c3 := ⟨cell_later h1 (by go_cell), cell_later h1 (by go_cell), cell_later h1 (by go_cell), cell_later h1 (by go_cell)⟩
  clear h1
  have ya := xa
  have yb := xb
  have yc := xc
  obtain ⟨aa0, aa1, aa2, aa3⟩ := xa
  obtain ⟨bb0, bb1, bb2, bb3⟩ := xb
  obtain ⟨cc0, cc1, cc2, cc3⟩ := xc
  go_wp2_with fail
  refine (LBA.out _).mono ?_
  rintro e w2 ⟨rfl, h2⟩
  have xa := ya.later h2
  have xb := yb.later h2
  have xc := yc.later h2
  have PB := Lib.hid (below_step pb h2)
  clear h2 pb ya yb yc aa0 aa1 aa2 aa3 bb0 bb1 bb2 bb3 cc0 cc1 cc2 cc3
  obtain ⟨aa0, aa1, aa2, aa3⟩ := xa
  obtain ⟨bb0, bb1, bb2, bb3⟩ := xb
  obtain ⟨cc0, cc1, cc2, cc3⟩ := xc
  have la : w.heap.size < w2.heap.size := by have := World.block_lt_of_cell? _ _ aa0; simpa using this
  have lb : w.heap.size + 1 < w2.heap.size := by have := World.block_lt_of_cell? _ _ bb0; simpa using this
  have lc : w.heap.size + 1 + 1 < w2.heap.size := by have := World.block_lt_of_cell? _ _ cc0; simpa using this
  generalize w.heap.size + 1 + 1 = B3 at *
  generalize w.heap.size + 1 = B2 at *
  go_wp2_with fail
  have ua0 : ∀ u : After w2, u.w.cell? ⟨w.heap.size, 0, none⟩ = some (.int .u64 (a0 : Nat)) := fun u => u.cell aa0
  have ua1 : ∀ u : After w2, u.w.cell? ⟨w.heap.size, 1, none⟩ = some (.int .u64 (a1 : Nat)) := fun u => u.cell aa1
  have ua2 : ∀ u : After w2, u.w.cell? ⟨w.heap.size, 2, none⟩ = some (.int .u64 (a2 : Nat)) := fun u => u.cell aa2
  have ua3 : ∀ u : After w2, u.w.cell? ⟨w.heap.size, 3, none⟩ = some (.int .u64 (a3 : Nat)) := fun u => u.cell aa3
  have ub0 : ∀ u : After w2, u.w.cell? ⟨B2, 0, none⟩ = some (.int .u64 (b0 : Nat)) := fun u => u.cell bb0
  have ub1 : ∀ u : After w2, u.w.cell? ⟨B2, 1, none⟩ = some (.int .u64 (b1 : Nat)) := fun u => u.cell bb1
  have ub2 : ∀ u : After w2, u.w.cell? ⟨B2, 2, none⟩ = some (.int .u64 (b2 : Nat)) := fun u => u.cell bb2
  have ub3 : ∀ u : After w2, u.w.cell? ⟨B2, 3, none⟩ = some (.int .u64 (b3 : Nat)) := fun u => u.cell bb3
  have uc0 : ∀ u : After w2, u.w.cell? ⟨B3, 0, none⟩ = some (.int .u64 (c0 : Nat)) := fun u => u.cell cc0
  have uc1 : ∀ u : After w2, u.w.cell? ⟨B3, 1, none⟩ = some (.int .u64 (c1 : Nat)) := fun u => u.cell cc1
  have uc2 : ∀ u : After w2, u.w.cell? ⟨B3, 2, none⟩ = some (.int .u64 (c2 : Nat)) := fun u => u.cell cc2
  have uc3 : ∀ u : After w2, u.w.cell? ⟨B3, 3, none⟩ = some (.int .u64 (c3 : Nat)) := fun u => u.cell cc3
  refine wp_region_after (by kernel_rfl) (by kernel_rfl) ?_
  repeat (go_big_quiet_step ((first | (go_at_call_of 15 ((b0 : Nat) : Int); exact after_call (LBC.out _)) | (go_at_call_of 15 ((a0 : Nat) : Int); exact after_call (LAC.out _)) | (go_at_call_of 17 ((a0 : Nat) : Int); exact after_call (NA.out _)) | (go_at_call_of 17 ((b0 : Nat) : Int); exact after_call (NB.out _)) | (go_at_call 21; exact after_call (works_any _)))))
  refine wpQuiet_nil ?_
  rintro _ ⟨u, rfl⟩
  go_wp2_with fail
  go_returns
  exact ⟨rfl, below_step PB.out u.below⟩

set_option maxRecDepth 100000 in
set_option maxHeartbeats 4000000 in
theorem order_lt_t1 (a0 a1 a2 a3 b0 b1 b2 b3 c0 c1 c2 c3 : Nat) (w : World) (lab : LessIs a0 a1 a2 a3 b0 b1 b2 b3 true) (lba : LessIs b0 b1 b2 b3 a0 a1 a2 a3 false) (eab : EqIs a0 a1 a2 a3 b0 b1 b2 b3 false) (lbc : LessIs b0 b1 b2 b3 c0 c1 c2 c3 true) (lac : LessIs a0 a1 a2 a3 c0 c1 c2 c3 true) (na nb : Nat) (nA : BitsIs a0 a1 a2 a3 na) (nB : BitsIs b0 b1 b2 b3 nb) (hn : decide (nb ≤ na) = true) :
    Calls Try.prog 8 #[.agg #[.int .u64 (a0 : Nat), .int .u64 (a1 : Nat), .int .u64 (a2 : Nat), .int .u64 (a3 : Nat)], .agg #[.int .u64 (b0 : Nat), .int .u64 (b1 : Nat), .int .u64 (b2 : Nat), .int .u64 (b3 : Nat)], .agg #[.int .u64 (c0 : Nat), .int .u64 (c1 : Nat), .int .u64 (c2 : Nat), .int .u64 (c3 : Nat)]] w fun e w' => e = .returned (.bool true) ∧ Below w.heap.size w w' := by
  have LAB := Lib.hid lab
  have LBA := Lib.hid lba
  clear lab lba
  unfold EqIs at eab
  have LBC := Lib.hid lbc
  clear lbc
  have LAC := Lib.hid lac
  clear lac
  have NA := Lib.hid nA
  have NB := Lib.hid nB
  clear nA nB
  go_enter Try.func8, Try.ntmps8
  go_wp2_with fail
  refine (LAB.out _).mono ?_
  rintro e w1 ⟨rfl, h1⟩
  have pb : Below w.heap.size w w1 := by
    refine Below.trans ?_ (h1.mono (by simp; omega))
    go_grown
  have xa : Box w1 (w.heap.size) a0 a1 a2 a3 := ⟨cell_later h1 (by go_cell), cell_later h1 (by go_cell), cell_later h1 (by go_cell), cell_later h1 (by go_cell)⟩
  have xb : Box w1 (w.heap.size + 1) b0 b1 b2 b3 := ⟨cell_later h1 (by go_cell), cell_later h1 (by go_cell), cell_later h1 (by go_cell), cell_later h1 (by go_cell)⟩
  have xc : Box w1 (w.heap.size + 1 + 1) c0 c1 c2 c3 := ⟨cell_later h1 (by go_cell), cell_later h1 (by go_cell), cell_later h1 (by go_cell), cell_later h1 (by go_cell)⟩
  clear h1
  have ya := xa
  have yb := xb
  have yc := xc
  obtain ⟨aa0, aa1, aa2, aa3⟩ := xa
  obtain ⟨bb0, bb1, bb2, bb3⟩ := xb
  obtain ⟨cc0, cc1, cc2, cc3⟩ := xc
  go_wp2_with fail
  refine (LBA.out _).mono ?_
  rintro e w2 ⟨rfl, h2⟩
  have xa := ya.later h2
  have xb := yb.later h2
  have xc := yc.later h2
  have PB := Lib.hid (below_step pb h2)
  clear h2 pb ya yb yc aa0 aa1 aa2 aa3 bb0 bb1 bb2 bb3 cc0 cc1 cc2 cc3
  obtain ⟨aa0, aa1, aa2, aa3⟩ := xa
  obtain ⟨bb0, bb1, bb2, bb3⟩ := xb
  obtain ⟨cc0, cc1, cc2, cc3⟩ := xc
  have la : w.heap.size < w2.heap.size := by have := World.block_lt_of_cell? _ _ aa0; simpa using this
  have lb : w.heap.size + 1 < w2.heap.size := by have := World.block_lt_of_cell? _ _ bb0; simpa using this
  have lc : w.heap.size + 1 + 1 < w2.heap.size := by have := World.block_lt_of_cell? _ _ cc0; simpa using this
  generalize w.heap.size + 1 + 1 = B3 at *
  generalize w.heap.size + 1 = B2 at *
  go_wp2_with fail
  have ua0 : ∀ u : After w2, u.w.cell? ⟨w.heap.size, 0, none⟩ = some (.int .u64 (a0 : Nat)) := fun u => u.cell aa0
  have ua1 : ∀ u : After w2, u.w.cell? ⟨w.heap.size, 1, none⟩ = some (.int .u64 (a1 : Nat)) := fun u => u.cell aa1
  have ua2 : ∀ u : After w2, u.w.cell? ⟨w.heap.size, 2, none⟩ = some (.int .u64 (a2 : Nat)) := fun u => u.cell aa2
  have ua3 : ∀ u : After w2, u.w.cell? ⟨w.heap.size, 3, none⟩ = some (.int .u64 (a3 : Nat)) := fun u => u.cell aa3
  have ub0 : ∀ u : After w2, u.w.cell? ⟨B2, 0, none⟩ = some (.int .u64 (b0 : Nat)) := fun u => u.cell bb0
  have ub1 : ∀ u : After w2, u.w.cell? ⟨B2, 1, none⟩ = some (.int .u64 (b1 : Nat)) := fun u => u.cell bb1
  have ub2 : ∀ u : After w2, u.w.cell? ⟨B2, 2, none⟩ = some (.int .u64 (b2 : Nat)) := fun u => u.cell bb2
  have ub3 : ∀ u : After w2, u.w.cell? ⟨B2, 3, none⟩ = some (.int .u64 (b3 : Nat)) := fun u => u.cell bb3
  have uc0 : ∀ u : After w2, u.w.cell? ⟨B3, 0, none⟩ = some (.int .u64 (c0 : Nat)) := fun u => u.cell cc0
  have uc1 : ∀ u : After w2, u.w.cell? ⟨B3, 1, none⟩ = some (.int .u64 (c1 : Nat)) := fun u => u.cell cc1
  have uc2 : ∀ u : After w2, u.w.cell? ⟨B3, 2, none⟩ = some (.int .u64 (c2 : Nat)) := fun u => u.cell cc2
  have uc3 : ∀ u : After w2, u.w.cell? ⟨B3, 3, none⟩ = some (.int .u64 (c3 : Nat)) := fun u => u.cell cc3
  refine wp_region_after (by kernel_rfl) (by kernel_rfl) ?_
  repeat (go_big_quiet_step ((first | (go_at_call_of 15 ((b0 : Nat) : Int); exact after_call (LBC.out _)) | (go_at_call_of 15 ((a0 : Nat) : Int); exact after_call (LAC.out _)) | (go_at_call_of 17 ((a0 : Nat) : Int); exact after_call (NA.out _)) | (go_at_call_of 17 ((b0 : Nat) : Int); exact after_call (NB.out _)) | (go_at_call 21; exact after_call (works_any _)))))
  refine wpQuiet_nil ?_
  rintro _ ⟨u, rfl⟩
  go_wp2_with fail
  go_returns
  exact ⟨rfl, below_step PB.out u.below⟩

set_option maxRecDepth 100000 in
set_option maxHeartbeats 4000000 in
theorem order_lt_f0 (a0 a1 a2 a3 b0 b1 b2 b3 c0 c1 c2 c3 : Nat) (w : World) (lab : LessIs a0 a1 a2 a3 b0 b1 b2 b3 true) (lba : LessIs b0 b1 b2 b3 a0 a1 a2 a3 false) (eab : EqIs a0 a1 a2 a3 b0 b1 b2 b3 false) (lbc : LessIs b0 b1 b2 b3 c0 c1 c2 c3 false) (na nb : Nat) (nA : BitsIs a0 a1 a2 a3 na) (nB : BitsIs b0 b1 b2 b3 nb) (hn : decide (nb ≤ na) = false) :
    Calls Try.prog 8 #[.agg #[.int .u64 (a0 : Nat), .int .u64 (a1 : Nat), .int .u64 (a2 : Nat), .int .u64 (a3 : Nat)], .agg #[.int .u64 (b0 : Nat), .int .u64 (b1 : Nat), .int .u64 (b2 : Nat), .int .u64 (b3 : Nat)], .agg #[.int .u64 (c0 : Nat), .int .u64 (c1 : Nat), .int .u64 (c2 : Nat), .int .u64 (c3 : Nat)]] w fun e w' => e = .returned (.bool true) ∧ Below w.heap.size w w' := by
  have LAB := Lib.hid lab
  have LBA := Lib.hid lba
  clear lab lba
  unfold EqIs at eab
  have LBC := Lib.hid lbc
  clear lbc
  have NA := Lib.hid nA
  have NB := Lib.hid nB
  clear nA nB
  go_enter Try.func8, Try.ntmps8
  go_wp2_with fail
  refine (LAB.out _).mono ?_
  rintro e w1 ⟨rfl, h1⟩
  have pb : Below w.heap.size w w1 := by
    refine Below.trans ?_ (h1.mono (by simp; omega))
    go_grown
  have xa : Box w1 (w.heap.size) a0 a1 a2 a3 := ⟨cell_later h1 (by go_cell), cell_later h1 (by go_cell), cell_later h1 (by go_cell), cell_later h1 (by go_cell)⟩
  have xb : Box w1 (w.heap.size + 1) b0 b1 b2 b3 := ⟨cell_later h1 (by go_cell), cell_later h1 (by go_cell), cell_later h1 (by go_cell), cell_later h1 (by go_cell)⟩
  have xc : Box w1 (w.heap.size + 1 + 1) c0 c1 c2 c3 := ⟨cell_later h1 (by go_cell), cell_later h1 (by go_cell), cell_later h1 (by go_cell), cell_later h1 (by go_cell)⟩
  clear h1
  have ya := xa
  have yb := xb
  have yc := xc
  obtain ⟨aa0, aa1, aa2, aa3⟩ := xa
  obtain ⟨bb0, bb1, bb2, bb3⟩ := xb
  obtain ⟨cc0, cc1, cc2, cc3⟩ := xc
  go_wp2_with fail
  refine (LBA.out _).mono ?_
  rintro e w2 ⟨rfl, h2⟩
  have xa := ya.later h2
  have xb := yb.later h2
  have xc := yc.later h2
  have PB := Lib.hid (below_step pb h2)
  clear h2 pb ya yb yc aa0 aa1 aa2 aa3 bb0 bb1 bb2 bb3 cc0 cc1 cc2 cc3
  obtain ⟨aa0, aa1, aa2, aa3⟩ := xa
  obtain ⟨bb0, bb1, bb2, bb3⟩ := xb
  obtain ⟨cc0, cc1, cc2, cc3⟩ := xc
  have la : w.heap.size < w2.heap.size := by have := World.block_lt_of_cell? _ _ aa0; simpa using this
  have lb : w.heap.size + 1 < w2.heap.size := by have := World.block_lt_of_cell? _ _ bb0; simpa using this
  have lc : w.heap.size + 1 + 1 < w2.heap.size := by have := World.block_lt_of_cell? _ _ cc0; simpa using this
  generalize w.heap.size + 1 + 1 = B3 at *
  generalize w.heap.size + 1 = B2 at *
  go_wp2_with fail
  have ua0 : ∀ u : After w2, u.w.cell? ⟨w.heap.size, 0, none⟩ = some (.int .u64 (a0 : Nat)) := fun u => u.cell aa0
  have ua1 : ∀ u : After w2, u.w.cell? ⟨w.heap.size, 1, none⟩ = some (.int .u64 (a1 : Nat)) := fun u => u.cell aa1
  have ua2 : ∀ u : After w2, u.w.cell? ⟨w.heap.size, 2, none⟩ = some (.int .u64 (a2 : Nat)) := fun u => u.cell aa2
  have ua3 : ∀ u : After w2, u.w.cell? ⟨w.heap.size, 3, none⟩ = some (.int .u64 (a3 : Nat)) := fun u => u.cell aa3
  have ub0 : ∀ u : After w2, u.w.cell? ⟨B2, 0, none⟩ = some (.int .u64 (b0 : Nat)) := fun u => u.cell bb0
  have ub1 : ∀ u : After w2, u.w.cell? ⟨B2, 1, none⟩ = some (.int .u64 (b1 : Nat)) := fun u => u.cell bb1
  have ub2 : ∀ u : After w2, u.w.cell? ⟨B2, 2, none⟩ = some (.int .u64 (b2 : Nat)) := fun u => u.cell bb2
  have ub3 : ∀ u : After w2, u.w.cell? ⟨B2, 3, none⟩ = some (.int .u64 (b3 : Nat)) := fun u => u.cell bb3
  have uc0 : ∀ u : After w2, u.w.cell? ⟨B3, 0, none⟩ = some (.int .u64 (c0 : Nat)) := fun u => u.cell cc0
  have uc1 : ∀ u : After w2, u.w.cell? ⟨B3, 1, none⟩ = some (.int .u64 (c1 : Nat)) := fun u => u.cell cc1
  have uc2 : ∀ u : After w2, u.w.cell? ⟨B3, 2, none⟩ = some (.int .u64 (c2 : Nat)) := fun u => u.cell cc2
  have uc3 : ∀ u : After w2, u.w.cell? ⟨B3, 3, none⟩ = some (.int .u64 (c3 : Nat)) := fun u => u.cell cc3
  refine wp_region_after (by kernel_rfl) (by kernel_rfl) ?_
  repeat (go_big_quiet_step ((first | (go_at_call_of 15 ((b0 : Nat) : Int); exact after_call (LBC.out _)) | (go_at_call_of 17 ((a0 : Nat) : Int); exact after_call (NA.out _)) | (go_at_call_of 17 ((b0 : Nat) : Int); exact after_call (NB.out _)) | (go_at_call 21; exact after_call (works_any _)))))
  refine wpQuiet_nil ?_
  rintro _ ⟨u, rfl⟩
  go_wp2_with fail
  go_returns
  exact ⟨rfl, below_step PB.out u.below⟩

set_option maxRecDepth 100000 in
set_option maxHeartbeats 4000000 in
theorem order_lt_f1 (a0 a1 a2 a3 b0 b1 b2 b3 c0 c1 c2 c3 : Nat) (w : World) (lab : LessIs a0 a1 a2 a3 b0 b1 b2 b3 true) (lba : LessIs b0 b1 b2 b3 a0 a1 a2 a3 false) (eab : EqIs a0 a1 a2 a3 b0 b1 b2 b3 false) (lbc : LessIs b0 b1 b2 b3 c0 c1 c2 c3 false) (na nb : Nat) (nA : BitsIs a0 a1 a2 a3 na) (nB : BitsIs b0 b1 b2 b3 nb) (hn : decide (nb ≤ na) = true) :
    Calls Try.prog 8 #[.agg #[.int .u64 (a0 : Nat), .int .u64 (a1 : Nat), .int .u64 (a2 : Nat), .int .u64 (a3 : Nat)], .agg #[.int .u64 (b0 : Nat), .int .u64 (b1 : Nat), .int .u64 (b2 : Nat), .int .u64 (b3 : Nat)], .agg #[.int .u64 (c0 : Nat), .int .u64 (c1 : Nat), .int .u64 (c2 : Nat), .int .u64 (c3 : Nat)]] w fun e w' => e = .returned (.bool true) ∧ Below w.heap.size w w' := by
  have LAB := Lib.hid lab
  have LBA := Lib.hid lba
  clear lab lba
  unfold EqIs at eab
  have LBC := Lib.hid lbc
  clear lbc
  have NA := Lib.hid nA
  have NB := Lib.hid nB
  clear nA nB
  go_enter Try.func8, Try.ntmps8
  go_wp2_with fail
  refine (LAB.out _).mono ?_
  rintro e w1 ⟨rfl, h1⟩
  have pb : Below w.heap.size w w1 := by
    refine Below.trans ?_ (h1.mono (by simp; omega))
    go_grown
  have xa : Box w1 (w.heap.size) a0 a1 a2 a3 := ⟨cell_later h1 (by go_cell), cell_later h1 (by go_cell), cell_later h1 (by go_cell), cell_later h1 (by go_cell)⟩
  have xb : Box w1 (w.heap.size + 1) b0 b1 b2 b3 := ⟨cell_later h1 (by go_cell), cell_later h1 (by go_cell), cell_later h1 (by go_cell), cell_later h1 (by go_cell)⟩
  have xc : Box w1 (w.heap.size + 1 + 1) c0 c1 c2 c3 := ⟨cell_later h1 (by go_cell), cell_later h1 (by go_cell), cell_later h1 (by go_cell), cell_later h1 (by go_cell)⟩
  clear h1
  have ya := xa
  have yb := xb
  have yc := xc
  obtain ⟨aa0, aa1, aa2, aa3⟩ := xa
  obtain ⟨bb0, bb1, bb2, bb3⟩ := xb
  obtain ⟨cc0, cc1, cc2, cc3⟩ := xc
  go_wp2_with fail
  refine (LBA.out _).mono ?_
  rintro e w2 ⟨rfl, h2⟩
  have xa := ya.later h2
  have xb := yb.later h2
  have xc := yc.later h2
  have PB := Lib.hid (below_step pb h2)
  clear h2 pb ya yb yc aa0 aa1 aa2 aa3 bb0 bb1 bb2 bb3 cc0 cc1 cc2 cc3
  obtain ⟨aa0, aa1, aa2, aa3⟩ := xa
  obtain ⟨bb0, bb1, bb2, bb3⟩ := xb
  obtain ⟨cc0, cc1, cc2, cc3⟩ := xc
  have la : w.heap.size < w2.heap.size := by have := World.block_lt_of_cell? _ _ aa0; simpa using this
  have lb : w.heap.size + 1 < w2.heap.size := by have := World.block_lt_of_cell? _ _ bb0; simpa using this
  have lc : w.heap.size + 1 + 1 < w2.heap.size := by have := World.block_lt_of_cell? _ _ cc0; simpa using this
  generalize w.heap.size + 1 + 1 = B3 at *
  generalize w.heap.size + 1 = B2 at *
  go_wp2_with fail
  have ua0 : ∀ u : After w2, u.w.cell? ⟨w.heap.size, 0, none⟩ = some (.int .u64 (a0 : Nat)) := fun u => u.cell aa0
  have ua1 : ∀ u : After w2, u.w.cell? ⟨w.heap.size, 1, none⟩ = some (.int .u64 (a1 : Nat)) := fun u => u.cell aa1
  have ua2 : ∀ u : After w2, u.w.cell? ⟨w.heap.size, 2, none⟩ = some (.int .u64 (a2 : Nat)) := fun u => u.cell aa2
  have ua3 : ∀ u : After w2, u.w.cell? ⟨w.heap.size, 3, none⟩ = some (.int .u64 (a3 : Nat)) := fun u => u.cell aa3
  have ub0 : ∀ u : After w2, u.w.cell? ⟨B2, 0, none⟩ = some (.int .u64 (b0 : Nat)) := fun u => u.cell bb0
  have ub1 : ∀ u : After w2, u.w.cell? ⟨B2, 1, none⟩ = some (.int .u64 (b1 : Nat)) := fun u => u.cell bb1
  have ub2 : ∀ u : After w2, u.w.cell? ⟨B2, 2, none⟩ = some (.int .u64 (b2 : Nat)) := fun u => u.cell bb2
  have ub3 : ∀ u : After w2, u.w.cell? ⟨B2, 3, none⟩ = some (.int .u64 (b3 : Nat)) := fun u => u.cell bb3
  have uc0 : ∀ u : After w2, u.w.cell? ⟨B3, 0, none⟩ = some (.int .u64 (c0 : Nat)) := fun u => u.cell cc0
  have uc1 : ∀ u : After w2, u.w.cell? ⟨B3, 1, none⟩ = some (.int .u64 (c1 : Nat)) := fun u => u.cell cc1
  have uc2 : ∀ u : After w2, u.w.cell? ⟨B3, 2, none⟩ = some (.int .u64 (c2 : Nat)) := fun u => u.cell cc2
  have uc3 : ∀ u : After w2, u.w.cell? ⟨B3, 3, none⟩ = some (.int .u64 (c3 : Nat)) := fun u => u.cell cc3
  refine wp_region_after (by kernel_rfl) (by kernel_rfl) ?_
  repeat (go_big_quiet_step ((first | (go_at_call_of 15 ((b0 : Nat) : Int); exact after_call (LBC.out _)) | (go_at_call_of 17 ((a0 : Nat) : Int); exact after_call (NA.out _)) | (go_at_call_of 17 ((b0 : Nat) : Int); exact after_call (NB.out _)) | (go_at_call 21; exact after_call (works_any _)))))
  refine wpQuiet_nil ?_
  rintro _ ⟨u, rfl⟩
  go_wp2_with fail
  go_returns
  exact ⟨rfl, below_step PB.out u.below⟩

set_option maxRecDepth 100000 in
set_option maxHeartbeats 4000000 in
theorem order_gt (a0 a1 a2 a3 b0 b1 b2 b3 c0 c1 c2 c3 : Nat) (w : World) (lab : LessIs a0 a1 a2 a3 b0 b1 b2 b3 false) (lba : LessIs b0 b1 b2 b3 a0 a1 a2 a3 true) (eab : EqIs a0 a1 a2 a3 b0 b1 b2 b3 false) (na nb : Nat) (nA : BitsIs a0 a1 a2 a3 na) (nB : BitsIs b0 b1 b2 b3 nb) (hn : decide (nb ≤ na) = true) :
    Calls Try.prog 8 #[.agg #[.int .u64 (a0 : Nat), .int .u64 (a1 : Nat), .int .u64 (a2 : Nat), .int .u64 (a3 : Nat)], .agg #[.int .u64 (b0 : Nat), .int .u64 (b1 : Nat), .int .u64 (b2 : Nat), .int .u64 (b3 : Nat)], .agg #[.int .u64 (c0 : Nat), .int .u64 (c1 : Nat), .int .u64 (c2 : Nat), .int .u64 (c3 : Nat)]] w fun e w' => e = .returned (.bool true) ∧ Below w.heap.size w w' := by
  have LAB := Lib.hid lab
  have LBA := Lib.hid lba
  clear lab lba
  unfold EqIs at eab
  have NA := Lib.hid nA
  have NB := Lib.hid nB
  clear nA nB
  go_enter Try.func8, Try.ntmps8
  go_wp2_with fail
  refine (LAB.out _).mono ?_
  rintro e w1 ⟨rfl, h1⟩
  have pb : Below w.heap.size w w1 := by
    refine Below.trans ?_ (h1.mono (by simp; omega))
    go_grown
  have xa : Box w1 (w.heap.size) a0 a1 a2 a3 := ⟨cell_later h1 (by go_cell), cell_later h1 (by go_cell), cell_later h1 (by go_cell), cell_later h1 (by go_cell)⟩
  have xb : Box w1 (w.heap.size + 1) b0 b1 b2 b3 := ⟨cell_later h1 (by go_cell), cell_later h1 (by go_cell), cell_later h1 (by go_cell), cell_later h1 (by go_cell)⟩
  have xc : Box w1 (w.heap.size + 1 + 1) c0 c1 c2 c3 := ⟨cell_later h1 (by go_cell), cell_later h1 (by go_cell), cell_later h1 (by go_cell), cell_later h1 (by go_cell)⟩
  clear h1
  have ya := xa
  have yb := xb
  have yc := xc
  obtain ⟨aa0, aa1, aa2, aa3⟩ := xa
  obtain ⟨bb0, bb1, bb2, bb3⟩ := xb
  obtain ⟨cc0, cc1, cc2, cc3⟩ := xc
  go_wp2_with fail
  refine (LBA.out _).mono ?_
  rintro e w2 ⟨rfl, h2⟩
  have xa := ya.later h2
  have xb := yb.later h2
  have xc := yc.later h2
  have PB := Lib.hid (below_step pb h2)
  clear h2 pb ya yb yc aa0 aa1 aa2 aa3 bb0 bb1 bb2 bb3 cc0 cc1 cc2 cc3
  obtain ⟨aa0, aa1, aa2, aa3⟩ := xa
  obtain ⟨bb0, bb1, bb2, bb3⟩ := xb
  obtain ⟨cc0, cc1, cc2, cc3⟩ := xc
  have la : w.heap.size < w2.heap.size := by have := World.block_lt_of_cell? _ _ aa0; simpa using this
  have lb : w.heap.size + 1 < w2.heap.size := by have := World.block_lt_of_cell? _ _ bb0; simpa using this
  have lc : w.heap.size + 1 + 1 < w2.heap.size := by have := World.block_lt_of_cell? _ _ cc0; simpa using this
  generalize w.heap.size + 1 + 1 = B3 at *
  generalize w.heap.size + 1 = B2 at *
  go_wp2_with fail
  have ua0 : ∀ u : After w2, u.w.cell? ⟨w.heap.size, 0, none⟩ = some (.int .u64 (a0 : Nat)) := fun u => u.cell aa0
  have ua1 : ∀ u : After w2, u.w.cell? ⟨w.heap.size, 1, none⟩ = some (.int .u64 (a1 : Nat)) := fun u => u.cell aa1
  have ua2 : ∀ u : After w2, u.w.cell? ⟨w.heap.size, 2, none⟩ = some (.int .u64 (a2 : Nat)) := fun u => u.cell aa2
  have ua3 : ∀ u : After w2, u.w.cell? ⟨w.heap.size, 3, none⟩ = some (.int .u64 (a3 : Nat)) := fun u => u.cell aa3
  have ub0 : ∀ u : After w2, u.w.cell? ⟨B2, 0, none⟩ = some (.int .u64 (b0 : Nat)) := fun u => u.cell bb0
  have ub1 : ∀ u : After w2, u.w.cell? ⟨B2, 1, none⟩ = some (.int .u64 (b1 : Nat)) := fun u => u.cell bb1
  have ub2 : ∀ u : After w2, u.w.cell? ⟨B2, 2, none⟩ = some (.int .u64 (b2 : Nat)) := fun u => u.cell bb2
  have ub3 : ∀ u : After w2, u.w.cell? ⟨B2, 3, none⟩ = some (.int .u64 (b3 : Nat)) := fun u => u.cell bb3
  have uc0 : ∀ u : After w2, u.w.cell? ⟨B3, 0, none⟩ = some (.int .u64 (c0 : Nat)) := fun u => u.cell cc0
  have uc1 : ∀ u : After w2, u.w.cell? ⟨B3, 1, none⟩ = some (.int .u64 (c1 : Nat)) := fun u => u.cell cc1
  have uc2 : ∀ u : After w2, u.w.cell? ⟨B3, 2, none⟩ = some (.int .u64 (c2 : Nat)) := fun u => u.cell cc2
  have uc3 : ∀ u : After w2, u.w.cell? ⟨B3, 3, none⟩ = some (.int .u64 (c3 : Nat)) := fun u => u.cell cc3
  refine wp_region_after (by kernel_rfl) (by kernel_rfl) ?_
  repeat (go_big_quiet_step ((first | (go_at_call_of 17 ((a0 : Nat) : Int); exact after_call (NA.out _)) | (go_at_call_of 17 ((b0 : Nat) : Int); exact after_call (NB.out _)) | (go_at_call 21; exact after_call (works_any _)))))
  refine wpQuiet_nil ?_
  rintro _ ⟨u, rfl⟩
  go_wp2_with fail
  go_returns
  exact ⟨rfl, below_step PB.out u.below⟩

set_option maxRecDepth 100000 in
set_option maxHeartbeats 4000000 in
theorem order_eq (a0 a1 a2 a3 b0 b1 b2 b3 c0 c1 c2 c3 : Nat) (w : World) (lab : LessIs a0 a1 a2 a3 b0 b1 b2 b3 false) (lba : LessIs b0 b1 b2 b3 a0 a1 a2 a3 false) (eab : EqIs a0 a1 a2 a3 b0 b1 b2 b3 true) (na nb : Nat) (nA : BitsIs a0 a1 a2 a3 na) (nB : BitsIs b0 b1 b2 b3 nb) (hn : decide (nb ≤ na) = true) :
    Calls Try.prog 8 #[.agg #[.int .u64 (a0 : Nat), .int .u64 (a1 : Nat), .int .u64 (a2 : Nat), .int .u64 (a3 : Nat)], .agg #[.int .u64 (b0 : Nat), .int .u64 (b1 : Nat), .int .u64 (b2 : Nat), .int .u64 (b3 : Nat)], .agg #[.int .u64 (c0 : Nat), .int .u64 (c1 : Nat), .int .u64 (c2 : Nat), .int .u64 (c3 : Nat)]] w fun e w' => e = .returned (.bool true) ∧ Below w.heap.size w w' := by
  have LAB := Lib.hid lab
  have LBA := Lib.hid lba
  clear lab lba
  unfold EqIs at eab
  have NA := Lib.hid nA
  have NB := Lib.hid nB
  clear nA nB
  go_enter Try.func8, Try.ntmps8
  go_wp2_with fail
  refine (LAB.out _).mono ?_
  rintro e w1 ⟨rfl, h1⟩
  have pb : Below w.heap.size w w1 := by
    refine Below.trans ?_ (h1.mono (by simp; omega))
    go_grown
  have xa : Box w1 (w.heap.size) a0 a1 a2 a3 := ⟨cell_later h1 (by go_cell), cell_later h1 (by go_cell), cell_later h1 (by go_cell), cell_later h1 (by go_cell)⟩
  have xb : Box w1 (w.heap.size + 1) b0 b1 b2 b3 := ⟨cell_later h1 (by go_cell), cell_later h1 (by go_cell), cell_later h1 (by go_cell), cell_later h1 (by go_cell)⟩
  have xc : Box w1 (w.heap.size + 1 + 1) c0 c1 c2 c3 := ⟨cell_later h1 (by go_cell), cell_later h1 (by go_cell), cell_later h1 (by go_cell), cell_later h1 (by go_cell)⟩
  clear h1
  have ya := xa
  have yb := xb
  have yc := xc
  obtain ⟨aa0, aa1, aa2, aa3⟩ := xa
  obtain ⟨bb0, bb1, bb2, bb3⟩ := xb
  obtain ⟨cc0, cc1, cc2, cc3⟩ := xc
  go_wp2_with fail
  refine (LBA.out _).mono ?_
  rintro e w2 ⟨rfl, h2⟩
  have xa := ya.later h2
  have xb := yb.later h2
  have xc := yc.later h2
  have PB := Lib.hid (below_step pb h2)
  clear h2 pb ya yb yc aa0 aa1 aa2 aa3 bb0 bb1 bb2 bb3 cc0 cc1 cc2 cc3
  obtain ⟨aa0, aa1, aa2, aa3⟩ := xa
  obtain ⟨bb0, bb1, bb2, bb3⟩ := xb
  obtain ⟨cc0, cc1, cc2, cc3⟩ := xc
  have la : w.heap.size < w2.heap.size := by have := World.block_lt_of_cell? _ _ aa0; simpa using this
  have lb : w.heap.size + 1 < w2.heap.size := by have := World.block_lt_of_cell? _ _ bb0; simpa using this
  have lc : w.heap.size + 1 + 1 < w2.heap.size := by have := World.block_lt_of_cell? _ _ cc0; simpa using this
  generalize w.heap.size + 1 + 1 = B3 at *
  generalize w.heap.size + 1 = B2 at *
  go_wp2_with fail
  have ua0 : ∀ u : After w2, u.w.cell? ⟨w.heap.size, 0, none⟩ = some (.int .u64 (a0 : Nat)) := fun u => u.cell aa0
  have ua1 : ∀ u : After w2, u.w.cell? ⟨w.heap.size, 1, none⟩ = some (.int .u64 (a1 : Nat)) := fun u => u.cell aa1
  have ua2 : ∀ u : After w2, u.w.cell? ⟨w.heap.size, 2, none⟩ = some (.int .u64 (a2 : Nat)) := fun u => u.cell aa2
  have ua3 : ∀ u : After w2, u.w.cell? ⟨w.heap.size, 3, none⟩ = some (.int .u64 (a3 : Nat)) := fun u => u.cell aa3
  have ub0 : ∀ u : After w2, u.w.cell? ⟨B2, 0, none⟩ = some (.int .u64 (b0 : Nat)) := fun u => u.cell bb0
  have ub1 : ∀ u : After w2, u.w.cell? ⟨B2, 1, none⟩ = some (.int .u64 (b1 : Nat)) := fun u => u.cell bb1
  have ub2 : ∀ u : After w2, u.w.cell? ⟨B2, 2, none⟩ = some (.int .u64 (b2 : Nat)) := fun u => u.cell bb2
  have ub3 : ∀ u : After w2, u.w.cell? ⟨B2, 3, none⟩ = some (.int .u64 (b3 : Nat)) := fun u => u.cell bb3
  have uc0 : ∀ u : After w2, u.w.cell? ⟨B3, 0, none⟩ = some (.int .u64 (c0 : Nat)) := fun u => u.cell cc0
  have uc1 : ∀ u : After w2, u.w.cell? ⟨B3, 1, none⟩ = some (.int .u64 (c1 : Nat)) := fun u => u.cell cc1
  have uc2 : ∀ u : After w2, u.w.cell? ⟨B3, 2, none⟩ = some (.int .u64 (c2 : Nat)) := fun u => u.cell cc2
  have uc3 : ∀ u : After w2, u.w.cell? ⟨B3, 3, none⟩ = some (.int .u64 (c3 : Nat)) := fun u => u.cell cc3
  refine wp_region_after (by kernel_rfl) (by kernel_rfl) ?_
  repeat (go_big_quiet_step ((first | (go_at_call_of 17 ((a0 : Nat) : Int); exact after_call (NA.out _)) | (go_at_call_of 17 ((b0 : Nat) : Int); exact after_call (NB.out _)) | (go_at_call 21; exact after_call (works_any _)))))
  refine wpQuiet_nil ?_
  rintro _ ⟨u, rfl⟩
  go_wp2_with fail
  go_returns
  exact ⟨rfl, below_step PB.out u.below⟩


end Go.Proofs.Ytcjggdoopehkpaa
