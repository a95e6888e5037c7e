/- The reference's Fold of a branch that is too long, or of a number that does not go with it. No condition. -/
import Derived.Test.YtdenibigefchpaaDoorRefFold
namespace Go.Proofs.YtdenibigefchpaaDoor
open Go.RowKit

set_option maxRecDepth 100000 in
set_option maxHeartbeats 1000000 in
theorem refFold_many {A : Option Addr} {n c : Nat} {k : Int} {x : List Nat} (w : World) (hn : 32 < n) :
    Calls Tryd.prog 20 #[.agg (vals x).toArray, .slice A n c, .int .i64 k] w fun e w' => e = .returned (.tuple #[.agg (vals z32).toArray, .int .i64 6]) ∧ Below w.heap.size w w' := by
  have z1 := (Below.refl w.heap.size w).alloc (Nat.le_refl _) (.cells (vals x).toArray 24)
  have HB := Lib.hid (z1.alloc z1.size (.cells (vals z32).toArray 24))
  have r2 := Ro.new (w.alloc (.cells (vals x).toArray 24)) 24 (vals z32)
  rw [World.size_alloc] at r2
  have R2 := Lib.hid r2
  have lz := Lib.hid (show (vals z32).length = 32 by rw [vals_length]; exact z32_ok.1)
  have t1 : decide ((32 : Int) < (n : Int)) = true := decide_eq_true (by omega)
  clear z1 r2
  go_enter Tryd.func20, Tryd.ntmps20
  go_wp2_with (refine wpList_store_ro (vs := vals z32) rfl (.tmp 6) (.tmp 13) rfl rfl rfl row26 R2.out lz.out lz.out (vals_one _) ?_)
  intro w7 R7 g7
  go_wp2_with fail
  exact bodyPost_ret (results_ro2 Tryd.results20 _ rfl row26 R7 lz.out rfl) rfl ⟨rfl, HB.out.grown g7 HB.out.size (fun q e => by injection e; omega)⟩

set_option maxRecDepth 100000 in
set_option maxHeartbeats 1000000 in
theorem refFold_neg {A : Option Addr} {n c : Nat} {k : Int} {x : List Nat} (w : World) (hn : n ≤ 32) (hk : k < 0) :
    Calls Tryd.prog 20 #[.agg (vals x).toArray, .slice A n c, .int .i64 k] w fun e w' => e = .returned (.tuple #[.agg (vals z32).toArray, .int .i64 1]) ∧ Below w.heap.size w w' := by
  have z1 := (Below.refl w.heap.size w).alloc (Nat.le_refl _) (.cells (vals x).toArray 24)
  have HB := Lib.hid (z1.alloc z1.size (.cells (vals z32).toArray 24))
  have r2 := Ro.new (w.alloc (.cells (vals x).toArray 24)) 24 (vals z32)
  rw [World.size_alloc] at r2
  have R2 := Lib.hid r2
  have lz := Lib.hid (show (vals z32).length = 32 by rw [vals_length]; exact z32_ok.1)
  have t1 : decide ((32 : Int) < (n : Int)) = false := decide_eq_false (by omega)
  have t2 : decide (k < 0) = true := decide_eq_true hk
  clear z1 r2
  go_enter Tryd.func20, Tryd.ntmps20
  go_wp2_with (refine wpList_store_ro (vs := vals z32) rfl (.tmp 6) (.tmp 24) rfl rfl rfl row26 R2.out lz.out lz.out (vals_one _) ?_)
  intro w7 R7 g7
  go_wp2_with fail
  exact bodyPost_ret (results_ro2 Tryd.results20 _ rfl row26 R7 lz.out rfl) rfl ⟨rfl, HB.out.grown g7 HB.out.size (fun q e => by injection e; omega)⟩

set_option maxRecDepth 100000 in
set_option maxHeartbeats 1000000 in
theorem refFold_far {A : Option Addr} {n c : Nat} {k : Int} {x : List Nat} (w : World) (hn : n ≤ 32) (hk : ¬ k < 0) (hq : 0 < k / 2 ^ n) :
    Calls Tryd.prog 20 #[.agg (vals x).toArray, .slice A n c, .int .i64 k] w fun e w' => e = .returned (.tuple #[.agg (vals z32).toArray, .int .i64 1]) ∧ Below w.heap.size w w' := by
  have z1 := (Below.refl w.heap.size w).alloc (Nat.le_refl _) (.cells (vals x).toArray 24)
  have HB := Lib.hid (z1.alloc z1.size (.cells (vals z32).toArray 24))
  have r2 := Ro.new (w.alloc (.cells (vals x).toArray 24)) 24 (vals z32)
  rw [World.size_alloc] at r2
  have R2 := Lib.hid r2
  have lz := Lib.hid (show (vals z32).length = 32 by rw [vals_length]; exact z32_ok.1)
  have t1 : decide ((32 : Int) < (n : Int)) = false := decide_eq_false (by omega)
  have t2 : decide (k < 0) = false := decide_eq_false hk
  have t3 : decide (0 < k / 2 ^ n) = true := decide_eq_true hq
  clear z1 r2
  go_enter Tryd.func20, Tryd.ntmps20
  go_wp2_with (refine wpList_store_ro (vs := vals z32) rfl (.tmp 6) (.tmp 24) rfl rfl rfl row26 R2.out lz.out lz.out (vals_one _) ?_)
  intro w7 R7 g7
  go_wp2_with fail
  exact bodyPost_ret (results_ro2 Tryd.results20 _ rfl row26 R7 lz.out rfl) rfl ⟨rfl, HB.out.grown g7 HB.out.size (fun q e => by injection e; omega)⟩
end Go.Proofs.YtdenibigefchpaaDoor
