/- MerkleRoots: the root of hashes, each branch, and whether they are doubled. No condition but that the tables lie as laid. -/
import Derived.Test.YtdenibigefchpaaDoorBrAll
namespace Go.Proofs.YtdenibigefchpaaDoor
open Go.RowKit

set_option maxRecDepth 100000 in
set_option maxHeartbeats 8000000 in
theorem roots_law {A : Option Addr} {n c : Nat} {l : List (List Nat)} {k : Int} {x y : List Nat} {w : World} (_ : n ≤ c) (_ : c ≤ 9223372036854775807) (hl : Gs w A n l) (_ : -9223372036854775808 ≤ k ∧ k ≤ 9223372036854775807) (ox : x.length = 32 ∧ AllB x) (oy : y.length = 32 ∧ AllB y) (hLd : Laid w) :
    Calls Tryd.prog 3 #[.slice A n c, .int .i64 k, .agg (vals x).toArray, .agg (vals y).toArray] w fun e w' => e = .returned (.bool true) ∧ Below w.heap.size w w' := by
  have HD := Lib.hid hLd
  have HL := Lib.hid hl
  have OX := Lib.hid ox
  have OY := Lib.hid oy
  have b1 := (Below.refl w.heap.size w).alloc (Nat.le_refl _) (.cells (vals x).toArray 24)
  have B0 := Lib.hid (b1.alloc b1.size (.cells (vals y).toArray 24))
  have RX := Lib.hid ((Ro.new w 24 (vals x)).alloc (.cells (vals y).toArray 24))
  have ry := Ro.new (w.alloc (.cells (vals x).toArray 24)) 24 (vals y)
  rw [World.size_alloc] at ry
  have RY := Lib.hid ry
  clear hLd hl ox oy b1 ry
  have fin : ∀ w1, Below w.heap.size w w1 → Calls Tryd.prog 9 #[] w1 fun e w' => e = .returned (.bool true) ∧ Below w.heap.size w w' := fun w1 b => (works_any w1 (HD.out.later HD.out.lt b)).mono fun e w' ⟨h1, h2⟩ => ⟨h1, b.trans (h2.mono b.size)⟩
  have FIN := Lib.hid fin
  clear fin
  go_enter Tryd.func3, Tryd.ntmps3
  by_cases hn : 300 < n
  · have t0 : decide ((300 : Int) < (n : Int)) = true := decide_eq_true (by omega)
    go_wp2_with fail
    refine (FIN.out _ B0.out).mono ?_
    rintro e w1 ⟨rfl, hb⟩
    have HB := Lib.hid hb
    clear hb
    go_wp2_with fail
    go_ret
    exact ⟨rfl, HB.out⟩
  have t0 : decide ((300 : Int) < (n : Int)) = false := decide_eq_false (by omega)
  have LS : Hid ((brS l k).length ≤ 20) := Lib.hid (brS_len (by rw [HL.out.len]; omega))
  have CB := Lib.hid (fun w1 (b : Below w.heap.size w w1) => branchC_any (c := c) (k := k) w1 (HD.out.later HD.out.lt b) (by omega) (HL.out.later b))
  have CX := Lib.hid (fun w1 (b : Below w.heap.size w w1) => refBranchC_any (c := c) (k := k) w1 (by omega) (HL.out.later b))
  obtain ⟨S, hS⟩ : ∃ S, brS l k = S := ⟨_, rfl⟩
  obtain ⟨E, hE⟩ : ∃ E, brE l k = E := ⟨_, rfl⟩
  rw [hS, hE] at CB CX
  rw [hS] at LS
  clear hS hE
  go_wp2_with fail
  refine (CB.out _ B0.out).mono ?_
  rintro e w1 ⟨A1, m1, d1, rfl, gs1, hb⟩
  have B1 := Lib.hid (B0.out.trans (hb.mono B0.out.size))
  have RX1 := Lib.hid (RX.out.later hb)
  have RY1 := Lib.hid (RY.out.later hb)
  have G1 := Lib.hid gs1
  have m20 : m1 ≤ 20 := by have := G1.out.len; have := LS.out; omega
  clear hb gs1 B0 RX RY CB
  go_wp2_with fail
  refine (CX.out _ B1.out).mono ?_
  rintro e w2 ⟨A2, m2, d2, rfl, gs2, hb⟩
  have B2 := Lib.hid (B1.out.trans (hb.mono B1.out.size))
  have RX2 := Lib.hid (RX1.out.later hb)
  have RY2 := Lib.hid (RY1.out.later hb)
  have G2 := Lib.hid (G1.out.later hb)
  have K2 := Lib.hid gs2
  have n20 : m2 ≤ 20 := by have := K2.out.len; have := LS.out; omega
  clear hb gs2 B1 RX1 RY1 G1 CX
  have lx := Lib.hid (show (vals x).length = 32 by rw [vals_length]; exact OX.out.1)
  have ly := Lib.hid (show (vals y).length = 32 by rw [vals_length]; exact OY.out.1)
  have bu : ∀ u : After w2, Below w.heap.size w u.w := fun u => B2.out.trans (u.below.mono B2.out.size)
  have CJ : Hid (∀ u : After w2, Calls Tryd.prog 12 #[.agg (vals x).toArray, .agg (vals y).toArray] u.w fun e w' => e = .returned (.agg (vals (joinS x y)).toArray) ∧ Below u.w.heap.size u.w w') := Lib.hid (fun u => join_any OX.out OY.out u.w (HD.out.later HD.out.lt (bu u)))
  have CK : Hid (∀ u : After w2, Calls Tryd.prog 13 #[.agg (vals x).toArray, .agg (vals y).toArray] u.w fun e w' => e = .returned (.agg (vals (joinS x y)).toArray) ∧ Below u.w.heap.size u.w w') := Lib.hid (fun u => refJoin_any OX.out OY.out u.w)
  have CR : Hid (∀ u : After w2, Calls Tryd.prog 14 #[.slice A n c] u.w fun e w' => e = .returned (.agg (vals (root joinS z32 l)).toArray) ∧ Below u.w.heap.size u.w w') := Lib.hid (fun u => root_any u.w (HD.out.later HD.out.lt (bu u)) (by omega) (HL.out.later (bu u)))
  have CQ : Hid (∀ u : After w2, Calls Tryd.prog 15 #[.slice A n c] u.w fun e w' => e = .returned (.agg (vals (root joinS z32 l)).toArray) ∧ Below u.w.heap.size u.w w') := Lib.hid (fun u => refRoot_any u.w (by omega) (HL.out.later (bu u)))
  have CS : Hid (∀ u : After w2, Calls Tryd.prog 16 #[.slice A1 m1 d1, .slice A2 m2 d2] u.w fun e w' => e = .returned (.bool true) ∧ Below u.w.heap.size u.w w') := Lib.hid (fun u => by
    have q := same_any (c := d1) (d := d2) u.w (by omega) (by omega) (G2.out.later u.below) (K2.out.later u.below)
    rw [decide_eq_true rfl] at q
    exact q)
  have CD : Hid (∀ u : After w2, Calls Tryd.prog 17 #[.slice A n c] u.w fun e w' => e = .returned (.bool (twice joinS l)) ∧ Below u.w.heap.size u.w w') := Lib.hid (fun u => doubled_any u.w (HD.out.later HD.out.lt (bu u)) (by omega) (HL.out.later (bu u)))
  have CE : Hid (∀ u : After w2, Calls Tryd.prog 18 #[.slice A n c] u.w fun e w' => e = .returned (.bool (twice joinS l)) ∧ Below u.w.heap.size u.w w') := Lib.hid (fun u => refTwiceD_any u.w (by omega) (HL.out.later (bu u)))
  have CW : Hid (∀ u : After w2, Calls Tryd.prog 9 #[] u.w fun e w' => e = .returned (.bool true) ∧ Below u.w.heap.size u.w w') := Lib.hid (fun u => works_any u.w (HD.out.later HD.out.lt (bu u)))
  have EQJ := eq_same (joinS_ok x y).1
  have EQR := eq_same (root_ok _ l (Nat.le_refl _) HL.out.ok).1
  obtain ⟨I, hI⟩ : ∃ I, joinS x y = I := ⟨_, rfl⟩
  rw [hI] at CJ CK EQJ
  obtain ⟨R, hR⟩ : ∃ R, root joinS z32 l = R := ⟨_, rfl⟩
  rw [hR] at CR CQ EQR
  obtain ⟨T, hT⟩ : ∃ T, twice joinS l = T := ⟨_, rfl⟩
  rw [hT] at CD CE
  have e1 : (E == E) = true := beq_self_eq_true E
  have e2 : (T == T) = true := beq_self_eq_true T
  clear hI hR hT bu
  go_wp2_with fail
  refine wp_region_after (by kernel_rfl) (by kernel_rfl) ?_
  go_big_quiet_want
  refine quiet_load_part (.tmp 6) rfl rfl row26 (fun w9 h9 => by obtain ⟨u, rfl⟩ := h9; exact range_later (rangeOf RX2.out) RX2.out.lt u.below) lx.out ?_
  simp only [Act.put, List.setIfInBounds_toArray, List.set_cons_succ, List.set_cons_zero]
  go_big_quiet_on
  go_big_quiet_want
  refine quiet_load_part (.tmp 7) rfl rfl row26 (fun w9 h9 => by obtain ⟨u, rfl⟩ := h9; exact range_later (rangeOf RY2.out) RY2.out.lt u.below) ly.out ?_
  simp only [Act.put, List.setIfInBounds_toArray, List.set_cons_succ, List.set_cons_zero]
  go_big_quiet_on
  go_big_quiet_step (exact after_call (CJ.out _))
  go_big_quiet_want
  refine quiet_load_part (.tmp 6) rfl rfl row26 (fun w9 h9 => by obtain ⟨u, rfl⟩ := h9; exact range_later (rangeOf RX2.out) RX2.out.lt u.below) lx.out ?_
  simp only [Act.put, List.setIfInBounds_toArray, List.set_cons_succ, List.set_cons_zero]
  go_big_quiet_on
  go_big_quiet_want
  refine quiet_load_part (.tmp 7) rfl rfl row26 (fun w9 h9 => by obtain ⟨u, rfl⟩ := h9; exact range_later (rangeOf RY2.out) RY2.out.lt u.below) ly.out ?_
  simp only [Act.put, List.setIfInBounds_toArray, List.set_cons_succ, List.set_cons_zero]
  go_big_quiet_on
  go_big_quiet_step (exact after_call (CK.out _))
  repeat (go_big_quiet_step (fail))
  go_big_quiet_step (exact after_call (CR.out _))
  repeat (go_big_quiet_step (fail))
  go_big_quiet_step (exact after_call (CQ.out _))
  repeat (go_big_quiet_step (fail))
  go_big_quiet_step (exact after_call (CS.out _))
  repeat (go_big_quiet_step (fail))
  go_big_quiet_step (exact after_call (CD.out _))
  repeat (go_big_quiet_step (fail))
  go_big_quiet_step (exact after_call (CE.out _))
  repeat (go_big_quiet_step (fail))
  go_big_quiet_step (exact after_call (CW.out _))
  repeat (go_big_quiet_step (fail))
  refine wpQuiet_nil ?_
  rintro wz ⟨u, rfl⟩
  have BZ := Lib.hid (B2.out.trans (u.below.mono B2.out.size))
  go_wp2_with fail
  go_ret
  exact ⟨rfl, BZ.out⟩
end Go.Proofs.YtdenibigefchpaaDoor
