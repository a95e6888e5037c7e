/- Whether two lists of hashes are the same: the reference's Same. No condition but a bound on how many. -/
import Derived.Test.YtdenibigefchpaaDoorRefRoot
namespace Go.Proofs.YtdenibigefchpaaDoor
open Go.RowKit

set_option maxRecDepth 100000 in
set_option maxHeartbeats 2000000 in
theorem same_any {A B : Option Addr} {n m c d : Nat} {l k : List (List Nat)} (w : World) (hn : n ≤ 1000000) (hm : m ≤ 1000000) (hL : Gs w A n l) (hK : Gs w B m k) : Calls Tryd.prog 16 #[.slice A n c, .slice B m d] w fun e w' => e = .returned (.bool (decide (l = k))) ∧ Below w.heap.size w w' := by
  have HL := Lib.hid hL
  have HK := Lib.hid hK
  have HN := Lib.hid hL.len
  have HM := Lib.hid hK.len
  clear hL hK
  by_cases hnm : n = m
  · subst hnm
    go_enter Tryd.func16, Tryd.ntmps16
    go_wp2_with fail
    go_loopw [5] (fun i wr => ∃ j : Nat, j ≤ n ∧ i = .int .i64 (j : Nat) ∧ (∀ q, q < j → nt l q = nt k q) ∧ Below w.heap.size w wr) (fun i _ => n - (intOf i).toNat)
    case atStart => exact ⟨0, by omega, rfl, fun q hq => absurd hq (by omega), Below.refl _ _⟩
    case round =>
      obtain ⟨j, hj, rfl, hs, bel⟩ := hrel
      have HS := Lib.hid hs
      have HB := Lib.hid bel
      clear hs bel
      by_cases hlt : j < n
      · obtain ⟨b, o, rfl, hb, _⟩ := HL.out.cel (by omega)
        obtain ⟨b2, o2, rfl, hb2, _⟩ := HK.out.cel (by omega)
        have ad := add_at b o
        have ad2 := add_at b2 o2
        have R1 := Lib.hid (((HL.out.later HB.out).at_ hlt).2)
        have R2 := Lib.hid (((HK.out.later HB.out).at_ hlt).2)
        have ok1 := Lib.hid (nt_ok HL.out.ok (k := j) (by rw [HN.out]; exact hlt))
        have ok2 := Lib.hid (nt_ok HK.out.ok (k := j) (by rw [HM.out]; exact hlt))
        have l1 := Lib.hid ((show (vals (nt l j)).length = 32 by rw [vals_length]; exact ok1.out.1))
        have l2 := Lib.hid ((show (vals (nt k j)).length = 32 by rw [vals_length]; exact ok2.out.1))
        have hb1' : Hid (b < wr.heap.size) := Lib.hid (Nat.lt_of_lt_of_le hb HB.out.size)
        have hb2' : Hid (b2 < wr.heap.size) := Lib.hid (Nat.lt_of_lt_of_le hb2 HB.out.size)
        have EQ := fun w => eq_hash ok1.out.1 ok2.out.1 w
        obtain ⟨h, e1⟩ : ∃ h, nt l j = h := ⟨_, rfl⟩
        obtain ⟨g, e2⟩ : ∃ g, nt k j = g := ⟨_, rfl⟩
        rw [e1] at R1 ok1 l1
        rw [e2] at R2 ok2 l2
        rw [e1, e2] at EQ
        have E1 := Lib.hid e1
        have E2 := Lib.hid e2
        clear e1 e2 hb hb2
        by_cases hhg : h = g
        · have HG := Lib.hid hhg
          rw [eqB_yes hhg] at EQ
          clear hhg
          go_wp2_with fail
          refine wp_region_after (by kernel_rfl) (by kernel_rfl) ?_
          repeat (go_big_quiet_step (fail))
          go_big_quiet_want
          refine quiet_load_part (.tmp 19) rfl rfl row26 (fun w9 h9 => by obtain ⟨u, rfl⟩ := h9; exact range_later R1.out hb1'.out u.below) l1.out ?_
          simp only [Act.put, List.setIfInBounds_toArray, List.set_cons_succ, List.set_cons_zero]
          go_big_quiet_on
          repeat (go_big_quiet_step (fail))
          go_big_quiet_want
          refine quiet_load_part (.tmp 23) rfl rfl row26 (fun w9 h9 => by obtain ⟨u, rfl⟩ := h9; exact range_later R2.out hb2'.out u.below) l2.out ?_
          simp only [Act.put, List.setIfInBounds_toArray, List.set_cons_succ, List.set_cons_zero]
          go_big_quiet_on
          repeat (go_big_quiet_step (fail))
          refine wpQuiet_nil ?_
          rintro wz ⟨u, rfl⟩
          have Bz := Lib.hid (HB.out.trans (u.below.mono HB.out.size))
          go_wp2_with fail
          exact ⟨⟨j + 1, by omega, by go_num, fun q hq => by
            rcases (by omega : q < j ∨ q = j) with e | rfl
            · exact HS.out q e
            · rw [E1.out, E2.out, HG.out], Bz.out⟩, by simp [intOf]; omega⟩
        · have HG := Lib.hid hhg
          rw [eqB_no hhg] at EQ
          clear hhg
          go_wp2_with fail
          refine wp_region_after (by kernel_rfl) (by kernel_rfl) ?_
          repeat (go_big_quiet_step (fail))
          go_big_quiet_want
          refine quiet_load_part (.tmp 19) rfl rfl row26 (fun w9 h9 => by obtain ⟨u, rfl⟩ := h9; exact range_later R1.out hb1'.out u.below) l1.out ?_
          simp only [Act.put, List.setIfInBounds_toArray, List.set_cons_succ, List.set_cons_zero]
          go_big_quiet_on
          repeat (go_big_quiet_step (fail))
          go_big_quiet_want
          refine quiet_load_part (.tmp 23) rfl rfl row26 (fun w9 h9 => by obtain ⟨u, rfl⟩ := h9; exact range_later R2.out hb2'.out u.below) l2.out ?_
          simp only [Act.put, List.setIfInBounds_toArray, List.set_cons_succ, List.set_cons_zero]
          go_big_quiet_on
          repeat (go_big_quiet_step (fail))
          refine wpQuiet_nil ?_
          rintro wz ⟨u, rfl⟩
          have Bz := Lib.hid (HB.out.trans (u.below.mono HB.out.size))
          go_wp2_with fail
          go_ret
          exact ⟨by rw [decide_eq_false (fun e => HG.out (by rw [← E1.out, ← E2.out, e]) : ¬ l = k)]; rfl, Bz.out⟩
      · go_wp2_with fail
        go_ret
        exact ⟨by rw [decide_eq_true (nt_ext (by rw [HN.out, HM.out]) fun q hq => HS.out q (by rw [HN.out] at hq; omega) : l = k)]; rfl, HB.out⟩
  · have t1 : ((n : Int) != (m : Int)) = true := by rw [bne_iff_ne]; omega
    go_enter Tryd.func16, Tryd.ntmps16
    go_wp2_with fail
    go_ret
    exact ⟨by rw [decide_eq_false (fun e => hnm (by rw [← HN.out, ← HM.out, e]) : ¬ l = k)]; rfl, Below.refl _ _⟩
end Go.Proofs.YtdenibigefchpaaDoor
