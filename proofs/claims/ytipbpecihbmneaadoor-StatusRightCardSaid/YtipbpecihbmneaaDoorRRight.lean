/- Whether a history may be, as the reference says it. No condition but a bound on the length. -/
import Derived.Test.YtipbpecihbmneaaDoorEs
import Derived.Test.YtipbpecihbmneaaDoorEq
import Derived.Test.YtipbpecihbmneaaDoorTextR
namespace Go.Proofs.YtipbpecihbmneaaDoor
open Go.RowKit

open Classical in
theorem rightB_yes {l : List En} (h : Right l) : rightB l = true := decide_eq_true h
open Classical in
theorem rightB_no {l : List En} (h : ¬ Right l) : rightB l = false := decide_eq_false h
theorem right_take {l : List En} (h : Right l) (k : Nat) : Right (l.take k) := h.sub (List.take_sublist _ _)
theorem mem_take_nth {l : List En} {j k : Nat} (hj : j < k) (hk : k ≤ l.length) : nthE l j ∈ l.take k := by
  have h1 : j < (l.take k).length := by rw [List.length_take]; omega
  have := List.getElem_mem h1
  rwa [nthE_get h1, nthE_take hj] at this
/-- One more may be behind what may be. -/
theorem right_next {l : List En} {k : Nat} {e : En} (hk : k < l.length) (he : nthE l k = e) (h : Right (l.take k)) (h1 : 1 ≤ e.h) (h2 : 0 < k → (nthE l (k - 1)).h ≤ e.h) (h3 : ∀ j, j < k → (nthE l j).tx ≠ e.tx) : Right (l.take (k + 1)) := by
  rw [take_nthE hk, he]
  refine right_snoc.2 ⟨h, h1, fun a ha => ?_, fun a ha => ?_⟩
  · have h0 : 0 < k := by
      rcases Nat.eq_zero_or_pos k with rfl | q
      · simp at ha
      · exact q
    obtain ⟨j, rfl⟩ : ∃ j, k = j + 1 := ⟨k - 1, by omega⟩
    rw [take_nthE (by omega)] at h ha
    exact Int.le_trans (right_last h a ha) (h2 h0)
  · obtain ⟨j, hj, e2⟩ := List.getElem_of_mem ha
    rw [List.length_take] at hj
    have := h3 j (by omega)
    rwa [← nthE_take (k := k) (by omega), ← nthE_get (by rw [List.length_take]; omega), e2] at this
theorem not_low {l : List En} {k : Nat} (hk : k < l.length) (h : (nthE l k).h < 1) : ¬ Right l := fun q => by
  have := q.one _ (List.mem_of_mem_take (mem_take_nth (l := l) (j := k) (k := k + 1) (by omega) (by omega)))
  omega
theorem not_down {l : List En} {k : Nat} (hk : k + 1 < l.length) (h : (nthE l (k + 1)).h < (nthE l k).h) : ¬ Right l := fun q => by
  have r := right_take q (k + 2)
  rw [take_nthE (by omega)] at r
  have := (right_snoc.1 r).2.2.1 _ (mem_take_nth (l := l) (j := k) (k := k + 1) (by omega) (by omega))
  omega
theorem not_twice {l : List En} {j k : Nat} (hj : j < k) (hk : k < l.length) (h : (nthE l j).tx = (nthE l k).tx) : ¬ Right l := fun q => by
  have r := right_take q (k + 1)
  rw [take_nthE (by omega)] at r
  exact (right_snoc.1 r).2.2.2 _ (mem_take_nth hj (by omega)) h

set_option maxRecDepth 100000 in
set_option maxHeartbeats 4000000 in
theorem refRight_any {A : Option Addr} {n c : Nat} {l : List En} (w : World) (hn : n ≤ 1000000) (hL : Es w A n l) : Calls Tryd.prog 10 #[.slice A n c] w fun e w' => e = .returned (.bool (rightB l)) ∧ Below w.heap.size w w' := by
  have HL := Lib.hid hL
  have HN := Lib.hid hL.len
  clear hL
  go_enter Tryd.func10, Tryd.ntmps10
  go_wp2_with fail
  go_loopw [3] (fun i wr => ∃ k : Nat, k ≤ n ∧ i = .int .i64 (k : Nat) ∧ Right (l.take k) ∧ Below w.heap.size w wr) (fun i _ => n - (intOf i).toNat)
  case atStart => exact ⟨0, Nat.zero_le _, rfl, Right.nil, Below.refl _ _⟩
  case round =>
    obtain ⟨k, hk, rfl, hr, bel⟩ := hrel
    have HB := Lib.hid bel
    have HR := Lib.hid hr
    clear bel hr
    by_cases hlt : k < n
    · have t1 : decide ((k : Int) < (n : Int)) = true := decide_eq_true (by omega)
      have hlt' : Hid (k < l.length) := Lib.hid (by rw [HN.out]; exact hlt)
      obtain ⟨b, o, rfl, hb, _⟩ := HL.out.cel (by omega)
      have ad := add_at b o
      have R1 := Lib.hid (((HL.out.later HB.out).at_ hlt).2)
      have ok1 := Lib.hid (nthE_ok HL.out.ok k)
      obtain ⟨e, he⟩ : ∃ e, nthE l k = e := ⟨_, rfl⟩
      rw [he] at R1 ok1
      have HE := Lib.hid he
      have c1 := Lib.hid (cell_h R1.out)
      have bh := ok1.out.1
      obtain ⟨hh, hhh⟩ : ∃ z : Int, e.h = z := ⟨_, rfl⟩
      rw [hhh] at c1 bh
      have HH := Lib.hid hhh
      have cu : ∀ u : After wr, u.w.cell? ⟨b, o + k * 33, none⟩ = some (.int .i64 hh) := fun u => u.cell c1.out
      clear he hhh hb
      by_cases h1 : hh < 1
      · have t2 : decide (hh < 1) = true := decide_eq_true h1
        go_wp2_with fail
        refine wp_region_after (by kernel_rfl) (by kernel_rfl) ?_
        repeat (go_big_quiet_step (fail))
        refine wpQuiet_nil ?_
        rintro wz ⟨u, rfl⟩
        have Bz := Lib.hid (HB.out.trans (u.below.mono HB.out.size))
        clear cu
        go_wp2_with fail
        go_ret
        exact ⟨by rw [rightB_no (not_low hlt'.out (by rw [HE.out, HH.out]; exact h1))]; rfl, Bz.out⟩
      have t2 : decide (hh < 1) = false := decide_eq_false h1
      by_cases h0 : 0 < k
      · have t3 : decide ((0 : Int) < (k : Int)) = true := decide_eq_true (by omega)
        obtain ⟨p, rfl⟩ : ∃ p, k = p + 1 := ⟨k - 1, by omega⟩
        have y1 : IntKind.i64.wrap (((p + 1 : Nat) : Int) - 1) = (p : Int) := by rw [IntWalk.i64_in _ (by omega)]; omega
        have R0 := Lib.hid (((HL.out.later HB.out).at_ (k := p) (by omega)).2)
        have ok0 := Lib.hid (nthE_ok HL.out.ok p)
        have c2 := Lib.hid (cell_h R0.out)
        have bg := ok0.out.1
        obtain ⟨g, hg⟩ : ∃ z : Int, (nthE l p).h = z := ⟨_, rfl⟩
        rw [hg] at c2 bg
        have HG := Lib.hid hg
        have cu2 : ∀ u : After wr, u.w.cell? ⟨b, o + p * 33, none⟩ = some (.int .i64 g) := fun u => u.cell c2.out
        clear hg
        by_cases h2 : hh < g
        · have t4 : decide (hh < g) = true := decide_eq_true h2
          go_wp2_with fail
          refine wp_region_after (by kernel_rfl) (by kernel_rfl) ?_
          repeat (go_big_quiet_step (fail))
          refine wpQuiet_nil ?_
          rintro wz ⟨u, rfl⟩
          have Bz := Lib.hid (HB.out.trans (u.below.mono HB.out.size))
          clear cu
          go_wp2_with fail
          go_ret
          exact ⟨by rw [rightB_no (not_down hlt'.out (by rw [HE.out, HG.out, HH.out]; exact h2))]; rfl, Bz.out⟩
        · have t4 : decide (hh < g) = false := decide_eq_false h2
          go_wp2_with fail
          refine wp_region_after (by kernel_rfl) (by kernel_rfl) ?_
          repeat (go_big_quiet_step (fail))
          refine wpQuiet_nil ?_
          rintro wz ⟨u, rfl⟩
          have Bz := Lib.hid (HB.out.trans (u.below.mono HB.out.size))
          have H2 : Hid (0 < (p + 1) → (nthE l ((p + 1) - 1)).h ≤ e.h) := Lib.hid (fun _ => by rw [show p + 1 - 1 = p from rfl, HG.out, HH.out]; omega)
          clear cu
          go_wp2_with fail
          go_loopw [4] (fun i wr => ∃ j : Nat, j ≤ (p + 1) ∧ i = .int .i64 (j : Nat) ∧ (∀ i, i < j → (nthE l i).tx ≠ e.tx) ∧ Below w.heap.size w wr) (fun i _ => (p + 1) - (intOf i).toNat)
          case atStart => exact ⟨0, Nat.zero_le _, rfl, (fun i hi => by omega), Bz.out⟩
          case round =>
            clear Bz
            obtain ⟨j, hj, rfl, hd, bel⟩ := hrel
            have HDj := Lib.hid hd
            have Bj := Lib.hid bel
            clear hd bel
            by_cases hjk : j < (p + 1)
            · have t5 : decide ((j : Int) < (((p + 1) : Nat) : Int)) = true := decide_eq_true (by omega)
              have Rj := Lib.hid (((HL.out.later Bj.out).at_ (k := j) (by omega)).2)
              have Rk := Lib.hid (((HL.out.later Bj.out).at_ (k := (p + 1)) hlt).2)
              rw [HE.out] at Rk
              have okj := Lib.hid (nthE_ok HL.out.ok j)
              obtain ⟨f, hf⟩ : ∃ f, nthE l j = f := ⟨_, rfl⟩
              rw [hf] at Rj okj
              have HF := Lib.hid hf
              have Tj := Lib.hid (range_tx Rj.out)
              have Tk := Lib.hid (range_tx Rk.out)
              have lj : Hid ((vals f.tx).length = 32) := Lib.hid (by rw [vals_length]; exact okj.out.2.1)
              have lk : Hid ((vals e.tx).length = 32) := Lib.hid (by rw [vals_length]; exact ok1.out.2.1)
              have hbj : Hid (b < wr.heap.size) := Lib.hid (((HL.out.later Bj.out).at_ hlt).1)
              have EQ := eq_hash okj.out.2.1 ok1.out.2.1
              obtain ⟨X, hX⟩ : ∃ X, f.tx = X := ⟨_, rfl⟩
              obtain ⟨Y, hY⟩ : ∃ Y, e.tx = Y := ⟨_, rfl⟩
              rw [hX] at Tj lj EQ
              rw [hY] at Tk lk EQ
              have HX := Lib.hid hX
              have HY := Lib.hid hY
              clear hX hY hf
              by_cases hXY : X = Y
              · have HXY := Lib.hid hXY
                rw [eqB_yes hXY] at EQ
                clear hXY
                go_wp2_with fail
                refine wp_region_after (by kernel_rfl) (by kernel_rfl) ?_
                repeat (go_big_quiet_step (fail))
                go_big_quiet_want
                refine quiet_load_part (.tmp 43) rfl rfl row26 (fun w9 h9 => by obtain ⟨u, rfl⟩ := h9; exact range_rl Tj.out hbj.out u.below) lj.out ?_
                simp only [Act.put, List.setIfInBounds_toArray, List.set_cons_succ, List.set_cons_zero]
                go_big_quiet_on
                repeat (go_big_quiet_step (fail))
                go_big_quiet_want
                refine quiet_load_part (.tmp 48) rfl rfl row26 (fun w9 h9 => by obtain ⟨u, rfl⟩ := h9; exact range_rl Tk.out hbj.out u.below) lk.out ?_
                simp only [Act.put, List.setIfInBounds_toArray, List.set_cons_succ, List.set_cons_zero]
                go_big_quiet_on
                repeat (go_big_quiet_step (fail))
                refine wpQuiet_nil ?_
                rintro wz ⟨u, rfl⟩
                have Bz := Lib.hid (Bj.out.trans (u.below.mono Bj.out.size))
                go_wp2_with fail
                go_ret
                exact ⟨by rw [rightB_no (not_twice hjk hlt'.out (by rw [HF.out, HE.out, HX.out, HY.out, HXY.out]))]; rfl, Bz.out⟩
              · have HXY := Lib.hid hXY
                rw [eqB_no hXY] at EQ
                clear hXY
                go_wp2_with fail
                refine wp_region_after (by kernel_rfl) (by kernel_rfl) ?_
                repeat (go_big_quiet_step (fail))
                go_big_quiet_want
                refine quiet_load_part (.tmp 43) rfl rfl row26 (fun w9 h9 => by obtain ⟨u, rfl⟩ := h9; exact range_rl Tj.out hbj.out u.below) lj.out ?_
                simp only [Act.put, List.setIfInBounds_toArray, List.set_cons_succ, List.set_cons_zero]
                go_big_quiet_on
                repeat (go_big_quiet_step (fail))
                go_big_quiet_want
                refine quiet_load_part (.tmp 48) rfl rfl row26 (fun w9 h9 => by obtain ⟨u, rfl⟩ := h9; exact range_rl Tk.out hbj.out u.below) lk.out ?_
                simp only [Act.put, List.setIfInBounds_toArray, List.set_cons_succ, List.set_cons_zero]
                go_big_quiet_on
                repeat (go_big_quiet_step (fail))
                refine wpQuiet_nil ?_
                rintro wz ⟨u, rfl⟩
                have Bz := Lib.hid (Bj.out.trans (u.below.mono Bj.out.size))
                go_wp2_with fail
                exact ⟨⟨j + 1, by omega, by go_num, fun i hi => by
                  by_cases q : i = j
                  · rw [q, HF.out, HX.out, HY.out]; exact HXY.out
                  · exact HDj.out i (by omega), Bz.out⟩, by simp [intOf]; omega⟩
            · have t5 : decide ((j : Int) < (((p + 1) : Nat) : Int)) = false := decide_eq_false (by omega)
              have NX := Lib.hid (right_next hlt'.out HE.out HR.out (by rw [HH.out]; omega) H2.out (fun i hi => HDj.out i (by omega)))
              go_wp2_with fail
              exact ⟨⟨(p + 1) + 1, by omega, by go_num, NX.out, Bj.out⟩, by simp [intOf]; omega⟩
      · have t3 : decide ((0 : Int) < (k : Int)) = false := decide_eq_false (by omega)
        go_wp2_with fail
        refine wp_region_after (by kernel_rfl) (by kernel_rfl) ?_
        repeat (go_big_quiet_step (fail))
        refine wpQuiet_nil ?_
        rintro wz ⟨u, rfl⟩
        have Bz := Lib.hid (HB.out.trans (u.below.mono HB.out.size))
        have H2 : Hid (0 < k → (nthE l (k - 1)).h ≤ e.h) := Lib.hid (fun q => absurd q h0)
        clear cu
        go_wp2_with fail
        go_loopw [4] (fun i wr => ∃ j : Nat, j ≤ k ∧ i = .int .i64 (j : Nat) ∧ (∀ i, i < j → (nthE l i).tx ≠ e.tx) ∧ Below w.heap.size w wr) (fun i _ => k - (intOf i).toNat)
        case atStart => exact ⟨0, Nat.zero_le _, rfl, (fun i hi => by omega), Bz.out⟩
        case round =>
          clear Bz
          obtain ⟨j, hj, rfl, hd, bel⟩ := hrel
          have HDj := Lib.hid hd
          have Bj := Lib.hid bel
          clear hd bel
          by_cases hjk : j < k
          · exact absurd (Nat.lt_of_le_of_lt (Nat.zero_le _) hjk) h0
          · have t5 : decide ((j : Int) < ((k : Nat) : Int)) = false := decide_eq_false (by omega)
            have NX := Lib.hid (right_next hlt'.out HE.out HR.out (by rw [HH.out]; omega) H2.out (fun i hi => HDj.out i (by omega)))
            go_wp2_with fail
            exact ⟨⟨k + 1, by omega, by go_num, NX.out, Bj.out⟩, by simp [intOf]; omega⟩
    · have t1 : decide ((k : Int) < (n : Int)) = false := decide_eq_false (by omega)
      obtain rfl : k = n := by omega
      have TA := show l.take k = l from List.take_of_length_le (by rw [HN.out]; exact Nat.le_refl _)
      have RB := Lib.hid (rightB_yes (l := l) (TA ▸ HR.out))
      clear TA
      go_wp2_with fail
      go_ret
      exact ⟨by rw [RB.out]; rfl, HB.out⟩
end Go.Proofs.YtipbpecihbmneaaDoor
