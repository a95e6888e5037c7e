/- HeaderJoins: rows that stand one behind the other are one row. No condition but that the tables lie as laid. -/
import Derived.Test.YtkocbkckfkbmhaaDoorJoinL
import Derived.Outline
namespace Go.Proofs.YtkocbkckfkbmhaaDoor
open Go.RowKit

set_option maxRecDepth 100000 in
set_option maxHeartbeats 16000000 in
theorem joins_law {A : Option Addr} {n c at_ : Nat} {l : List Hd} {w : World} (hnc : n ≤ c) (_ : c ≤ 9223372036854775807) (hl : Hs w A n l) (ha : at_ < 256) (hLd : Laid w) :
    Calls Tryd.prog 9 #[.slice A n c, .int .u8 (at_ : Nat)] w fun e w' => e = .returned (.bool true) ∧ Below w.heap.size w w' := by
  have HD := Lib.hid hLd
  have Hl := Lib.hid hl
  have HN := Lib.hid hl.len
  clear hLd hl
  have fin : ∀ w1, Below w.heap.size w w1 → Calls Tryd.prog 11 #[] w1 fun e w' => e = .returned (.bool true) ∧ Below w.heap.size w w' := fun w1 b => (works_any w1 (HD.out.later HD.out.lt b)).mono fun e w' ⟨h1, h2⟩ => ⟨h1, b.trans (h2.mono b.size)⟩
  have FIN := Lib.hid fin
  clear fin
  go_enter Tryd.func9, Tryd.ntmps9
  by_cases hn : 100 < n
  · have t0 : decide ((100 : Int) < (n : Int)) = true := decide_eq_true (by omega)
    go_wp2_with fail
    refine (FIN.out _ (Below.refl _ _)).mono ?_
    rintro e w1 ⟨rfl, hb⟩
    have HB := Lib.hid hb
    clear hb
    go_wp2_with fail
    go_ret
    exact ⟨rfl, HB.out⟩
  have t0 : decide ((100 : Int) < (n : Int)) = false := decide_eq_false (by omega)
  obtain ⟨k, hk⟩ : ∃ k, at_ % (n + 1) = k := ⟨_, rfl⟩
  have kn : k ≤ n := by have := Nat.mod_lt at_ (show n + 1 > 0 by omega); omega
  have z2 : (at_ : Int) % ((n : Int) + 1) = (k : Int) := by rw [← hk, Int.natCast_emod]; rfl
  have kc : k ≤ c := by omega
  have z3 : ¬ ((n : Int) + 1 = 0) := by omega
  clear hk
  go_wp2_with fail
  refine (row_any w (by omega) Hl.out).mono ?_
  rintro e w1 ⟨A1, n1, c1, rfl, hc1, O1⟩
  have B1 := Lib.hid O1.bel
  have cM1 := O1.capMax
  have R1 := Lib.hid O1.reads
  clear O1
  go_wp2_with fail
  refine (row_any w1 (by omega) ((Hl.out.later B1.out).left kn)).mono ?_
  rintro e w2 ⟨A2, n2, c2, rfl, hc2, O2⟩
  have B2 := Lib.hid (B1.out.trans (O2.bel.mono B1.out.size))
  have cM2 := O2.capMax
  have R2 := Lib.hid O2.reads
  replace R1 := Lib.hid (R1.out.later O2.bel)
  clear O2 B1
  go_wp2_with (refine wpList_fromH rfl (.tmp 33) (.tmp 34) rfl rfl rfl kn hnc ?_)
  intro A0 H0
  have HA0 := Lib.hid H0
  clear H0
  go_wp2_with fail
  refine (row_any w2 (by omega) (HA0.out _ _ (Hl.out.later B2.out))).mono ?_
  rintro e w3 ⟨A3, n3, c3, rfl, hc3, O3⟩
  have B3 := Lib.hid (B2.out.trans (O3.bel.mono B2.out.size))
  have cM3 := O3.capMax
  have R3 := Lib.hid O3.reads
  replace R1 := Lib.hid (R1.out.later O3.bel)
  replace R2 := Lib.hid (R2.out.later O3.bel)
  clear O3 B2
  have v1 := run_str (c := c1) R1.out
  have v2 := run_str (c := c2) R2.out
  have v3 := run_str (c := c3) R3.out
  have es := strB_app (hsB (l.take k)) (hsB (l.drop k))
  rw [← hsB_app, List.take_append_drop] at es
  have sz : ¬ 9223372036854775807 < (strB (hsB (l.take k))).size + (strB (hsB (l.drop k))).size := by
    rw [strB_size, strB_size, hsB_len (Hl.out.ok.take k), hsB_len (Hl.out.ok.drop k), List.length_take, List.length_drop]
    have := HN.out
    omega
  obtain ⟨S, hS⟩ : ∃ S, strB (hsB l) = S := ⟨_, rfl⟩
  obtain ⟨S1, hS1⟩ : ∃ S, strB (hsB (l.take k)) = S := ⟨_, rfl⟩
  obtain ⟨S2, hS2⟩ : ∃ S, strB (hsB (l.drop k)) = S := ⟨_, rfl⟩
  rw [hS] at v1 es
  rw [hS1] at v2 es sz
  rw [hS2] at v3 es sz
  clear hS hS1 hS2
  go_wp2_with fail
  refine (cut_any _ hc1 cM1 R1.out).mono ?_
  rintro e w4 ⟨C1, m1, d1, rfl, Q1⟩
  have CA := cutAll_row Hl.out.ok (by rw [HN.out]; omega)
  rw [CA.2]
  rw [CA.1] at Q1
  obtain rfl : n = m1 := by rw [← Q1.len, HN.out]
  have B4 := Lib.hid (B3.out.trans (Q1.bel.mono B3.out.size))
  have H1 := Lib.hid Q1.reads
  replace R2 := Lib.hid (R2.out.later Q1.bel)
  replace R3 := Lib.hid (R3.out.later Q1.bel)
  clear Q1 CA B3 R1 v1 v2 v3
  go_wp2_with fail
  refine (cut_any _ hc2 cM2 R2.out).mono ?_
  rintro e w5 ⟨C2, m2, d2, rfl, Q2⟩
  have CA := cutAll_row (Hl.out.ok.take k) (by rw [List.length_take, HN.out]; omega)
  rw [CA.2]
  rw [CA.1] at Q2
  obtain rfl : k = m2 := by rw [← Q2.len, List.length_take, HN.out]; omega
  have B5 := Lib.hid (B4.out.trans (Q2.bel.mono B4.out.size))
  have H2 := Lib.hid Q2.reads
  replace H1 := Lib.hid (H1.out.later Q2.bel)
  replace R3 := Lib.hid (R3.out.later Q2.bel)
  clear Q2 CA B4 R2
  go_wp2_with fail
  refine (cut_any _ hc3 cM3 R3.out).mono ?_
  rintro e w6 ⟨C3, m3, d3, rfl, Q3⟩
  have CA := cutAll_row (Hl.out.ok.drop k) (by rw [List.length_drop, HN.out]; omega)
  rw [CA.2]
  rw [CA.1] at Q3
  obtain ⟨m3, rfl⟩ : ∃ q, q = m3 := ⟨_, rfl⟩
  have e3 : m3 = n - k := by rw [← Q3.len, List.length_drop, HN.out]
  subst e3
  have B6 := Lib.hid (B5.out.trans (Q3.bel.mono B5.out.size))
  have H3 := Lib.hid Q3.reads
  replace H1 := Lib.hid (H1.out.later Q3.bel)
  replace H2 := Lib.hid (H2.out.later Q3.bel)
  clear Q3 CA B5 R3
  have y1 : ((n : Int) - (k : Int)) = ((n - k : Nat) : Int) := by omega
  go_wp2_with fail
  go_loopw [15] (fun i wr => ∃ j : Nat, j ≤ n ∧ i = .int .i64 (j : Nat) ∧ Below w6.heap.size w6 wr) (fun i _ => n - (intOf i).toNat)
  case atStart => exact ⟨0, by omega, rfl, Below.refl _ _⟩
  case round =>
    obtain ⟨j, hj, rfl, bel⟩ := hrel
    have HB := Lib.hid bel
    clear bel
    by_cases hlt : j < n
    · have ok0 := Lib.hid (nthH_ok Hl.out.ok j)
      have ll := Lib.hid (hdV_len ok0.out)
      have H0 := Lib.hid ((Hl.out.later B6.out).later HB.out)
      have H1' := Lib.hid (H1.out.later HB.out)
      obtain ⟨b0, o0, rfl, hb0, _⟩ := H0.out.cel (by omega)
      obtain ⟨b1, o1, rfl, hb1, _⟩ := H1'.out.cel (by omega)
      have ad0 := add_at b0 o0
      have ad1 := add_at b1 o1
      have L0 := Lib.hid hb0
      have L1 := Lib.hid hb1
      have R0 := Lib.hid ((H0.out.at_ hlt).2)
      have R1 := Lib.hid ((H1'.out.at_ hlt).2)
      have EQ := fun w => (eq_hd ok0.out ok0.out w).trans (by rw [decide_eq_true rfl])
      clear hb0 hb1
      by_cases hk : j < k
      · have H2' := Lib.hid (H2.out.later HB.out)
        obtain ⟨b2, o2, rfl, hb2, _⟩ := H2'.out.cel (by omega)
        have ad2 := add_at b2 o2
        have L2 := Lib.hid hb2
        have R2 := Lib.hid ((H2'.out.at_ hk).2)
        rw [nthH_take hk] at R2
        obtain ⟨h, e1⟩ : ∃ h, nthH l j = h := ⟨_, rfl⟩
        rw [e1] at R0 R1 R2 ok0 ll EQ
        have q1 : decide ((j : Int) < (k : Int)) = true := decide_eq_true (by omega)
        have q2 : decide (k ≤ j) = false := decide_eq_false (by omega)
        clear e1 hb2 H2' H1' H0 H1 H2 H3
        go_wp2_with fail
        refine wp_region_after (by kernel_rfl) (by kernel_rfl) ?_
        repeat (go_big_quiet_step (fail))
        go_big_quiet_want
        refine quiet_load_part (.tmp 100) rfl rfl rowHd (fun w9 h9 => by obtain ⟨u, rfl⟩ := h9; exact range_later R1.out L1.out u.below) ll.out ?_
        simp only [Act.put, List.setIfInBounds_toArray, List.set_cons_succ, List.set_cons_zero]
        go_big_quiet_on
        repeat (go_big_quiet_step (fail))
        go_big_quiet_want
        refine quiet_load_part (.tmp 104) rfl rfl rowHd (fun w9 h9 => by obtain ⟨u, rfl⟩ := h9; exact range_later R0.out L0.out u.below) ll.out ?_
        simp only [Act.put, List.setIfInBounds_toArray, List.set_cons_succ, List.set_cons_zero]
        go_big_quiet_on
        repeat (go_big_quiet_step (fail))
        go_big_quiet_want
        refine quiet_load_part (.tmp 114) rfl rfl rowHd (fun w9 h9 => by obtain ⟨u, rfl⟩ := h9; exact range_later R2.out L2.out u.below) ll.out ?_
        simp only [Act.put, List.setIfInBounds_toArray, List.set_cons_succ, List.set_cons_zero]
        go_big_quiet_on
        repeat (go_big_quiet_step (fail))
        go_big_quiet_want
        refine quiet_load_part (.tmp 118) rfl rfl rowHd (fun w9 h9 => by obtain ⟨u, rfl⟩ := h9; exact range_later R0.out L0.out u.below) ll.out ?_
        simp only [Act.put, List.setIfInBounds_toArray, List.set_cons_succ, List.set_cons_zero]
        go_big_quiet_on
        repeat (go_big_quiet_step (fail))
        refine wpQuiet_nil ?_
        rintro wz ⟨u, rfl⟩
        have Bz := Lib.hid (HB.out.trans (u.below.mono HB.out.size))
        go_wp2_with fail
        exact ⟨⟨j + 1, by omega, by go_num, Bz.out⟩, by simp [intOf]; omega⟩
      · have H3' := Lib.hid (H3.out.later HB.out)
        obtain ⟨b2, o2, rfl, hb2, _⟩ := H3'.out.cel (by omega)
        have ad2 := add_at b2 o2
        have L2 := Lib.hid hb2
        have R2 := Lib.hid ((H3'.out.at_ (k := j - k) (by omega)).2)
        rw [nthH_drop, show k + (j - k) = j by omega] at R2
        obtain ⟨h, e1⟩ : ∃ h, nthH l j = h := ⟨_, rfl⟩
        rw [e1] at R0 R1 R2 ok0 ll EQ
        have q1 : decide ((j : Int) < (k : Int)) = false := decide_eq_false (by omega)
        have q2 : decide (k ≤ j) = true := decide_eq_true (by omega)
        have y2 : IntKind.i64.wrap ((j : Int) - (k : Int)) = ((j - k : Nat) : Int) := by rw [IntWalk.i64_in _ (by omega)]; omega
        obtain ⟨i, hi⟩ : ∃ i, j - k = i := ⟨_, rfl⟩
        rw [hi] at R2 y2
        have il : i < n - k := by omega
        clear e1 hb2 H3' H1' H0 H1 H2 H3
        go_wp2_with fail
        refine wp_region_after (by kernel_rfl) (by kernel_rfl) ?_
        repeat (go_big_quiet_step (fail))
        go_big_quiet_want
        refine quiet_load_part (.tmp 100) rfl rfl rowHd (fun w9 h9 => by obtain ⟨u, rfl⟩ := h9; exact range_later R1.out L1.out u.below) ll.out ?_
        simp only [Act.put, List.setIfInBounds_toArray, List.set_cons_succ, List.set_cons_zero]
        go_big_quiet_on
        repeat (go_big_quiet_step (fail))
        go_big_quiet_want
        refine quiet_load_part (.tmp 104) rfl rfl rowHd (fun w9 h9 => by obtain ⟨u, rfl⟩ := h9; exact range_later R0.out L0.out u.below) ll.out ?_
        simp only [Act.put, List.setIfInBounds_toArray, List.set_cons_succ, List.set_cons_zero]
        go_big_quiet_on
        repeat (go_big_quiet_step (fail))
        go_big_quiet_want
        refine quiet_load_part (.tmp 132) rfl rfl rowHd (fun w9 h9 => by obtain ⟨u, rfl⟩ := h9; exact range_later R2.out L2.out u.below) ll.out ?_
        simp only [Act.put, List.setIfInBounds_toArray, List.set_cons_succ, List.set_cons_zero]
        go_big_quiet_on
        repeat (go_big_quiet_step (fail))
        go_big_quiet_want
        refine quiet_load_part (.tmp 136) rfl rfl rowHd (fun w9 h9 => by obtain ⟨u, rfl⟩ := h9; exact range_later R0.out L0.out u.below) ll.out ?_
        simp only [Act.put, List.setIfInBounds_toArray, List.set_cons_succ, List.set_cons_zero]
        go_big_quiet_on
        repeat (go_big_quiet_step (fail))
        refine wpQuiet_nil ?_
        rintro wz ⟨u, rfl⟩
        have Bz := Lib.hid (HB.out.trans (u.below.mono HB.out.size))
        go_wp2_with fail
        exact ⟨⟨j + 1, by omega, by go_num, Bz.out⟩, by simp [intOf]; omega⟩
    · have B7 := Lib.hid (B6.out.trans (HB.out.mono B6.out.size))
      have H0 := Lib.hid (Hl.out.later B7.out)
      have CL := Lib.hid (linked_any (c := c) _ (HD.out.later HD.out.lt B7.out) (by omega) H0.out)
      have lk := (linkN_links l).1
      obtain ⟨q, hq⟩ : ∃ q, linkN l = q := ⟨_, rfl⟩
      rw [hq] at CL lk
      have HQ := Lib.hid hq
      rw [HN.out] at lk
      clear hq H1 H2 H3 H0
      by_cases hqk : q ≤ k
      · have TK : linkN (l.take k) = q := by rw [link_take (by rw [HN.out]; omega), HQ.out]; omega
        have CK : Hid (∀ w8, Below w.heap.size w w8 → Calls Tryd.prog 23 #[.slice A k c] w8 fun e w' => e = .returned (.int .i64 (q : Nat)) ∧ Below w8.heap.size w8 w') := Lib.hid (fun w8 b => by
          have z := linked_any (c := c) w8 (HD.out.later HD.out.lt b) (by omega) ((Hl.out.later b).left (k := k) kn)
          rwa [TK] at z)
        clear TK
        have m1 : min (q : Int) (k : Int) = (q : Int) := by omega
        have m2 : min q k = q := by omega
        have g1 : decide ((q : Int) ≤ (k : Int)) = true := decide_eq_true (by omega)
        have g2 : decide (q ≤ k) = true := decide_eq_true hqk
        go_wp2_with fail
        refine CL.out.mono ?_
        rintro e w8 ⟨rfl, hb8⟩
        have B8 := Lib.hid (B7.out.trans (hb8.mono B7.out.size))
        clear hb8 CL HB
        go_wp2_with fail
        refine (CK.out _ B8.out).mono ?_
        rintro e w9 ⟨rfl, hb9⟩
        have B9 := Lib.hid (B8.out.trans (hb9.mono B8.out.size))
        clear hb9
        go_wp2_with fail
        refine (FIN.out _ B9.out).mono ?_
        rintro e wz ⟨rfl, hbz⟩
        have Bz := Lib.hid hbz
        clear hbz
        go_wp2_with fail
        go_ret
        exact ⟨rfl, Bz.out⟩
      · have TK : linkN (l.take k) = k := by rw [link_take (by rw [HN.out]; omega), HQ.out]; omega
        have TD : linkN (l.drop k) = q - k := by rw [link_drop (by rw [HQ.out]; omega), HQ.out]
        have CK : Hid (∀ w8, Below w.heap.size w w8 → Calls Tryd.prog 23 #[.slice A k c] w8 fun e w' => e = .returned (.int .i64 (k : Nat)) ∧ Below w8.heap.size w8 w') := Lib.hid (fun w8 b => by
          have z := linked_any (c := c) w8 (HD.out.later HD.out.lt b) (by omega) ((Hl.out.later b).left (k := k) kn)
          rwa [TK] at z)
        have CD : Hid (∀ w8, Below w.heap.size w w8 → Calls Tryd.prog 23 #[.slice (A.map (fun x => x.add (k * 68))) (n - k) (c - k)] w8 fun e w' => e = .returned (.int .i64 ((q - k : Nat) : Int)) ∧ Below w8.heap.size w8 w') := Lib.hid (fun w8 b => by
          have f := (Hl.out.later b).from kn hnc
          rw [if_neg (by omega)] at f
          have z := linked_any (c := c - k) w8 (HD.out.later HD.out.lt b) (by omega) f
          rwa [TD] at z)
        clear TK TD
        have m1 : min (q : Int) (k : Int) = (k : Int) := by omega
        have m2 : min q k = k := by omega
        have g1 : decide ((q : Int) ≤ (k : Int)) = false := decide_eq_false (by omega)
        have g2 : decide (q ≤ k) = false := decide_eq_false hqk
        have g3 : ((q : Int) - (k : Int)) = ((q - k : Nat) : Int) := by omega
        go_wp2_with fail
        refine CL.out.mono ?_
        rintro e w8 ⟨rfl, hb8⟩
        have B8 := Lib.hid (B7.out.trans (hb8.mono B7.out.size))
        clear hb8 CL HB
        go_wp2_with fail
        refine (CK.out _ B8.out).mono ?_
        rintro e w9 ⟨rfl, hb9⟩
        have B9 := Lib.hid (B8.out.trans (hb9.mono B8.out.size))
        clear hb9
        go_wp2_with fail
        refine (CD.out _ B9.out).mono ?_
        rintro e wa ⟨rfl, hba⟩
        have Ba := Lib.hid (B9.out.trans (hba.mono B9.out.size))
        clear hba
        go_wp2_with fail
        refine (FIN.out _ Ba.out).mono ?_
        rintro e wz ⟨rfl, hbz⟩
        have Bz := Lib.hid hbz
        clear hbz
        go_wp2_with fail
        go_ret
        exact ⟨rfl, Bz.out⟩
end Go.Proofs.YtkocbkckfkbmhaaDoor
