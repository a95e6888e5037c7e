/- RulesMedian walked: the median is one of the last eleven times, no more than half are less, no more than half are greater, and what lies further back has no say. No condition but that the tables lie as laid. -/
import Derived.Test.YtimjmmiajgfblaaGreatDoorGbu

namespace Go.Proofs.YtimjmmiajgfblaaGreatDoor
open Go.RowKit

theorem timesOf_tm (L : List Nat) : timesOf (tmHs L) = L.drop (L.length - 11) := by
  unfold timesOf tmHs
  rw [List.length_map, ← List.map_drop, List.map_map]
  exact List.map_id' _
theorem medS_tm (L : List Nat) : medS (tmHs L) = midS (L.drop (L.length - 11)) := by rw [medS, timesOf_tm]
def cntL (m : Nat) (T : List Nat) : Nat := (T.filter fun y => decide (y < m)).length
def cntG (m : Nat) (T : List Nat) : Nat := (T.filter fun y => decide (m < y)).length
theorem cntL_take {m : Nat} {T : List Nat} {j : Nat} (h : j < T.length) : cntL m (T.take (j + 1)) = cntL m (T.take j) + if nth T j < m then 1 else 0 := by
  unfold cntL
  rw [take_nth h, List.filter_append, List.length_append]
  congr 1
  by_cases e : nth T j < m <;> simp [e]
theorem cntG_take {m : Nat} {T : List Nat} {j : Nat} (h : j < T.length) : cntG m (T.take (j + 1)) = cntG m (T.take j) + if m < nth T j then 1 else 0 := by
  unfold cntG
  rw [take_nth h, List.filter_append, List.length_append]
  congr 1
  by_cases e : m < nth T j <;> simp [e]
theorem cnt_le (m : Nat) (T : List Nat) : cntL m T ≤ T.length ∧ cntG m T ≤ T.length := ⟨List.length_filter_le .., List.length_filter_le ..⟩
def hasM (m : Nat) (T : List Nat) : Bool := T.any fun y => decide (y = m)
theorem hasM_take {m : Nat} {T : List Nat} {j : Nat} (h : j < T.length) : hasM m (T.take (j + 1)) = (hasM m (T.take j) || decide (nth T j = m)) := by
  unfold hasM
  rw [take_nth h, List.any_append]
  simp

set_option maxRecDepth 100000 in
set_option maxHeartbeats 8000000 in
theorem median_law {A B : Option Addr} {n c k d : Nat} {L M : List Nat} {w : World} (_ : n ≤ c) (_ : c ≤ 9223372036854775807) (hL : Ws w A n L) (bL : ∀ x ∈ L, x < 4294967296) (_ : k ≤ d) (_ : d ≤ 9223372036854775807) (hM : Ws w B k M) (bM : ∀ x ∈ M, x < 4294967296) (hLd : Laid w) :
    Calls Tryz.prog 6 #[.slice A n c, .slice B k d] w fun e w' => e = .returned (.bool true) ∧ Below w.heap.size w w' := by
  have HD := Lib.hid hLd
  have HL := Lib.hid hL
  have HM := Lib.hid hM
  have HN := Lib.hid hL.len
  have HK := Lib.hid hM.len
  have BL := Lib.hid bL
  have BM := Lib.hid bM
  have FIN : Hid (∀ wx, Below w.heap.size w wx → Calls Tryz.prog 9 #[] wx fun e w' => e = .returned (.bool true) ∧ Below w.heap.size w w') := Lib.hid (fun wx b => (works_any wx (HD.out.later HD.out.lt b)).mono fun e w' ⟨h1, h2⟩ => ⟨h1, b.trans (h2.mono b.size)⟩)
  clear hLd hL hM bL bM
  by_cases h1 : 300 < n
  · have q1 : decide ((300 : Int) < (n : Int)) = true := decide_eq_true (by omega)
    go_enter Tryz.func6, Tryz.ntmps6
    go_wp2_with fail
    refine (FIN.out _ (Below.refl _ _)).mono ?_
    rintro e w2 ⟨rfl, hb⟩
    have HB := Lib.hid hb
    go_wp2_with fail
    go_ret
    exact ⟨rfl, HB.out⟩
  have q1 : decide ((300 : Int) < (n : Int)) = false := decide_eq_false (by omega)
  by_cases h2 : 300 < k
  · have q2 : decide ((300 : Int) < (k : Int)) = true := decide_eq_true (by omega)
    go_enter Tryz.func6, Tryz.ntmps6
    go_wp2_with fail
    refine (FIN.out _ (Below.refl _ _)).mono ?_
    rintro e w2 ⟨rfl, hb⟩
    have HB := Lib.hid hb
    go_wp2_with fail
    go_ret
    exact ⟨rfl, HB.out⟩
  have q2 : decide ((300 : Int) < (k : Int)) = false := decide_eq_false (by omega)
  go_enter Tryz.func6, Tryz.ntmps6
  go_wp2_with fail
  refine (times_any _ (by omega) HL.out BL.out).mono ?_
  rintro e w1 ⟨T1, d1, rfl, O⟩
  have hb1 := Lib.hid O.bel
  have HT1 := Lib.hid O.reads
  have hc1 := Lib.hid O.cap
  clear O
  go_wp2_with fail
  refine (median_any _ (by omega) hc1.out HT1.out).mono ?_
  rintro e w2 ⟨rfl, hc2⟩
  have HA2 := Lib.hid (hb1.out.trans (hc2.mono hb1.out.size))
  clear hc2 hb1 HT1
  rw [medS_tm, HN.out]
  obtain ⟨f0, hf0⟩ : ∃ f0, n - 11 = f0 := ⟨_, rfl⟩
  rw [hf0]
  obtain ⟨T, hT⟩ : ∃ T, L.drop f0 = T := ⟨_, rfl⟩
  rw [hT]
  obtain ⟨m, hm⟩ : ∃ m, midS T = m := ⟨_, rfl⟩
  rw [hm]
  have HT := Lib.hid hT
  have Hm := Lib.hid hm
  by_cases h0 : n = 0
  · subst h0
    obtain rfl : m = 0 := by
      have : L = [] := List.eq_nil_of_length_eq_zero HN.out
      rw [← hm, ← hT, this]
      simp [midS, srt]
    clear hf0 hT hm
    go_wp2_with fail
    refine (FIN.out _ HA2.out).mono ?_
    rintro e w3 ⟨rfl, hb⟩
    have HB := Lib.hid hb
    go_wp2_with fail
    go_ret
    exact ⟨rfl, HB.out⟩
  have z0 : ((n : Int) == 0) = false := by simp; omega
  have yf : max ((n : Int) - 11) (0 : Int) = (f0 : Int) := by omega
  have lT : Hid (T.length = n - f0) := Lib.hid (by rw [← hT, List.length_drop, HN.out])
  have tp : Hid (0 < T.length) := Lib.hid (by rw [lT.out]; omega)
  have fl : f0 < n := by omega
  have f11 : f0 ≤ n - 11 := by omega
  have f12 : n ≤ f0 + 11 := by omega
  have gz : 11 ≤ n → n - f0 = 11 := by omega
  have gz2 := Lib.hid gz
  clear hf0 hT hm gz
  have hm32 : m < 4294967296 := by
    rw [← Hm.out]
    have hin := mid_in tp.out
    rw [← HT.out] at hin
    have := BL.out _ (List.mem_of_mem_drop hin)
    rwa [HT.out] at this
  have cx : Hid (∀ j, j < n - f0 → ∀ wr, Below w.heap.size w wr → ∃ a, A = some a ∧ wr.cell? (a.add (f0 + j)) = some (.int .u32 (nth T j : Nat))) := Lib.hid (fun j hj wr bl => by
    obtain ⟨a, e, hb, hcel⟩ := HL.out.cel (by omega)
    refine ⟨a, e, ?_⟩
    rw [bl.cell (by rw [add_block]; exact hb), hcel (f0 + j) (by omega)]
    have : nth L (f0 + j) = nth T j := by rw [← HT.out]; simp [nth, List.getD]
    rw [this])
  go_wp2_with fail
  clear yf
  go_loopw [7, 8, 9, 10] (fun a b s i wr => ∃ j : Nat, j ≤ n - f0 ∧ i = .int .i64 ((f0 + j : Nat) : Nat) ∧ a = .int .i64 (cntL m (T.take j) : Nat) ∧ b = .int .i64 (cntG m (T.take j) : Nat) ∧ s = .bool (hasM m (T.take j)) ∧ Below w.heap.size w wr) (fun _ _ _ i _ => n - (intOf i).toNat)
  case atStart => exact ⟨0, Nat.zero_le _, rfl, rfl, rfl, rfl, HA2.out⟩
  case round =>
    obtain ⟨j, hj, rfl, rfl, rfl, rfl, bel⟩ := hrel
    have HB := Lib.hid bel
    clear bel
    have hc1 := Lib.hid (cnt_le m (T.take j))
    by_cases hlt : j < n - f0
    · obtain ⟨a, rfl, cj⟩ := cx.out j hlt wr HB.out
      have eL := Lib.hid (cntL_take (m := m) (T := T) (j := j) (by rw [lT.out]; exact hlt))
      have eG := Lib.hid (cntG_take (m := m) (T := T) (j := j) (by rw [lT.out]; exact hlt))
      have eH := Lib.hid (hasM_take (m := m) (T := T) (j := j) (by rw [lT.out]; exact hlt))
      have hca : cntL m (T.take j) ≤ j := Nat.le_trans hc1.out.1 (List.length_take_le ..)
      have hcb : cntG m (T.take j) ≤ j := Nat.le_trans hc1.out.2 (List.length_take_le ..)
      obtain ⟨x, hx⟩ : ∃ x, nth T j = x := ⟨_, rfl⟩
      rw [hx] at cj eL eG eH
      obtain ⟨ca, hca1⟩ : ∃ ca, cntL m (T.take j) = ca := ⟨_, rfl⟩
      obtain ⟨cb, hcb1⟩ : ∃ cb, cntG m (T.take j) = cb := ⟨_, rfl⟩
      obtain ⟨b0, hb0⟩ : ∃ b0, hasM m (T.take j) = b0 := ⟨_, rfl⟩
      rw [hca1] at eL hca ⊢
      rw [hcb1] at eG hcb ⊢
      rw [hb0] at eH ⊢
      clear hx hca1 hcb1 hb0 hc1
      have jn : f0 + j < n := by omega
      cases b0 with
      | true =>
        rcases (by omega : x < m ∨ x = m ∨ m < x) with hx | hx | hx
        · have dl : decide ((x : Int) < (m : Int)) = true := decide_eq_true (by omega)
          have dg : decide ((m : Int) < (x : Int)) = false := decide_eq_false (by omega)
          have de : ((x : Int) == (m : Int)) = false := by simp; omega
          have hle1 : ca ≤ 300 := by omega
          have hle2 : cb ≤ 300 := by omega
          go_wp2_with fail
          exact ⟨⟨j + 1, by omega, by go_num, by rw [eL.out, if_pos (by omega)]; go_num, by rw [eG.out, if_neg (by omega)]; go_num, by rw [eH.out, decide_eq_false (by omega)]; simp, HB.out⟩, by simp [intOf]; omega⟩
        · have dl : decide ((x : Int) < (m : Int)) = false := decide_eq_false (by omega)
          have dg : decide ((m : Int) < (x : Int)) = false := decide_eq_false (by omega)
          have de : ((x : Int) == (m : Int)) = true := by simp; omega
          have hle1 : ca ≤ 300 := by omega
          have hle2 : cb ≤ 300 := by omega
          go_wp2_with fail
          exact ⟨⟨j + 1, by omega, by go_num, by rw [eL.out, if_neg (by omega)]; go_num, by rw [eG.out, if_neg (by omega)]; go_num, by rw [eH.out, decide_eq_true (by omega)]; simp, HB.out⟩, by simp [intOf]; omega⟩
        · have dl : decide ((x : Int) < (m : Int)) = false := decide_eq_false (by omega)
          have dg : decide ((m : Int) < (x : Int)) = true := decide_eq_true (by omega)
          have de : ((x : Int) == (m : Int)) = false := by simp; omega
          have hle1 : ca ≤ 300 := by omega
          have hle2 : cb ≤ 300 := by omega
          go_wp2_with fail
          exact ⟨⟨j + 1, by omega, by go_num, by rw [eL.out, if_neg (by omega)]; go_num, by rw [eG.out, if_pos (by omega)]; go_num, by rw [eH.out, decide_eq_false (by omega)]; simp, HB.out⟩, by simp [intOf]; omega⟩
      | false =>
        rcases (by omega : x < m ∨ x = m ∨ m < x) with hx | hx | hx
        · have dl : decide ((x : Int) < (m : Int)) = true := decide_eq_true (by omega)
          have dg : decide ((m : Int) < (x : Int)) = false := decide_eq_false (by omega)
          have de : ((x : Int) == (m : Int)) = false := by simp; omega
          have hle1 : ca ≤ 300 := by omega
          have hle2 : cb ≤ 300 := by omega
          go_wp2_with fail
          exact ⟨⟨j + 1, by omega, by go_num, by rw [eL.out, if_pos (by omega)]; go_num, by rw [eG.out, if_neg (by omega)]; go_num, by rw [eH.out, decide_eq_false (by omega)]; simp, HB.out⟩, by simp [intOf]; omega⟩
        · have dl : decide ((x : Int) < (m : Int)) = false := decide_eq_false (by omega)
          have dg : decide ((m : Int) < (x : Int)) = false := decide_eq_false (by omega)
          have de : ((x : Int) == (m : Int)) = true := by simp; omega
          have hle1 : ca ≤ 300 := by omega
          have hle2 : cb ≤ 300 := by omega
          go_wp2_with fail
          exact ⟨⟨j + 1, by omega, by go_num, by rw [eL.out, if_neg (by omega)]; go_num, by rw [eG.out, if_neg (by omega)]; go_num, by rw [eH.out, decide_eq_true (by omega)]; simp, HB.out⟩, by simp [intOf]; omega⟩
        · have dl : decide ((x : Int) < (m : Int)) = false := decide_eq_false (by omega)
          have dg : decide ((m : Int) < (x : Int)) = true := decide_eq_true (by omega)
          have de : ((x : Int) == (m : Int)) = false := by simp; omega
          have hle1 : ca ≤ 300 := by omega
          have hle2 : cb ≤ 300 := by omega
          go_wp2_with fail
          exact ⟨⟨j + 1, by omega, by go_num, by rw [eL.out, if_neg (by omega)]; go_num, by rw [eG.out, if_pos (by omega)]; go_num, by rw [eH.out, decide_eq_false (by omega)]; simp, HB.out⟩, by simp [intOf]; omega⟩
    · obtain rfl : j = n - f0 := by omega
      have eT : T.take (n - f0) = T := List.take_of_length_le (by rw [lT.out]; exact Nat.le_refl _)
      have hh : hasM m T = true := by
        unfold hasM
        rw [List.any_eq_true]
        exact ⟨m, Hm.out ▸ mid_in tp.out, decide_eq_true rfl⟩
      have h3 := mid_less tp.out
      have h4 := mid_more tp.out
      rw [Hm.out, lT.out] at h3 h4
      rw [eT, hh]
      obtain ⟨ca, hca⟩ : ∃ ca, cntL m T = ca := ⟨_, rfl⟩
      obtain ⟨cb, hcb⟩ : ∃ cb, cntG m T = cb := ⟨_, rfl⟩
      have h5 : ca ≤ (n - f0) / 2 := by rw [← hca]; exact h3
      have h6 : cb ≤ (n - f0) / 2 := by rw [← hcb]; exact h4
      rw [hca, hcb]
      clear h3 h4 hca hcb hh eT hc1
      have p1 : decide (((n : Int) - (f0 : Int)) / 2 < (ca : Int)) = false := decide_eq_false (by omega)
      have p2 : decide (((n : Int) - (f0 : Int)) / 2 < (cb : Int)) = false := decide_eq_false (by omega)
      by_cases h11 : n < 11
      · have p3 : decide ((n : Int) - (f0 : Int) < 11) = true := decide_eq_true (by omega)
        go_wp2_with fail
        refine (FIN.out _ HB.out).mono ?_
        rintro e w3 ⟨rfl, hb⟩
        have HB3 := Lib.hid hb
        go_wp2_with fail
        go_ret
        exact ⟨rfl, HB3.out⟩
      · have p3 : decide ((n : Int) - (f0 : Int) < 11) = false := decide_eq_false (by omega)
        have gq := gz2.out (by omega)
        have O0 : Wn w (.slice (some ⟨wr.heap.size, 0, none⟩) 0 0) 0 [] (wr.alloc (.cells #[] 22)) := Wn.made HB.out #[] 0 (by unfold maxLen; omega) rfl
        have HO0 := Lib.hid O0
        have HM1 := Lib.hid (HM.out.later (HB.out.alloc HB.out.size (.cells #[] 22)))
        go_wp2_with (at_builtin; refine BigFrame.wpList_want (by rfl) fun K hK => wp_appw (.tmp 89) (.tmp 90) rfl rfl HO0.out rfl HM1.out (by omega) ?_)
        intro A6 c6 w6 hc6 O6 g6
        refine hK _ _ ?_
        clear hK K
        have HO6 := Lib.hid O6
        have HL6 := Lib.hid (HL.out.later O6.bel)
        clear O6 g6 HM1 O0 HO0
        go_wp2_with (at_builtin; refine BigFrame.wpList_want (by rfl) fun K hK => wp_appw (.tmp 91) (.tmp 92) rfl rfl HO6.out rfl HL6.out (by omega) ?_)
        intro A7 c7 w7 hc7 O7 g7
        refine hK _ _ ?_
        clear hK K
        have HA7 := Lib.hid O7.bel
        have HW7 := Lib.hid O7.reads
        clear O7 g7 HO6 HL6
        go_wp2_with fail
        refine (times_any _ (by omega) HW7.out (fun x hx => by
          simp only [List.nil_append, List.mem_append] at hx
          rcases hx with h | h
          · exact BM.out x h
          · exact BL.out x h)).mono ?_
        rintro e w8 ⟨T8, d8, rfl, O⟩
        have HA8 := Lib.hid (HA7.out.trans (O.bel.mono HA7.out.size))
        have HT8 := Lib.hid O.reads
        have hc8 := Lib.hid O.cap
        clear O HW7 HA7
        have eM : Hid (medS (tmHs (M ++ L)) = m) := Lib.hid (by
          rw [medS_tm, last_app (by rw [HN.out]; omega), HN.out, show n - 11 = f0 by omega, HT.out, Hm.out])
        have CM := Lib.hid (median_any w8 (show k + n ≤ 1000000 by omega) hc8.out HT8.out)
        rw [eM.out] at CM
        go_wp2_with fail
        refine (CM.out).mono ?_
        rintro e w9 ⟨rfl, hb⟩
        have HA9 := Lib.hid (HA8.out.trans (hb.mono HA8.out.size))
        clear hb CM HA8
        go_wp2_with fail
        refine (FIN.out _ HA9.out).mono ?_
        rintro e w3 ⟨rfl, hb⟩
        have HB3 := Lib.hid hb
        go_wp2_with fail
        go_ret
        exact ⟨rfl, HB3.out⟩
end Go.Proofs.YtimjmmiajgfblaaGreatDoor
