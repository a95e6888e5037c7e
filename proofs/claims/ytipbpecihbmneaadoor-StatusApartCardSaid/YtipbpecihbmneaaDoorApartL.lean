/- StatusApart: two histories come to the same word just if they are the same, or two unlike texts have one hash. No condition but that the tables lie as laid. -/
import Derived.Test.YtipbpecihbmneaaDoorWorks
import Derived.Test.YtipbpecihbmneaaDoorEsL
namespace Go.Proofs.YtipbpecihbmneaaDoor
open Go.RowKit

def strL (s : ByteArray) : List Nat := s.data.toList.map UInt8.toNat
theorem strL_strB {L : List Nat} (h : AllB L) : strL (strB L) = L := by
  simp only [strL, strB, List.map_map]
  conv => rhs; rw [← List.map_id L]
  apply List.map_congr_left
  intro x hx
  have := h x hx
  simp; omega
theorem strB_inj {L M : List Nat} (h : AllB L) (k : AllB M) (e : strB L = strB M) : L = M := by rw [← strL_strB h, e, strL_strB k]
theorem str_iff {L M : List Nat} (h : AllB L) (k : AllB M) : ((strB L).toList == (strB M).toList) = true ↔ L = M := by
  rw [beq_iff_eq]
  constructor
  · intro e
    refine strB_inj h k ?_
    rw [ByteArray.toList_eq, ByteArray.toList_eq] at e
    exact ByteArray.ext (Array.toList_inj.1 e)
  · rintro rfl; rfl
theorem ofS_byt (l : List En) : AllB (ofS l) := by
  unfold ofS
  split
  · exact allB_nil
  · exact hexL_byt (shaS_byt _)
theorem ofS_zero {l m : List En} (h : l.length = 0 ∨ m.length = 0) : ofS l = ofS m ↔ l = m := by
  have z : ∀ x : List En, x.length ≠ 0 → (ofS x).length = 64 := fun x hx => by unfold ofS; rw [if_neg hx, hexL_length, shaS_len]
  constructor
  · intro e
    rcases h with h | h
    · by_cases k : m.length = 0
      · rw [List.eq_nil_of_length_eq_zero h, List.eq_nil_of_length_eq_zero k]
      · have := z m k
        rw [← e] at this
        unfold ofS at this
        rw [if_pos h] at this
        cases this
    · by_cases k : l.length = 0
      · rw [List.eq_nil_of_length_eq_zero h, List.eq_nil_of_length_eq_zero k]
      · have := z l k
        rw [e] at this
        unfold ofS at this
        rw [if_pos h] at this
        cases this
  · rintro rfl; rfl
theorem ofS_many {l m : List En} (h : l.length ≠ 0) (k : m.length ≠ 0) : ofS l = ofS m ↔ shaS (textS l) = shaS (textS m) := by
  unfold ofS
  rw [if_neg h, if_neg k]
  exact ⟨fun e => hexL_inj (shaS_byt _) (shaS_byt _) e, fun e => by rw [e]⟩
theorem textS_iff {l m : List En} (h : OkEs l) (k : OkEs m) : textS l = textS m ↔ l = m := ⟨textS_inj h k, fun e => by rw [e]⟩
theorem take_step {l m : List En} {k : Nat} (hl : k < l.length) (hm : k < m.length) : l.take (k + 1) = m.take (k + 1) ↔ l.take k = m.take k ∧ nthE l k = nthE m k := by
  rw [take_nthE hl, take_nthE hm]
  constructor
  · intro e
    obtain ⟨a, b⟩ := List.append_inj e (by rw [List.length_take, List.length_take]; omega)
    exact ⟨a, by injection b⟩
  · rintro ⟨a, b⟩
    rw [a, b]

open Classical in
set_option maxRecDepth 100000 in
set_option maxHeartbeats 16000000 in
theorem apart_law {A1 A2 : Option Addr} {n1 c1 n2 c2 : Nat} {l m : List En} {w : World} (_ : n1 ≤ c1) (_ : c1 ≤ 9223372036854775807) (hl : Es w A1 n1 l) (_ : n2 ≤ c2) (_ : c2 ≤ 9223372036854775807) (hm : Es w A2 n2 m) (hLd : Laid w) :
    Calls Tryd.prog 4 #[.slice A1 n1 c1, .slice A2 n2 c2] w fun e w' => e = .returned (.bool true) ∧ Below w.heap.size w w' := by
  have HD := Lib.hid hLd
  have HL := Lib.hid hl
  have HM := Lib.hid hm
  have NL := Lib.hid hl.len
  have NM := Lib.hid hm.len
  have B0 := Lib.hid (Below.refl w.heap.size w)
  clear hLd hl hm
  have fin : ∀ w1, Below w.heap.size w w1 → Calls Tryd.prog 6 #[] w1 fun e w' => e = .returned (.bool true) ∧ Below w1.heap.size w1 w' := fun w1 b => works_any w1 (HD.out.later HD.out.lt b)
  have FIN := Lib.hid fin
  clear fin
  go_enter Tryd.func4, Tryd.ntmps4
  by_cases h1 : 60 < n1
  · have t0 : decide ((60 : Int) < (n1 : Int)) = true := decide_eq_true (by omega)
    go_wp2_with fail
    refine (FIN.out _ B0.out).mono ?_
    rintro e w1 ⟨rfl, hb⟩
    have HB := Lib.hid hb
    clear hb
    go_wp2_with fail
    go_ret
    exact ⟨rfl, HB.out⟩
  have t0 : decide ((60 : Int) < (n1 : Int)) = false := decide_eq_false (by omega)
  by_cases h2 : 60 < n2
  · have t1 : decide ((60 : Int) < (n2 : Int)) = true := decide_eq_true (by omega)
    go_wp2_with fail
    refine (FIN.out _ B0.out).mono ?_
    rintro e w1 ⟨rfl, hb⟩
    have HB := Lib.hid hb
    clear hb
    go_wp2_with fail
    go_ret
    exact ⟨rfl, HB.out⟩
  have t1 : decide ((60 : Int) < (n2 : Int)) = false := decide_eq_false (by omega)
  obtain ⟨s0, hs0⟩ : ∃ s : Bool, ((n1 : Int) == (n2 : Int)) = s := ⟨_, rfl⟩
  have S0 : Hid (s0 = true ↔ n1 = n2 ∧ l.take 0 = m.take 0) := Lib.hid (by
    rw [← hs0, beq_iff_eq]
    exact ⟨fun h => ⟨by omega, by simp⟩, fun h => by omega⟩)
  go_wp2_with fail
  clear hs0
  go_loopw [5, 6] (fun sv i wr => ∃ (k : Nat) (s : Bool), k ≤ n1 ∧ i = .int .i64 (k : Nat) ∧ sv = .bool s ∧ (s = true ↔ n1 = n2 ∧ l.take k = m.take k) ∧ Below w.heap.size w wr) (fun _ i _ => n1 - (intOf i).toNat)
  case atStart => exact ⟨0, s0, Nat.zero_le _, rfl, rfl, S0.out, B0.out⟩
  case round =>
    clear S0 B0
    obtain ⟨k, s, hk, rfl, rfl, hs, bel⟩ := hrel
    have HB := Lib.hid bel
    have HS := Lib.hid hs
    clear bel hs
    by_cases hgo : k < n1 ∧ s = true
    · obtain ⟨hlt, rfl⟩ := hgo
      obtain ⟨hnn, htk⟩ := HS.out.1 rfl
      have t2 : decide ((k : Int) < (n1 : Int)) = true := decide_eq_true (by omega)
      have LW := Lib.hid (HL.out.later HB.out)
      have MW := Lib.hid (HM.out.later HB.out)
      have TK := Lib.hid htk
      have hlt2 : k < n2 := by omega
      have NN := Lib.hid hnn
      clear hnn htk HS
      obtain ⟨b, o, rfl, hb, _⟩ := LW.out.cel (by omega)
      obtain ⟨b2, o2, rfl, hb2, _⟩ := MW.out.cel (by omega)
      have ad := add_at b o
      have ad2 := add_at b2 o2
      have R1 := Lib.hid ((LW.out.at_ hlt).2)
      have R2 := Lib.hid ((MW.out.at_ hlt2).2)
      have l1 := Lib.hid hb
      have l2 := Lib.hid hb2
      have ok1 := nthE_ok HL.out.ok k
      have ok2 := nthE_ok HM.out.ok k
      have TS := Lib.hid (take_step (l := l) (m := m) (k := k) (by rw [NL.out]; exact hlt) (by rw [NM.out]; exact hlt2))
      obtain ⟨e, he⟩ : ∃ e, nthE l k = e := ⟨_, rfl⟩
      obtain ⟨f, hf⟩ : ∃ e, nthE m k = e := ⟨_, rfl⟩
      rw [he] at R1 ok1 TS
      rw [hf] at R2 ok2 TS
      have lE := Lib.hid (enV_len ok1)
      have lF := Lib.hid (enV_len ok2)
      have EQ := eq_en ok1 ok2
      obtain ⟨d, hd⟩ : ∃ d : Bool, decide (e = f) = d := ⟨_, rfl⟩
      rw [hd] at EQ
      have D : Hid (d = true ↔ n1 = n2 ∧ l.take (k + 1) = m.take (k + 1)) := Lib.hid (by
        rw [TS.out, ← hd, decide_eq_true_iff]
        exact ⟨fun q => ⟨NN.out, TK.out, q⟩, fun q => q.2.2⟩)
      clear he hf hb hb2 ok1 ok2 hd TS
      go_wp2_with fail
      refine wp_region_after (by kernel_rfl) (by kernel_rfl) ?_
      repeat (go_big_quiet_step (fail))
      go_big_quiet_want
      refine quiet_load_part (.tmp 34) rfl rfl rowEn (fun w9 h9 => by obtain ⟨u, rfl⟩ := h9; exact range_later R1.out l1.out u.below) lE.out ?_
      simp only [Act.put, List.setIfInBounds_toArray, List.set_cons_succ, List.set_cons_zero]
      go_big_quiet_on
      repeat (go_big_quiet_step (fail))
      go_big_quiet_want
      refine quiet_load_part (.tmp 38) rfl rfl rowEn (fun w9 h9 => by obtain ⟨u, rfl⟩ := h9; exact range_later R2.out l2.out u.below) lF.out ?_
      simp only [Act.put, List.setIfInBounds_toArray, List.set_cons_succ, List.set_cons_zero]
      go_big_quiet_on
      repeat (go_big_quiet_step (fail))
      refine wpQuiet_nil ?_
      rintro wz ⟨u, rfl⟩
      have Bz := Lib.hid (HB.out.trans (u.below.mono HB.out.size))
      clear R1 R2 LW MW EQ
      go_wp2_with fail
      exact ⟨⟨k + 1, d, by omega, by go_num, rfl, D.out, Bz.out⟩, by simp [intOf]; omega⟩
    · have SM : Hid (s = true ↔ l = m) := Lib.hid (by
        constructor
        · intro q
          have hkn : k = n1 := by
            by_cases q2 : k < n1
            · exact absurd ⟨q2, q⟩ hgo
            · omega
          obtain ⟨a, b⟩ := HS.out.1 q
          rw [List.take_of_length_le (by rw [NL.out, hkn]; exact Nat.le_refl _), List.take_of_length_le (by rw [NM.out, hkn, a]; exact Nat.le_refl _)] at b
          exact b
        · rintro rfl
          exact HS.out.2 ⟨by rw [← NL.out, ← NM.out], rfl⟩)
      have hs : ((decide ((k : Int) < (n1 : Int)) = true ∧ k < n1) ∧ s = false) ∨ (decide ((k : Int) < (n1 : Int)) = false ∧ ¬ k < n1) := by
        by_cases q2 : k < n1
        · refine .inl ⟨⟨decide_eq_true (by omega), q2⟩, ?_⟩
          cases s
          · rfl
          · exact absurd ⟨q2, rfl⟩ hgo
        · exact .inr ⟨decide_eq_false (by omega), q2⟩
      clear hgo HS
      have okl := Lib.hid HL.out.ok
      have okm := Lib.hid HM.out.ok
      have ET : ((strB (textS l)).toList == (strB (textS m)).toList) = s := by
        rw [Bool.eq_iff_iff, str_iff (textS_byt okl.out) (textS_byt okm.out), textS_iff okl.out okm.out, SM.out]
      have ml := textS_len okl.out
      have mm := textS_len okm.out
      rw [NL.out] at ml
      rw [NM.out] at mm
      have OZ := Lib.hid (fun h => ofS_zero (l := l) (m := m) h)
      have OM := Lib.hid (fun h k => ofS_many (l := l) (m := m) h k)
      have C1 := Lib.hid (fun w1 (g : Below w.heap.size w w1) => htext_any (c := c1) w1 (by omega : n1 ≤ 1000000) (HL.out.later g))
      have C2 := Lib.hid (fun w1 (g : Below w.heap.size w w1) => htext_any (c := c2) w1 (by omega : n2 ≤ 1000000) (HM.out.later g))
      have D1 := Lib.hid (fun w1 (g : Below w.heap.size w w1) => of_any (c := c1) w1 (HD.out.later HD.out.lt g) (by omega : n1 ≤ 1000000) (HL.out.later g))
      have D2 := Lib.hid (fun w1 (g : Below w.heap.size w w1) => of_any (c := c2) w1 (HD.out.later HD.out.lt g) (by omega : n2 ≤ 1000000) (HM.out.later g))
      have BL := Lib.hid (textS_byt okl.out)
      have BM := Lib.hid (textS_byt okm.out)
      obtain ⟨X, hX⟩ : ∃ X, textS l = X := ⟨_, rfl⟩
      obtain ⟨Y, hY⟩ : ∃ X, textS m = X := ⟨_, rfl⟩
      rw [hX] at ET ml BL OM C1
      rw [hY] at ET mm BM OM C2
      have HX := Lib.hid hX
      have HY := Lib.hid hY
      obtain ⟨P, hP⟩ : ∃ P, strB X = P := ⟨_, rfl⟩
      obtain ⟨R, hR⟩ : ∃ P, strB Y = P := ⟨_, rfl⟩
      rw [hP] at ET C1
      rw [hR] at ET C2
      have HP := Lib.hid hP
      have HR := Lib.hid hR
      have NE : (s != s) = false := by cases s <;> rfl
      have EE : (s == s) = true := by cases s <;> rfl
      have O1 := Lib.hid (ofS_byt l)
      have O2 := Lib.hid (ofS_byt m)
      obtain ⟨u, hu⟩ : ∃ u, ofS l = u := ⟨_, rfl⟩
      obtain ⟨v, hv⟩ : ∃ u, ofS m = u := ⟨_, rfl⟩
      rw [hu] at O1 OZ OM D1
      rw [hv] at O2 OZ OM D2
      obtain ⟨U, hU⟩ : ∃ U, strB u = U := ⟨_, rfl⟩
      obtain ⟨V, hV⟩ : ∃ U, strB v = U := ⟨_, rfl⟩
      rw [hU] at D1
      rw [hV] at D2
      have HU := Lib.hid hU
      have HV := Lib.hid hV
      have QQ := Lib.hid (str_iff O1.out O2.out)
      rw [hU, hV] at QQ
      have lX := Lib.hid (show (vals (shaS X)).length = 32 by rw [vals_length]; exact shaS_len X)
      have lY := Lib.hid (show (vals (shaS Y)).length = 32 by rw [vals_length]; exact shaS_len Y)
      have EQH := eq_hash (shaS_len X) (shaS_len Y)
      obtain ⟨q, hq⟩ : ∃ q, eqB (shaS X) (shaS Y) = q := ⟨_, rfl⟩
      have QB : Hid (q = true ↔ shaS X = shaS Y) := Lib.hid (by rw [← hq]; unfold eqB; rw [decide_eq_true_iff])
      rw [hq] at EQH
      have S1 := Lib.hid (fun (A : Option Addr) (n c : Nat) (w : World) (h1 : n ≤ 274877906944) (h2 : Bs w A n X) => refSum_any (c := c) w h1 h2)
      have S2 := Lib.hid (fun (A : Option Addr) (n c : Nat) (w : World) (h1 : n ≤ 274877906944) (h2 : Bs w A n Y) => refSum_any (c := c) w h1 h2)
      obtain ⟨H1, hH1⟩ : ∃ H, shaS X = H := ⟨_, rfl⟩
      obtain ⟨H2, hH2⟩ : ∃ H, shaS Y = H := ⟨_, rfl⟩
      rw [hH1] at lX EQH QB OM S1
      rw [hH2] at lY EQH QB OM S2
      clear hX hY hP hR hu hv hU hV hq hH1 hH2 t0 t1
      obtain ⟨⟨t2, t3⟩, rfl⟩ | ⟨t2, t3⟩ := hs
      all_goals
        go_wp2_with fail
        refine (C1.out _ HB.out).mono ?_
        rintro e w1 ⟨rfl, hb⟩
        have BW := Lib.hid (HB.out.trans (hb.mono HB.out.size))
        clear hb HB
        go_wp2_with fail
        refine (C2.out _ BW.out).mono ?_
        rintro e w2 ⟨rfl, hb⟩
        replace BW := Lib.hid (BW.out.trans (hb.mono BW.out.size))
        clear hb
        go_wp2_with fail
        refine (C1.out _ BW.out).mono ?_
        rintro e w3 ⟨rfl, hb⟩
        replace BW := Lib.hid (BW.out.trans (hb.mono BW.out.size))
        clear hb
        obtain ⟨ca, wa, ra, Ra, ba⟩ := run_bytes BL.out w3
        rw [HP.out] at ra
        obtain ⟨x, hx⟩ : ∃ x, X.length = x := ⟨_, rfl⟩
        rw [hx] at ra Ra ml
        have CS := Lib.hid (S1.out _ _ ca wa (by omega) Ra)
        replace BW := Lib.hid (BW.out.trans (ba.mono BW.out.size))
        clear Ra ba hx
        go_wp2_with fail
        refine CS.out.mono ?_
        rintro e w4 ⟨rfl, hb⟩
        replace BW := Lib.hid (BW.out.trans (hb.mono BW.out.size))
        clear hb ra CS
        go_wp2_with (refine wpList_store_ro rfl (.tmp 7) (.tmp 51) rfl rfl rfl row26 (Ro.new w4 27 (vals z32)) rfl lX.out (vals_one _) ?_)
        intro w5 R5 g5
        have hb := box_store g5
        replace BW := Lib.hid (BW.out.trans (hb.mono BW.out.size))
        have R1 := Lib.hid R5
        obtain ⟨k1, hk1⟩ : ∃ k, w4.heap.size = k := ⟨_, rfl⟩
        rw [hk1] at R1 ⊢
        clear hb R5 g5 hk1
        go_wp2_with fail
        refine (C2.out _ BW.out).mono ?_
        rintro e w6 ⟨rfl, hb⟩
        replace BW := Lib.hid (BW.out.trans (hb.mono BW.out.size))
        replace R1 := Lib.hid (R1.out.later hb)
        clear hb
        obtain ⟨cb, wb, rb, Rb, bb⟩ := run_bytes BM.out w6
        rw [HR.out] at rb
        obtain ⟨y, hy⟩ : ∃ x, Y.length = x := ⟨_, rfl⟩
        rw [hy] at rb Rb mm
        have CS := Lib.hid (S2.out _ _ cb wb (by omega) Rb)
        replace BW := Lib.hid (BW.out.trans (bb.mono BW.out.size))
        replace R1 := Lib.hid (R1.out.later bb)
        clear Rb bb hy
        go_wp2_with fail
        refine CS.out.mono ?_
        rintro e w7 ⟨rfl, hb⟩
        replace BW := Lib.hid (BW.out.trans (hb.mono BW.out.size))
        replace R1 := Lib.hid (R1.out.later hb)
        clear hb rb CS
        go_wp2_with (refine wpList_store_ro rfl (.tmp 8) (.tmp 55) rfl rfl rfl row26 (Ro.new w7 27 (vals z32)) rfl lY.out (vals_one _) ?_)
        intro w8 R8 g8
        have hb := box_store g8
        replace BW := Lib.hid (BW.out.trans (hb.mono BW.out.size))
        replace R1 := Lib.hid (R1.out.later hb)
        have R2 := Lib.hid R8
        obtain ⟨k2, hk2⟩ : ∃ k, w7.heap.size = k := ⟨_, rfl⟩
        rw [hk2] at R2 ⊢
        clear hb R8 g8 hk2 C1 C2 S1 S2 ET NE
        by_cases z1 : n1 = 0 ∨ n2 = 0
        · have QE : (U.toList == V.toList) = _ := Bool.eq_iff_iff.2 (QQ.out.trans ((OZ.out (by rw [NL.out, NM.out]; exact z1)).trans SM.out.symm))
          have zz : ((n1 : Int) == 0) = true ∨ (((n1 : Int) == 0) = false ∧ ((n2 : Int) == 0) = true) := by
            simp only [beq_iff_eq, beq_eq_false_iff_ne]; omega
          clear z1 R1 R2 EQH lX lY
          obtain z1 | ⟨z1, z2⟩ := zz
          all_goals
            go_wp2_with fail
            refine (D1.out _ BW.out).mono ?_
            rintro e w9 ⟨rfl, hb⟩
            replace BW := Lib.hid (BW.out.trans (hb.mono BW.out.size))
            clear hb
            go_wp2_with fail
            refine (D2.out _ BW.out).mono ?_
            rintro e w10 ⟨rfl, hb⟩
            replace BW := Lib.hid (BW.out.trans (hb.mono BW.out.size))
            clear hb
            go_wp2_with fail
            refine (FIN.out _ BW.out).mono ?_
            rintro e w11 ⟨rfl, hb⟩
            replace BW := Lib.hid (BW.out.trans (hb.mono BW.out.size))
            clear hb
            go_wp2_with fail
            go_ret
            exact ⟨rfl, BW.out⟩
        · have QE : (U.toList == V.toList) = q := Bool.eq_iff_iff.2 (QQ.out.trans ((OM.out (by rw [NL.out]; omega) (by rw [NM.out]; omega)).trans QB.out.symm))
          have z2 : ((n1 : Int) == 0) = false := by rw [beq_eq_false_iff_ne]; omega
          have z3 : ((n2 : Int) == 0) = false := by rw [beq_eq_false_iff_ne]; omega
          have EQ2 : (q == q) = true := by cases q <;> rfl
          clear z1 EE
          go_wp2_with fail
          refine wp_region_after (by kernel_rfl) (by kernel_rfl) ?_
          have E1 : Hid (∀ u : After w8, Calls Tryd.prog 7 #[.slice A1 n1 c1] u.w fun e w' => e = .returned (.string U) ∧ Below u.w.heap.size u.w w') := Lib.hid (fun u => D1.out _ (BW.out.trans (u.below.mono BW.out.size)))
          have E2 : Hid (∀ u : After w8, Calls Tryd.prog 7 #[.slice A2 n2 c2] u.w fun e w' => e = .returned (.string V) ∧ Below u.w.heap.size u.w w') := Lib.hid (fun u => D2.out _ (BW.out.trans (u.below.mono BW.out.size)))
          have E3 : Hid (∀ u : After w8, Calls Tryd.prog 6 #[] u.w fun e w' => e = .returned (.bool true) ∧ Below u.w.heap.size u.w w') := Lib.hid (fun u => FIN.out _ (BW.out.trans (u.below.mono BW.out.size)))
          repeat (go_big_quiet_step (fail))
          go_big_quiet_step (exact after_call (E1.out _))
          repeat (go_big_quiet_step (fail))
          go_big_quiet_step (exact after_call (E2.out _))
          repeat (go_big_quiet_step (fail))
          go_big_quiet_want
          refine quiet_load_part (.tmp 7) rfl rfl row26 (fun w9 h9 => by obtain ⟨u, rfl⟩ := h9; exact range_later (rangeOf R1.out) R1.out.lt u.below) lX.out ?_
          simp only [Act.put, List.setIfInBounds_toArray, List.set_cons_succ, List.set_cons_zero]
          go_big_quiet_on
          go_big_quiet_want
          refine quiet_load_part (.tmp 8) rfl rfl row26 (fun w9 h9 => by obtain ⟨u, rfl⟩ := h9; exact range_later (rangeOf R2.out) R2.out.lt u.below) lY.out ?_
          simp only [Act.put, List.setIfInBounds_toArray, List.set_cons_succ, List.set_cons_zero]
          go_big_quiet_on
          repeat (go_big_quiet_step (fail))
          go_big_quiet_step (exact after_call (E3.out _))
          repeat (go_big_quiet_step (fail))
          refine wpQuiet_nil ?_
          rintro wz ⟨u, rfl⟩
          have Bz := Lib.hid (BW.out.trans (u.below.mono BW.out.size))
          go_wp2_with fail
          go_ret
          exact ⟨rfl, Bz.out⟩
end Go.Proofs.YtipbpecihbmneaaDoor
