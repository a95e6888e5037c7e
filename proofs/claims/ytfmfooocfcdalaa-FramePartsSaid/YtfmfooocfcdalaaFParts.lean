/- FrameParts: in whatever parts bytes are fed, the lines are the same. No condition. -/
import Derived.Test.YtfmfooocfcdalaaPartsM
namespace Go.Proofs.Ytfmfooocfcdalaa
open Go.RowKit

attribute [local go_sem ↓] appL_mark

theorem nth_mem {L : List Nat} {j : Nat} (h : j < L.length) : nth L j ∈ L := by
  unfold nth
  rw [List.getD_eq_getElem?_getD, List.getElem?_eq_getElem h]
  exact List.getElem_mem h

set_option maxRecDepth 100000 in
set_option maxHeartbeats 8000000 in
theorem parts_law {A B : Option Addr} {n c m d : Nat} {L C : List Nat} {w : World} (hnc : n ≤ c) (hL : Bs w A n L) (hC : U16s w B m C) :
    Calls Try.prog 4 #[.slice A n c, .slice B m d] w (Yes w) := by
  have HL := Lib.hid hL
  have HC := Lib.hid hC
  clear hL hC
  by_cases hv : 16384 < n
  · have t1 : decide ((16384 : Int) < (n : Int)) = true := decide_eq_true (by omega)
    go_enter Try.func4, Try.ntmps4
    go_wp2_with fail
    refine (works_any _).mono ?_
    rintro e w1 ⟨rfl, hb⟩
    have HB := Lib.hid hb
    clear hb
    go_wp2_with fail
    go_ret
    exact ⟨rfl, HB.out⟩
  have t1 : decide ((16384 : Int) < (n : Int)) = false := decide_eq_false (by omega)
  by_cases hu : 200 < m
  · have t2 : decide ((200 : Int) < (m : Int)) = true := decide_eq_true (by omega)
    go_enter Try.func4, Try.ntmps4
    go_wp2_with fail
    refine (works_any _).mono ?_
    rintro e w1 ⟨rfl, hb⟩
    have HB := Lib.hid hb
    clear hb
    go_wp2_with fail
    go_ret
    exact ⟨rfl, HB.out⟩
  have t2 : decide ((200 : Int) < (m : Int)) = false := decide_eq_false (by omega)
  have hn : n ≤ 16384 := by omega
  have hm : m ≤ 200 := by omega
  have hLn := HL.out.len
  have HLn := Lib.hid hLn
  clear hv hu
  go_enter Try.func4, Try.ntmps4
  go_wp2_with fail
  refine (new_any _).mono ?_
  rintro e w1 ⟨rfl, rfl⟩
  go_wp2_with fail
  refine (new_any _).mono ?_
  rintro e w1 ⟨rfl, rfl⟩
  rw [World.size_alloc]
  obtain ⟨W1, hW1⟩ : ∃ W1, W1 = (w.alloc (.cells #[.slice none 0 0, .bool false] 48)).alloc (.cells #[.slice none 0 0, .bool false] 48) := ⟨_, rfl⟩
  have F1 : Hid (FrB W1 w.heap.size (.slice none 0 0) false) := Lib.hid (by rw [hW1]; exact (new_frB w).alloc _)
  have G1 : Hid (FrB W1 (w.heap.size + 1) (.slice none 0 0) false) := Lib.hid (by
    rw [hW1]
    have := new_frB (w.alloc (.cells #[.slice none 0 0, .bool false] 48))
    rwa [World.size_alloc] at this)
  have B1 : Hid (Below w.heap.size w W1) := Lib.hid (by rw [hW1]; exact ((Below.refl _ _).alloc (Nat.le_refl _) _).alloc (by simp only [World.size_alloc]; omega) _)
  have z1 : W1.heap.size = w.heap.size + 2 := by rw [hW1]; simp
  rw [← hW1]
  clear hW1 hLn
  go_wp2_with fail
  refine (copied_any _ (by omega) (HL.out.later B1.out)).mono ?_
  rintro e w2 ⟨A2, n2, c2, rfl, hc2, O⟩
  have e2 : n2 = n := by rw [← O.len, HLn.out]
  subst e2
  have R2 := Lib.hid O.reads
  have C2 := Lib.hid O.cap
  have B2 := Lib.hid (B1.out.trans (O.bel.mono (by omega)))
  have F2 := Lib.hid (frB_later F1.out O.bel)
  have G2 := Lib.hid (frB_later G1.out O.bel)
  have N2 : Hid (∀ a, A2 = some a → W1.heap.size ≤ a.block) := Lib.hid fun a e => (O.new a.block (by rw [e]; rfl)).1
  have z2 : W1.heap.size ≤ w2.heap.size := O.bel.size
  clear O
  go_wp2_with fail
  obtain ⟨ls, M1, hls0⟩ : ∃ ls M1, feedS ([], [], false) L = (ls, M1, false) := by
    have h := (feedS_few L [] [] (by have := HLn.out; simp; omega)).1
    exact ⟨_, _, Prod.ext rfl (Prod.ext rfl h)⟩
  have hls := Lib.hid hls0
  clear hls0
  refine (fed_told (w0 := w) (v0 := .slice none 0 0) (M0 := []) _ F2.out ⟨World.ownsRow_nil _ _ _ _, allB_nil, B2.out⟩ (Nat.le_refl _) (by simp [Value.ownBlock]) (by simp) R2.out hc2 C2.out (by omega) (fun _ a e => ⟨by have := N2.out a e; omega, by simp [Value.ownBlock]⟩) hls.out).mono ?_
  rintro e W3 ⟨v3, lv, vs, rfl, hM1, J, F3⟩
  have hsm := feedS_small L ([], [], false) (by simp) (by simp)
  rw [hls.out] at hsm
  obtain ⟨lB, lc, rfl, ll⟩ := FJ.llA J hsm.1
  have hsl : ls.length ≤ n2 := by have := hsm.2; have := HLn.out; simp at *; omega
  have B3 := Lib.hid J.held.bel
  have LL3 := Lib.hid ll
  have F3 := Lib.hid F3
  have zJ := J.size
  have G3 : Hid (FrB W3 (w.heap.size + 1) (.slice none 0 0) false) := Lib.hid ((J.old _ G2.out.lt (by omega) (by simp [Value.ownBlock])).trans G2.out)
  obtain ⟨vA, vc, rfl, _⟩ := J.held.shape
  have z4 : w.heap.size + 2 ≤ W3.heap.size := by omega
  have P0 : PE w W3 (w.heap.size + 1) L 0 (.slice none 0 0) W3 := PE.start G3.out B3.out
  have P0 := Lib.hid P0
  clear J ll hsm hM1
  go_wp2_with fail
  go_loopw [9, 10, 11] (fun tv at_ i wr => ∃ p k : Nat, p ≤ n2 ∧ k ≤ m + 1 ∧ at_ = .int .i64 (p : Nat) ∧ i = .int .i64 (k : Nat) ∧ (k = m + 1 → p = n2) ∧ PE w W3 (w.heap.size + 1) L p tv wr) (fun _ _ i _ => m + 1 - (intOf i).toNat)
  case atStart => exact ⟨0, 0, by omega, by omega, rfl, rfl, fun h => by omega, P0.out⟩
  case round =>
    obtain ⟨p, k, hp, hk, rfl, rfl, hend, pe⟩ := hrel
    rename_i tv
    have PE0 := Lib.hid pe
    have HE := Lib.hid hend
    have HBW : Hid (Below w.heap.size w wr) := Lib.hid pe.bel
    clear pe hend
    by_cases hlt : k ≤ m
    · have t3 : decide ((k : Int) ≤ (m : Int)) = true := decide_eq_true (by omega)
      by_cases hkm : k < m
      · have t4 : decide ((k : Int) < (m : Int)) = true := decide_eq_true (by omega)
        obtain ⟨b, rfl, hb, hcel⟩ := (HC.out.later HBW.out).cel (by omega)
        have hk1 := hcel k hkm
        have hx2 : nth C k < 65536 := by
          have hl := HC.out.len
          refine HC.out.byt _ ?_
          simp only [nth, List.getD, List.getElem?_eq_getElem (show k < C.length by omega), Option.getD_some]
          exact List.getElem_mem _
        obtain ⟨x, hx⟩ : ∃ x, nth C k = x := ⟨_, rfl⟩
        rw [hx] at hk1 hx2
        clear hcel hx
        obtain ⟨t, ht⟩ : ∃ t : Nat, min (n2 : Int) ((p : Int) + (x : Int) % 100) = (t : Int) := ⟨(min (n2 : Int) ((p : Int) + (x : Int) % 100)).toNat, by omega⟩
        have ht1 : p ≤ t := by omega
        have ht2 : t ≤ n2 := by omega
        have HX : Hid (Bs wr (if c = p then A else A.map (fun x => x.add p)) (t - p) ((L.drop p).take (t - p))) := Lib.hid ((HL.out.later HBW.out).cut (k := p) (m := t - p) (c := c) (by omega) (by omega))
        by_cases hcp : c = p
        all_goals first | rw [if_neg hcp] at HX | (subst hcp; rw [if_pos rfl] at HX)
        all_goals go_wp2_with fail
        all_goals
          refine (copied_any _ (by omega) HX.out).mono ?_
          rintro e wa ⟨A5, n5, c5, rfl, hc5, O⟩
          have FC := Lib.hid (PE0.out.feed (t := t) O.bel (by omega) (by omega) ht1 (by have := HLn.out; omega) (by have := HLn.out; omega) O.reads hc5 O.cap (fun a e => (O.new a.block (by rw [e]; rfl)).1))
          clear O
          go_wp2_with fail
          refine FC.out.mono ?_
          rintro e W5 ⟨lv, rfl, pm⟩
          obtain ⟨tv', W6, ha, pe'⟩ := pm.told (by have := HLn.out; omega) (by have := HLn.out; omega) (by omega) (by omega) 30
          rw [appL_mark] at ha
          have PE1 := Lib.hid pe'
          clear pe' pm FC
          go_wp2_with fail
          refine ⟨⟨t, k + 1, by omega, by omega, rfl, by go_num, fun h => by omega, PE1.out⟩, by simp [intOf]; omega⟩
      · have hkm2 : m ≤ k := by omega
        have t4 : decide ((k : Int) < (m : Int)) = false := decide_eq_false (by omega)
        have HX : Hid (Bs wr (if c = p then A else A.map (fun x => x.add p)) (n2 - p) ((L.drop p).take (n2 - p))) := Lib.hid ((HL.out.later HBW.out).cut (k := p) (m := n2 - p) (c := c) (by omega) (by omega))
        by_cases hcp : c = p
        all_goals first | rw [if_neg hcp] at HX | (subst hcp; rw [if_pos rfl] at HX; replace HX : Hid (Bs wr A 0 ((L.drop c).take (n2 - c))) := Lib.hid ⟨by have := HX.out.len; omega, HX.out.byt, fun h => absurd h (by omega)⟩)
        all_goals go_wp2_with fail
        all_goals
          refine (copied_any _ (by omega) HX.out).mono ?_
          rintro e wa ⟨A5, n5, c5, rfl, hc5, O⟩
          have FC := Lib.hid (PE0.out.feed (t := n2) O.bel (by omega) (by omega) hp (by have := HLn.out; omega) (by have := HLn.out; omega) O.reads hc5 O.cap (fun a e => (O.new a.block (by rw [e]; rfl)).1))
          clear O
          go_wp2_with fail
          refine FC.out.mono ?_
          rintro e W5 ⟨lv, rfl, pm⟩
          obtain ⟨tv', W6, ha, pe'⟩ := pm.told (by have := HLn.out; omega) (by have := HLn.out; omega) (by omega) (by omega) 30
          rw [appL_mark] at ha
          have PE1 := Lib.hid pe'
          clear pe' pm FC
          go_wp2_with fail
          refine ⟨⟨n2, k + 1, by omega, by omega, rfl, by go_num, fun _ => rfl, PE1.out⟩, by simp [intOf]; omega⟩
    · obtain rfl : k = m + 1 := by omega
      obtain rfl := HE.out rfl
      have t3 : decide ((m : Int) + 1 ≤ (m : Int)) = false := decide_eq_false (by omega)
      obtain ⟨v2, us, Ls, M, ps⟩ := PE0.out
      have hfed := ps.fed
      rw [List.take_of_length_le (by have := HLn.out; omega), hls.out] at hfed
      simp only [Prod.mk.injEq, and_true] at hfed
      obtain ⟨rfl, rfl⟩ := hfed
      obtain ⟨B4, c4, rfl, ll4⟩ := ps.td.ll (PE.small ps).1
      have X4 := Lib.hid (LL3.out.kept ps.size (fun k h1 h2 => ps.old k h2 (by omega)))
      have F4 : Hid (FrB wr w.heap.size (.slice vA M1.length vc) false) := Lib.hid ((ps.old _ (by omega) (by omega)).trans F3.out)
      obtain ⟨vB, vd, rfl, _⟩ := ps.held.shape
      have G4 := Lib.hid ps.fr
      have SA := Lib.hid (sames_any (c := lc) (d := c4) wr (by omega) (by omega) X4.out.ll ll4)
      clear ps ll4
      have B4 := Lib.hid HBW.out
      go_wp2_with fail
      refine SA.out.mono ?_
      rintro e w6 ⟨rfl, hb⟩
      rw [show decide True = true from rfl]
      have B6 := Lib.hid (B4.out.trans (hb.mono B4.out.size))
      have X6 := Lib.hid (X4.out.kept hb.size (fun k _ h => hb.block k h))
      have F6 := Lib.hid (frB_later F4.out hb)
      have G6 := Lib.hid (frB_later G4.out hb)
      clear hb SA
      go_wp2_with fail
      refine (held_any F6.out).mono ?_
      rintro e w7 ⟨rfl, rfl⟩
      go_wp2_with fail
      refine (held_any G6.out).mono ?_
      rintro e w7 ⟨rfl, rfl⟩
      go_wp2_with fail
      refine (over_any F6.out).mono ?_
      rintro e w7 ⟨rfl, rfl⟩
      go_wp2_with fail
      refine (over_any G6.out).mono ?_
      rintro e w7 ⟨rfl, rfl⟩
      go_wp2_with fail
      have hback := Lib.hid (feedS_back L [] [] ls M1 hls.out)
      have hclean := Lib.hid (feedS_clean L ([], [], false) (by simp) (by simp))
      have hel : (ends ls).length + M1.length = p := by
        have h := congrArg List.length hback.out
        simp [ends] at h
        have := HLn.out
        omega
      go_loopw [15, 16] (fun bv i wr => ∃ (q n : Nat) (E : List Nat), q ≤ ls.length ∧ i = .int .i64 (q : Nat) ∧ E = ends (ls.take q) ∧ Own w7 bv n E wr) (fun _ i _ => ls.length - (intOf i).toNat)
      case atStart => exact ⟨0, 0, [], by omega, rfl, rfl, World.ownsRow_nil _ _ _ _, allB_nil, Below.refl _ _⟩
      case round =>
        obtain ⟨q, nb, E, hq, rfl, hE, OB⟩ := hrel
        rename_i bv
        have OB := Lib.hid OB
        have hE2 := Lib.hid hE
        have hnb : nb ≤ 16384 := by
          have h1 := OB.out.len
          have h2 := ends_len ls q
          rw [← hE2.out] at h2
          omega
        clear hE
        obtain ⟨bA, bc, rfl, hbc⟩ := OB.out.shape
        by_cases hlt : q < ls.length
        · have t5 : decide ((q : Int) < (ls.length : Int)) = true := decide_eq_true (by omega)
          obtain ⟨b, rfl, hb, hc⟩ := (X6.out.ll.later OB.out.bel).row (by omega)
          obtain ⟨A9, n9, c9, ce, hn9, rd⟩ := hc q hlt
          have RD := Lib.hid rd
          clear hc rd
          go_wp2_with fail
          go_loop [17] (fun k => ∃ j : Nat, j ≤ n9 ∧ k = .int .i64 (j : Nat)) (fun k => n9 - (intOf k).toNat)
          case atStart => exact ⟨0, by omega, rfl⟩
          case round =>
            obtain ⟨j, hj, rfl⟩ := hrel
            by_cases hj2 : j < n9
            · obtain ⟨a, rfl, ha, ca, la⟩ := RD.out.at_ hj2
              have hy : nth (ls.getD q []) j ≠ 10 := by
                have e : ls.getD q [] = ls[q] := by simp [List.getD, List.getElem?_eq_getElem hlt]
                have hl9 := RD.out.len
                refine hclean.out (ls.getD q []) ?_ _ (nth_mem (by omega))
                rw [hls.out, e]
                exact List.getElem_mem hlt
              obtain ⟨y, hy2⟩ : ∃ y, nth (ls.getD q []) j = y := ⟨_, rfl⟩
              rw [hy2] at ca la hy
              have t6 : ((y : Int) == 10) = false := by rw [beq_eq_false_iff_ne]; omega
              clear hy2
              go_wp2_with fail
              go_round
              case rel => exact ⟨j + 1, by omega, by go_num⟩
              case measure => simp [intOf]; omega
            · go_wp2_with (at_builtin; refine wpList_app rfl _ _ rfl rfl OB.out rfl RD.out ?d1 ?_)
              case d1 => omega
              intro A' c' w8 hc8 O8 g8
              have O8 := Lib.hid O8
              clear g8
              go_wp2_with (at_builtin; refine wpList_app rfl _ _ rfl rfl (O8.out.later ((Below.refl _ _).alloc (Nat.le_refl _) _)) rfl (Bs.lit1 _ (by decide)) ?d2 ?_)
              case d2 => omega
              intro A'' c'' w9 hc9 O9 g9
              have O9 := Lib.hid O9
              clear g9
              go_wp2_with fail
              go_roundw
              case rel => exact ⟨q + 1, nb + n9 + 1, _, by omega, by go_num, by rw [ends_take ls q hlt, ← hE2.out]; simp [List.getD, List.getElem?_eq_getElem hlt], O9.out⟩
              case measure => simp [intOf]; omega
        · obtain rfl : q = ls.length := by omega
          have hEe : E = ends ls := by have := hE2.out; rwa [List.take_length] at this
          have hEl := OB.out.len
          have hLE : L = E ++ M1 := by have := hback.out; simp [ends] at this; rw [hEe]; exact this.symm
          have RB : Hid (Bs wr A nb E) := Lib.hid (by
            have h := (HL.out.later B6.out).later OB.out.bel
            rw [hLE] at h
            exact h.head hEl)
          have t7 : ((nb : Int) + (M1.length : Int) == (p : Int)) = true := by rw [beq_iff_eq]; rw [hEe] at hEl; omega
          have hnbc : nb ≤ c := by rw [hEe] at hEl; omega
          have F7 := Lib.hid (frB_later F6.out OB.out.bel)
          have SB := Lib.hid (same_any (c := bc) (d := c) wr (by omega) (by omega) OB.out.reads RB.out)
          have B7 := Lib.hid (B6.out.trans (OB.out.bel.mono B6.out.size))
          clear hEe hEl hLE
          go_wp2_with fail
          refine (held_any F7.out).mono ?_
          rintro e w8 ⟨rfl, rfl⟩
          go_wp2_with fail
          refine SB.out.mono ?_
          rintro e w9 ⟨rfl, hb⟩
          rw [show eqB E E = true from eqB_yes rfl]
          have B9 := Lib.hid (B7.out.trans (hb.mono B7.out.size))
          clear hb SB
          go_wp2_with fail
          refine (works_any _).mono ?_
          rintro e wz ⟨rfl, hbz⟩
          have BZ := Lib.hid (B9.out.trans (hbz.mono B9.out.size))
          clear hbz
          go_wp2_with fail
          go_ret
          exact ⟨rfl, BZ.out⟩
end Go.Proofs.Ytfmfooocfcdalaa
