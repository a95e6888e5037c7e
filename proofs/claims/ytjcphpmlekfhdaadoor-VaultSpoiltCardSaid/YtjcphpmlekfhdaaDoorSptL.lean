/- VaultSpoilt: walked. Condition: the tables lie as laid. -/
import Derived.Test.YtjcphpmlekfhdaaDoorGs
import Derived.IntWalk
namespace Go.Proofs.YtjcphpmlekfhdaaDoor
open Go.RowKit

set_option maxRecDepth 100000 in
set_option maxHeartbeats 16000000 in
theorem spoilt_law {w : World} {n c at_ by_ : Nat} {sh : Bool} {B : Option Addr} {l : List (List Nat)} (hnc : n ≤ c) (hn : n ≤ 140737488351232) (hcm : c ≤ 9223372036854775807) (hR : Rows w anyP 1 ByR B n l) (hat : at_ < 65536) (hby : by_ < 256) (_ : True) (hLd : Laid w) : Calls Tryd.prog 5 #[.slice B n c, .int .u16 (at_ : Nat), .int .u8 (by_ : Nat), .bool sh] w fun e W => e = .returned (.bool true) ∧ Below w.heap.size w W := by
  have hln := hR.len
  have HL := Lib.hid hLd
  have HR := Lib.hid hR
  have WK := Lib.hid (works_any hLd)
  clear hLd hR
  go_enter Tryd.func5, Tryd.ntmps5
  go_wp2_with fail
  go_loopw [9, 10] (fun s i wr => ∃ j : Nat, j ≤ n ∧ i = .int .i64 (j : Nat) ∧ s = .int .i64 ((wideS (l.take j) : Nat) : Int) ∧ wideS (l.take j) ≤ 140737488360000 ∧ wr = w) (fun _ i _ => n - (intOf i).toNat)
  case atStart => exact ⟨0, Nat.zero_le _, rfl, rfl, Nat.zero_le _, rfl⟩
  case round =>
    obtain ⟨j, hj, rfl, rfl, hb, hwr⟩ := hrel
    obtain rfl := hwr.symm
    obtain ⟨S, hS⟩ : ∃ S, wideS (l.take j) = S := ⟨_, rfl⟩
    rw [hS] at hb
    simp only [hS]
    by_cases hjn : j < n
    · have t1 : decide ((j : Int) < (n : Int)) = true := decide_eq_true (by omega)
      have hjl : j < l.length := by omega
      by_cases h8 : 4096 < S
      · have t2 : decide ((S : Int) ≤ 4096) = false := decide_eq_false (by omega)
        have t3 : decide ((4096 : Int) < (S : Int)) = true := decide_eq_true (by omega)
        clear hS
        go_wp2_with fail
        refine (WK.out).mono ?_
        rintro e W ⟨rfl, bW⟩
        have HB := Lib.hid bW
        clear bW
        go_wp2_with fail
        go_ret
        exact ⟨rfl, HB.out⟩
      · have t2 : decide ((S : Int) ≤ 4096) = true := decide_eq_true (by omega)
        obtain ⟨b, o, rfl⟩ := rows_some HR.out (by omega)
        obtain ⟨_, B1, cb, hc, _, hlim, _, _⟩ := by_at HR.out hjl
        have hnx := wide_take hjl
        obtain ⟨y, hy⟩ : ∃ y, l[j].length = y := ⟨_, rfl⟩
        rw [hy] at hc hnx hlim
        rw [hS] at hnx
        have HNX := Lib.hid hnx
        clear hnx hS hy
        go_wp2_with fail
        go_roundw
        case rel => exact ⟨j + 1, by omega, by go_num, by rw [HNX.out]; go_num, by rw [HNX.out]; omega, trivial⟩
        case measure => simp [intOf]; omega
    · have t1 : decide ((j : Int) < (n : Int)) = false := decide_eq_false (by omega)
      have e : l.take j = l := List.take_of_length_le (by omega)
      rw [e] at hS
      have HS := Lib.hid hS
      clear hS e
      by_cases h8 : 4096 < S
      · have t3 : decide ((4096 : Int) < (S : Int)) = true := decide_eq_true (by omega)
        go_wp2_with fail
        refine (WK.out).mono ?_
        rintro e W ⟨rfl, bW⟩
        have HB := Lib.hid bW
        clear bW
        go_wp2_with fail
        go_ret
        exact ⟨rfl, HB.out⟩
      have t3 : decide ((4096 : Int) < (S : Int)) = false := decide_eq_false (by omega)
      have HN := Lib.hid (new_p (w0 := w) (w := w) (X := fun b => b < w.heap.size) (Below.refl _ _) (fun _ h => h) (m := 32768) (by decide) (by decide))
      have hnl : n ≤ 4096 := by have := wide_len l; have := HS.out; omega
      have HLG : Hid (longS l = false) := Lib.hid (not_long (by have := HS.out; omega))
      have HR32 : Hid (∀ r ∈ l, r.length ≤ 32768) := Lib.hid fun r hr => by have := wide_mem hr; have := HS.out; omega
      have hFl : (frontS 1 0 ++ framesS 1 0 l).length = 44 + S := by rw [List.length_append, frontS_len, framesS_len, HS.out]
      have H1 := Lib.hid (new_file (m := 32768) (by decide))
      have H2 := Lib.hid (file_add (m := 32768) (l := l) (by have := HS.out; omega) HLG.out)
      obtain ⟨F, hF⟩ : ∃ F, frontS 1 0 ++ framesS 1 0 l = F := ⟨_, rfl⟩
      rw [hF] at hFl H2
      have HF := Lib.hid hF
      have HFL := Lib.hid hFl
      clear hF hFl
      go_wp2_with fail
      refine (HN.out).mono ?_
      rintro e W1 ⟨d, rfl, hd1, D1', b1⟩
      have D1 := Lib.hid D1'
      have hX1 : Hid (∀ b, b < w.heap.size → b < W1.heap.size) := Lib.hid fun b hb => Nat.lt_of_lt_of_le hb b1.size
      clear hd1 D1' b1 HN t1 t3
      go_wp2_with fail
      have ho := open_any HL.out D1.out hX1.out (Nat.le_trans (Nat.le_of_eq (rfl : (newD 32768).cnt = 0)) (Nat.zero_le _))
      rw [H1.out] at ho
      dsimp only at ho
      refine ho.mono ?_
      clear ho
      rintro e W2 h
      rcases h with ⟨h, _⟩ | ⟨_, v, r, Y, rfl, hv, hV, ⟨A, c2, hr, hc, hR2⟩, hY, hD, hK⟩
      · exact absurd rfl h
      have hr' : r = .slice A 0 c2 := hr
      subst hr'
      have V2 : Hid (Vs w d v (fun b => b < w.heap.size ∨ b = v) (Go.Proofs.YtjcphpmlekfhdaaDoor.D1 32768 ⟨frontS 1 0, []⟩) 1 1 0 false W2) := Lib.hid ⟨hD.narrow fun b h => h.elim .inl fun e => .inr (.inl e), .inr rfl, hV, by have := D1.out.lt; omega⟩
      clear hr hv hV hc hR2 hY hD hK D1 H1 hX1
      have ha := add_s (n := n) (c := c) HL.out V2.out (Rows.later byM HR.out V2.out.dp.bel) (by omega) (by decide) (by decide) (by have := HS.out; omega) (by decide)
      rw [H2.out] at ha
      dsimp only at ha
      go_wp2_with fail
      refine ha.mono ?_
      clear ha
      rintro e W3 ⟨rfl, V3', K3⟩
      have V3 := Lib.hid V3'
      clear V3' K3 V2
      go_wp2_with fail
      refine (read_p V3.out.dp (show 0 ≤ 1073741823 by decide) 1 (L := F) (x := 0) rfl).mono ?_
      rintro e W4 ⟨A4, n4, c4, rfl, hc4, B4, D4, b4⟩
      obtain rfl : n4 = 44 + S := by rw [← HFL.out]; exact B4.len.symm
      have HB4 := Lib.hid B4
      have V4 := Lib.hid (V3.out.later b4)
      clear B4 D4 b4 V3
      obtain ⟨k, hk⟩ : ∃ k, at_ % (44 + S) = k := ⟨_, rfl⟩
      have hk2 : k < 44 + S := by rw [← hk]; exact Nat.mod_lt _ (by omega)
      have hki : (at_ : Int) % ((44 + S : Nat) : Int) = (k : Int) := by rw [← hk]; exact (Int.natCast_emod _ _).symm
      clear hk
      obtain ⟨q, hq⟩ : ∃ q, 44 + S = q := ⟨_, rfl⟩
      rw [hq] at hk2 hki HB4 hc4 ⊢
      have hq44 : 44 ≤ q ∧ q ≤ 4140 := by omega
      have HQ := Lib.hid hq
      have hq1 : (S : Int) + 44 = (q : Int) := by omega
      obtain ⟨a4, rfl, ha4, _⟩ := HB4.out.cel (by omega)
      have O5 := Lib.hid (own_empty W4)
      have b5 : Below W4.heap.size W4 (W4.alloc (.cells #[] 5)) := (Below.refl _ _).alloc (Nat.le_refl _) _
      have R5 : Hid (Bs (W4.alloc (.cells #[] 5)) (some a4) k (F.take k)) := Lib.hid (by
        have h := HB4.out.later b5
        rw [← List.take_append_drop k F] at h
        exact h.head (by rw [List.length_take]; have := HFL.out; omega))
      clear b5 ha4
      go_wp2_with (at_builtin; refine wpList_appB rfl _ _ rfl rfl O5.out rfl R5.out (by omega) ?_)
      intro A6 N6 c6 W6 hc6 O6' G6'
      have O6 := Lib.hid O6'
      clear O6' G6' O5 R5
      cases sh with
      | true =>
        have OT := O6
        obtain ⟨T, hT⟩ : ∃ T, F.take k = T := ⟨_, rfl⟩


        rw [hT] at OT
        have HT : Hid (F.take k = T) := Lib.hid hT
        have HTL : Hid (T.length = N6) := Lib.hid OT.out.len
        have hnt : N6 ≤ 4140 := by rw [← HTL.out, ← HT.out, List.length_take]; omega
        clear hT O6
        obtain ⟨at3, hat3⟩ : ∃ x : Fl, Fl.add ⟨F, []⟩ (.c 0) = x := ⟨_, rfl⟩
        have hz3 : at3.at = [] := by rw [← hat3, Fl.at_add]; rfl
        have HC3 := Lib.hid (show (Go.Proofs.YtjcphpmlekfhdaaDoor.D1 32768 ⟨F, []⟩).cut 1 0 = (0, Go.Proofs.YtjcphpmlekfhdaaDoor.D1 32768 at3) by
          rw [← hat3]
          exact d1_cut (n := 0) (Nat.zero_le _))
        have hl3 : at3.loose.length ≤ 2 := by rw [← hat3]; show ([] ++ [Chg.c 0]).length ≤ 2; decide
        obtain ⟨y4, hy4⟩ : ∃ x : Fl, Fl.add at3 (.w T) = x := ⟨_, rfl⟩
        have hz4 : y4.at = T := by
          rw [← hy4, Fl.at_add, hz3]
          exact List.nil_append _
        have HC4 := Lib.hid (show (Go.Proofs.YtjcphpmlekfhdaaDoor.D1 32768 at3).write 1 T = (0, Go.Proofs.YtjcphpmlekfhdaaDoor.D1 32768 y4) by
          rw [← hy4]
          exact d1_write (by rw [hz3, HTL.out]; show N6 ≤ 32768; omega))
        have hl4 : y4.loose.length ≤ 2 := by rw [← hy4, ← hat3]; show (([] ++ [Chg.c 0]) ++ [Chg.w T]).length ≤ 2; exact Nat.le_refl _
        have HCN : Hid ((Go.Proofs.YtjcphpmlekfhdaaDoor.D1 32768 at3).cnt ≤ 2 ∧ (Go.Proofs.YtjcphpmlekfhdaaDoor.D1 32768 y4).cnt ≤ 2) := Lib.hid ⟨d1_cnt hl3, d1_cnt hl4⟩
        have HZ4 := Lib.hid hz4
        obtain ⟨X6, hX6⟩ : ∃ X6 : Nat → Prop, (fun b => (b < w.heap.size ∨ b = v) ∨ (W4.heap.size ≤ b ∧ b < W6.heap.size)) = X6 := ⟨_, rfl⟩
        have V6 : Hid (Vs w d v X6 (Go.Proofs.YtjcphpmlekfhdaaDoor.D1 32768 ⟨F, []⟩) 1 1 l.length false W6) := Lib.hid (V4.out.wide OT.out.bel (fun b hb => by rw [← hX6] at hb; exact hb) (by rw [← hX6]; exact .inl (.inr rfl)))
        have HX6 : Hid ((∀ b, b < w.heap.size → X6 b) ∧ ∀ b, W4.heap.size ≤ b → b < W6.heap.size → X6 b) := Lib.hid (by rw [← hX6]; exact ⟨fun b h => .inl (.inl h), fun b h1 h2 => .inr ⟨h1, h2⟩⟩)
        clear hat3 hy4 hz3 hz4 hl3 hl4 hX6
        go_wp2_with fail
        refine (cut_p V6.out.dp (show 0 ≤ 1073741823 by decide) 1 0 (x := 0) (S' := Go.Proofs.YtjcphpmlekfhdaaDoor.D1 32768 at3) (by rw [HC3.out]) (by rw [HC3.out])).mono ?_
        rintro e W7 ⟨rfl, D7', K7⟩
        have D7 := Lib.hid D7'
        have BT7 : Hid (BsP W7 (fun b => W4.heap.size ≤ b ∧ b < W6.heap.size) A6 N6 T) := Lib.hid (BsP.keep ⟨OT.out.reads, fun _ a e => by first | (subst e; exact OT.out.new _ rfl) | (injection e with e; subst e; exact OT.out.new _ rfl)⟩ (K7.narrow fun b h => HX6.out.2 b h.1 h.2))
        clear D7' K7
        go_wp2_with fail
        refine (write_p D7.out (by have := HCN.out; omega) 1 BT7.out.bs (fun h a e hd => (D7.out.lt).2.2 (hd ▸ HX6.out.2 _ (BT7.out.inP h a e).1 (BT7.out.inP h a e).2)) hc6 (own_cap OT.out) (x := 0) (S' := Go.Proofs.YtjcphpmlekfhdaaDoor.D1 32768 y4) (by rw [HC4.out]) (by rw [HC4.out])).mono ?_
        rintro e W8 ⟨rfl, D8', K8⟩
        have D8 := Lib.hid D8'
        have BT8 := Lib.hid (BT7.out.keep (K8.narrow fun b h => HX6.out.2 b h.1 h.2))
        have HB8 := Lib.hid D8'.bel
        clear D8' K8 BT7 D7
        go_wp2_with fail
        go_loopw [19, 20] (fun a b wq => ∃ j : Nat, j ≤ n ∧ a = .int .i64 (j : Nat) ∧ b = .int .i64 ((44 + wideS (l.take j) : Nat) : Int) ∧ (44 + wideS (l.take j) ≤ k ∨ j = 0) ∧ wq = W8) (fun a _ _ => n - (intOf a).toNat)
        case atStart => exact ⟨0, Nat.zero_le _, rfl, rfl, .inr rfl, rfl⟩
        case round =>
          obtain ⟨j, hj, rfl, rfl, hjk, hwr⟩ := hrel
          obtain rfl := hwr.symm
          have hSj : wideS (l.take j) ≤ S := by have := wide_take_le l j; have := HS.out; omega
          obtain ⟨z, hz⟩ : ∃ z, wideS (l.take j) = z := ⟨_, rfl⟩
          have HZ := Lib.hid hz
          rw [hz] at hjk hSj ⊢
          have RW := Lib.hid (Rows.later byM (Rows.weak (Q := fun b => b < w.heap.size) byM HR.out fun _ _ h => h) HB8.out)
          by_cases hgo : j < n ∧ z + 80 + (l[j]?.getD []).length ≤ k
          · obtain ⟨hjn, hle⟩ := hgo
            have hjl : j < l.length := by omega
            obtain ⟨b, o, rfl⟩ := rows_some HR.out (by omega)
            obtain ⟨_, B1, cb, hcl, _, hlim, _, _⟩ := by_at RW.out hjl
            have hnx := wide_take hjl
            rw [List.getElem?_eq_getElem hjl, Option.getD_some] at hle
            obtain ⟨y, hy⟩ : ∃ y, l[j].length = y := ⟨_, rfl⟩
            rw [hy] at hcl hnx hlim hle
            rw [hz] at hnx
            have HNX := Lib.hid hnx
            have t1 : decide ((j : Int) < (n : Int)) = true := decide_eq_true (by omega)
            have t2 : decide (44 + (z : Int) + 36 + (y : Int) ≤ (k : Int)) = true := decide_eq_true (by omega)
            clear hnx hz hy
            go_wp2_with fail
            go_roundw
            case rel => exact ⟨j + 1, by omega, by go_num, by rw [HNX.out]; go_num, .inl (by rw [HNX.out]; omega), trivial⟩
            case measure => simp [intOf]; omega
          · have HJ : Hid (j < l.length → k < 44 + wideS (l.take (j + 1))) := Lib.hid fun hjl => by
              have hnx := wide_take hjl
              have hle : ¬ (z + 80 + l[j].length ≤ k) := fun h => hgo ⟨by omega, by rw [List.getElem?_eq_getElem hjl, Option.getD_some]; exact h⟩
              rw [hnx, hz]
              omega
            have HJK : Hid (44 + wideS (l.take j) ≤ k ∨ j = 0) := Lib.hid (by rw [hz]; exact hjk)
            by_cases hjn : j < n
            · have hjl : j < l.length := by omega
              obtain ⟨b, o, rfl⟩ := rows_some HR.out (by omega)
              obtain ⟨_, B1, cb, hcl, _, hlim, _, _⟩ := by_at RW.out hjl
              have hle := HJ.out hjl
              rw [wide_take hjl, hz] at hle
              obtain ⟨y, hy⟩ : ∃ y, l[j].length = y := ⟨_, rfl⟩
              rw [hy] at hcl hlim hle
              have t1 : decide ((j : Int) < (n : Int)) = true := decide_eq_true (by omega)
              have t2 : decide (44 + (z : Int) + 36 + (y : Int) ≤ (k : Int)) = false := decide_eq_false (by omega)
              clear hgo hz hy
              go_wp2_with fail
              obtain ⟨R, hR⟩ : ∃ R, l.take j = R := ⟨_, rfl⟩
              have HRC : Hid (recOf T = R) := Lib.hid (by rw [← hR, ← HT.out, ← HF.out]; exact recs_cut HR32.out (by omega) HJK.out HJ.out)
              have HRL : Hid (R.length = j) := Lib.hid (by rw [← hR, List.length_take]; omega)
              have RR : Hid (Rows W8 X6 1 ByR (some ⟨b, o, none⟩) j R) := Lib.hid (by
                have h := RW.out
                rw [← List.take_append_drop j l] at h
                have h2 := (Rows.split (n := j) (m := n - j) (by rwa [Nat.add_sub_cancel' hj]) (by rw [List.length_take]; omega)).1
                rw [hR] at h2
                exact Rows.weak byM h2 fun b hb _ => HX6.out.1 b hb)
              clear hR
              have hTb := BT8.out.bs.byt
              obtain ⟨U, g, eU, AU, fU, mU, wU⟩ := find_open (m := 32768) HZ4.out hTb (by decide)
              rw [HRC.out] at eU AU wU
              have cU := cnt_openS (Go.Proofs.YtjcphpmlekfhdaaDoor.D1 32768 y4)
              rw [eU] at cU
              have cU' : U.cnt ≤ 6 := by have := HCN.out; exact Nat.le_trans cU (by omega)
              have ho := open_any HL.out D8.out (dp_inn D8.out) (by have := HCN.out; omega)
              rw [eU] at ho
              dsimp only at ho
              refine ho.mono ?_
              clear ho eU cU
              rintro e W10 h
              rcases h with ⟨h, _⟩ | ⟨_, v2, r4, Y2, rfl, hv2, hV2, ⟨A9, c9, hr9, hc9, hR9⟩, hY2, hD2, hK2⟩
              · exact absurd rfl h
              subst hr9
              have hwR : wideS R ≤ 4140 := by have := HTL.out; omega
              have hnr : j ≤ 4140 := by have := wide_len R; have := HRL.out; omega
              have SM := Lib.hid (same_self (c := c9) (d := c) W10 (Rows.weak byM hR9 fun _ _ _ => trivial) (Rows.weak byM (RR.out.keep byM hK2) fun _ _ _ => trivial) (by have := HRL.out; omega))
              have V10 : Hid (Vs w d v2 (fun b => X6 b ∨ b = v2 ∨ Y2 b) U 1 g R.length false W10) := Lib.hid ⟨hD2, .inr (.inl rfl), hV2, by have := D8.out.bel.size; omega⟩
              have HAU := Lib.hid AU
              have HFU := Lib.hid fU
              have HRM : Hid (38 ≤ U.room) := Lib.hid (by rw [AU.room, mU]; omega)
              clear hv2 hV2 hc9 hR9 hY2 hD2 hK2 AU fU mU wU hTb
              go_wp2_with fail
              refine (SM.out).mono ?_
              rintro e W11 ⟨rfl, b11⟩
              have V11 := Lib.hid (V10.out.later b11)
              clear b11 V10 SM
              go_wp2_with fail
              refine (b_on _).mono ?_
              rintro e W12 ⟨A12, c12, rfl, hc12, m12, B12, b12, p12⟩
              have V12 := V11.out.later b12
              have R13 := Lib.hid (new_1 (T := 35) hc12 m12 B12 p12 b12.size (by decide))
              have b13 : Below W12.heap.size W12 (W12.alloc (.cells #[.slice A12 2 c12] 35)) := (Below.refl _ _).alloc (Nat.le_refl _) _
              have V13 := Lib.hid (V12.later b13)
              have hw1 : wideS [[111, 110]] = 38 := by decide
              obtain ⟨T2, eT, AT, mT, fT, cT⟩ : ∃ T2, addT false 1 g R.length [[111, 110]] U = (0, T2, (R ++ [[111, 110]]).length, false) ∧ Alive T2 1 g (R ++ [[111, 110]]) ∧ T2.most = U.most ∧ T2.fuse = -1 ∧ T2.cnt ≤ U.cnt + 4 := by
                rcases add_full (L := [[111, 110]]) HAU.out HFU.out (by decide) with ⟨h, _⟩ | ⟨_, h⟩
                · have := HRM.out
                  omega
                · exact h
              have ha := add_s (n := 1) (c := 1) HL.out V13.out (Rows.weak byM R13.out fun _ _ _ => trivial) (by decide) (by have := HAU.out.fm.2.2.1; omega) (by have := HRL.out; omega) (by rw [hw1]; decide) (by omega)
              rw [eT] at ha
              dsimp only at ha
              have HAT := Lib.hid AT
              have HFT := Lib.hid fT
              have HCT : Hid (T2.cnt ≤ 10) := Lib.hid (by omega)
              clear V12 b12 b13 B12 p12 V11 eT AT fT mT cT hw1
              go_wp2_with fail
              refine ha.mono ?_
              clear ha
              rintro e W14 ⟨rfl, V14', K14⟩
              have V14 := Lib.hid V14'
              obtain ⟨U3, e3, A3, _, _⟩ := open_live HAT.out V14'.dp.ok HFT.out
              have ho := open_any HL.out V14'.dp (dp_inn V14'.dp) (by have := HCT.out; omega)
              rw [e3] at ho
              dsimp only at ho
              have HO := Lib.hid ho
              clear ho e3 A3 V14' K14 V13 R13
              go_wp2_with fail
              refine (HO.out).mono ?_
              rintro e W15 h
              rcases h with ⟨h, _⟩ | ⟨_, v3, r5, Y3, rfl, hv3, hV3, ⟨A15, c15, hr15, hc15, hR15⟩, hY3, hD3, hK3⟩
              · exact absurd rfl h
              subst hr15
              have hll : (R ++ [[111, 110]]).length = j + 1 := by rw [List.length_append, HRL.out]; rfl
              obtain ⟨b5, o5, rfl⟩ := rows_some hR15 (by omega)
              obtain ⟨B5, cb5, hc5, hbs5⟩ : ∃ B5 cb5, W15.cell? ⟨b5, o5 + j, none⟩ = some (.slice B5 2 cb5) ∧ Bs W15 B5 2 [111, 110] := by
                obtain ⟨_, B5, cb5, hc5, _, _, _, hbs5⟩ := by_at hR15 (k := j) (by omega)
                have hel : (R ++ [[111, 110]])[j]'(by omega) = [111, 110] := by
                  simp [← HRL.out]
                rw [hel] at hc5 hbs5
                exact ⟨B5, cb5, hc5, hbs5.bs⟩
              have s5 : (convert 35 9 (.slice B5 2 cb5)).run Tryd.prog W15 = .ok (.string ⟨#[111, 110]⟩) W15 := run_str hbs5
              have HB15 := Lib.hid hD3.bel
              rw [hll] at hc15 ⊢
              have t7 : (((j : Int) + 1) == ((j : Int) + 1)) = true := beq_self_eq_true _
              clear hv3 hV3 hR15 hY3 hD3 hK3 hbs5 hll HO
              go_wp2_with fail
              refine (works_any (HL.out.later HL.out.lt HB15.out)).mono ?_
              rintro e W16 ⟨rfl, b16⟩
              have HC := Lib.hid (HB15.out.trans (b16.mono HB15.out.size))
              clear b16 HB15
              go_wp2_with fail
              go_ret
              exact ⟨rfl, HC.out⟩
            · have t1 : decide ((j : Int) < (n : Int)) = false := decide_eq_false (by omega)
              clear hgo hz
              go_wp2_with fail
              obtain ⟨R, hR⟩ : ∃ R, l.take j = R := ⟨_, rfl⟩
              have HRC : Hid (recOf T = R) := Lib.hid (by rw [← hR, ← HT.out, ← HF.out]; exact recs_cut HR32.out (by omega) HJK.out HJ.out)
              have HRL : Hid (R.length = j) := Lib.hid (by rw [← hR, List.length_take]; omega)
              have RR : Hid (Rows W8 X6 1 ByR B j R) := Lib.hid (by
                have h := RW.out
                rw [← List.take_append_drop j l] at h
                have h2 := (Rows.split (n := j) (m := n - j) (by rwa [Nat.add_sub_cancel' hj]) (by rw [List.length_take]; omega)).1
                rw [hR] at h2
                exact Rows.weak byM h2 fun b hb _ => HX6.out.1 b hb)
              clear hR
              have hTb := BT8.out.bs.byt
              obtain ⟨U, g, eU, AU, fU, mU, wU⟩ := find_open (m := 32768) HZ4.out hTb (by decide)
              rw [HRC.out] at eU AU wU
              have cU := cnt_openS (Go.Proofs.YtjcphpmlekfhdaaDoor.D1 32768 y4)
              rw [eU] at cU
              have cU' : U.cnt ≤ 6 := by have := HCN.out; exact Nat.le_trans cU (by omega)
              have ho := open_any HL.out D8.out (dp_inn D8.out) (by have := HCN.out; omega)
              rw [eU] at ho
              dsimp only at ho
              refine ho.mono ?_
              clear ho eU cU
              rintro e W10 h
              rcases h with ⟨h, _⟩ | ⟨_, v2, r4, Y2, rfl, hv2, hV2, ⟨A9, c9, hr9, hc9, hR9⟩, hY2, hD2, hK2⟩
              · exact absurd rfl h
              subst hr9
              have hwR : wideS R ≤ 4140 := by have := HTL.out; omega
              have hnr : j ≤ 4140 := by have := wide_len R; have := HRL.out; omega
              have SM := Lib.hid (same_self (c := c9) (d := c) W10 (Rows.weak byM hR9 fun _ _ _ => trivial) (Rows.weak byM (RR.out.keep byM hK2) fun _ _ _ => trivial) (by have := HRL.out; omega))
              have V10 : Hid (Vs w d v2 (fun b => X6 b ∨ b = v2 ∨ Y2 b) U 1 g R.length false W10) := Lib.hid ⟨hD2, .inr (.inl rfl), hV2, by have := D8.out.bel.size; omega⟩
              have HAU := Lib.hid AU
              have HFU := Lib.hid fU
              have HRM : Hid (38 ≤ U.room) := Lib.hid (by rw [AU.room, mU]; omega)
              clear hv2 hV2 hc9 hR9 hY2 hD2 hK2 AU fU mU wU hTb
              go_wp2_with fail
              refine (SM.out).mono ?_
              rintro e W11 ⟨rfl, b11⟩
              have V11 := Lib.hid (V10.out.later b11)
              clear b11 V10 SM
              go_wp2_with fail
              refine (b_on _).mono ?_
              rintro e W12 ⟨A12, c12, rfl, hc12, m12, B12, b12, p12⟩
              have V12 := V11.out.later b12
              have R13 := Lib.hid (new_1 (T := 35) hc12 m12 B12 p12 b12.size (by decide))
              have b13 : Below W12.heap.size W12 (W12.alloc (.cells #[.slice A12 2 c12] 35)) := (Below.refl _ _).alloc (Nat.le_refl _) _
              have V13 := Lib.hid (V12.later b13)
              have hw1 : wideS [[111, 110]] = 38 := by decide
              obtain ⟨T2, eT, AT, mT, fT, cT⟩ : ∃ T2, addT false 1 g R.length [[111, 110]] U = (0, T2, (R ++ [[111, 110]]).length, false) ∧ Alive T2 1 g (R ++ [[111, 110]]) ∧ T2.most = U.most ∧ T2.fuse = -1 ∧ T2.cnt ≤ U.cnt + 4 := by
                rcases add_full (L := [[111, 110]]) HAU.out HFU.out (by decide) with ⟨h, _⟩ | ⟨_, h⟩
                · have := HRM.out
                  omega
                · exact h
              have ha := add_s (n := 1) (c := 1) HL.out V13.out (Rows.weak byM R13.out fun _ _ _ => trivial) (by decide) (by have := HAU.out.fm.2.2.1; omega) (by have := HRL.out; omega) (by rw [hw1]; decide) (by omega)
              rw [eT] at ha
              dsimp only at ha
              have HAT := Lib.hid AT
              have HFT := Lib.hid fT
              have HCT : Hid (T2.cnt ≤ 10) := Lib.hid (by omega)
              clear V12 b12 b13 B12 p12 V11 eT AT fT mT cT hw1
              go_wp2_with fail
              refine ha.mono ?_
              clear ha
              rintro e W14 ⟨rfl, V14', K14⟩
              have V14 := Lib.hid V14'
              obtain ⟨U3, e3, A3, _, _⟩ := open_live HAT.out V14'.dp.ok HFT.out
              have ho := open_any HL.out V14'.dp (dp_inn V14'.dp) (by have := HCT.out; omega)
              rw [e3] at ho
              dsimp only at ho
              have HO := Lib.hid ho
              clear ho e3 A3 V14' K14 V13 R13
              go_wp2_with fail
              refine (HO.out).mono ?_
              rintro e W15 h
              rcases h with ⟨h, _⟩ | ⟨_, v3, r5, Y3, rfl, hv3, hV3, ⟨A15, c15, hr15, hc15, hR15⟩, hY3, hD3, hK3⟩
              · exact absurd rfl h
              subst hr15
              have hll : (R ++ [[111, 110]]).length = j + 1 := by rw [List.length_append, HRL.out]; rfl
              obtain ⟨b5, o5, rfl⟩ := rows_some hR15 (by omega)
              obtain ⟨B5, cb5, hc5, hbs5⟩ : ∃ B5 cb5, W15.cell? ⟨b5, o5 + j, none⟩ = some (.slice B5 2 cb5) ∧ Bs W15 B5 2 [111, 110] := by
                obtain ⟨_, B5, cb5, hc5, _, _, _, hbs5⟩ := by_at hR15 (k := j) (by omega)
                have hel : (R ++ [[111, 110]])[j]'(by omega) = [111, 110] := by
                  simp [← HRL.out]
                rw [hel] at hc5 hbs5
                exact ⟨B5, cb5, hc5, hbs5.bs⟩
              have s5 : (convert 35 9 (.slice B5 2 cb5)).run Tryd.prog W15 = .ok (.string ⟨#[111, 110]⟩) W15 := run_str hbs5
              have HB15 := Lib.hid hD3.bel
              rw [hll] at hc15 ⊢
              have t7 : (((j : Int) + 1) == ((j : Int) + 1)) = true := beq_self_eq_true _
              clear hv3 hV3 hR15 hY3 hD3 hK3 hbs5 hll HO
              go_wp2_with fail
              refine (works_any (HL.out.later HL.out.lt HB15.out)).mono ?_
              rintro e W16 ⟨rfl, b16⟩
              have HC := Lib.hid (HB15.out.trans (b16.mono HB15.out.size))
              clear b16 HB15
              go_wp2_with fail
              go_ret
              exact ⟨rfl, HC.out⟩
      | false =>
        have O7 := Lib.hid (own_empty W6)
        have b7 : Below W6.heap.size W6 (W6.alloc (.cells #[] 5)) := (Below.refl _ _).alloc (Nat.le_refl _) _
        have R7 : Hid (Bs (W6.alloc (.cells #[] 5)) (some a4) q F) := Lib.hid ((HB4.out.later O6.out.bel).later b7)
        clear b7
        go_wp2_with (at_builtin; refine wpList_appB rfl _ _ rfl rfl O7.out rfl R7.out (by omega) ?_)
        intro A7 N7 c7 W7' hc7 O7' G7'
        have O8 : Own W6 (.slice A7 N7 c7) N7 F W7' := O7'
        obtain rfl : N7 = q := by have h1 := O8.len; have h2 := HFL.out; have h3 := HQ.out; omega
        clear O7' G7' O7 R7
        have xl := nth_lt O8.byt k
        have xo := xor_u8 (nth F k) by_ xl hby
        obtain ⟨g7, rfl, hg7, _, ck, fk, OT'⟩ := own_turn O8 hk2 (xor_lt xl hby)
        obtain ⟨x, hx⟩ : ∃ x, nth F k = x := ⟨_, rfl⟩
        rw [hx] at ck xo OT' xl
        obtain ⟨y, hy⟩ : ∃ y, x ^^^ by_ = y := ⟨_, rfl⟩
        rw [hy] at xo OT'
        obtain ⟨T, hT⟩ : ∃ T, F.set k y = T := ⟨_, rfl⟩
        rw [hT] at OT'
        obtain ⟨W7b, hW7⟩ : ∃ W7b, W7'.setCell ⟨g7, k, none⟩ (.int .u8 (y : Int)) = W7b := ⟨_, rfl⟩
        rw [hW7] at OT'
        have HW7 := Lib.hid hW7
        have OT := Lib.hid (OT'.weaken O6.out.bel)
        have HTL : Hid (T.length = N7) := Lib.hid OT'.len
        clear OT' O8 hx hy hT hW7 O6 hg7
        obtain ⟨at3, hat3⟩ : ∃ x : Fl, Fl.add ⟨F, []⟩ (.c 0) = x := ⟨_, rfl⟩
        have hz3 : at3.at = [] := by rw [← hat3, Fl.at_add]; rfl
        have HC3 := Lib.hid (show (Go.Proofs.YtjcphpmlekfhdaaDoor.D1 32768 ⟨F, []⟩).cut 1 0 = (0, Go.Proofs.YtjcphpmlekfhdaaDoor.D1 32768 at3) by
          rw [← hat3]
          exact d1_cut (n := 0) (Nat.zero_le _))
        have hl3 : at3.loose.length ≤ 2 := by rw [← hat3]; show ([] ++ [Chg.c 0]).length ≤ 2; decide
        obtain ⟨y4, hy4⟩ : ∃ x : Fl, Fl.add at3 (.w T) = x := ⟨_, rfl⟩
        have hz4 : y4.at = T := by
          rw [← hy4, Fl.at_add, hz3]
          exact List.nil_append _
        have HC4 := Lib.hid (show (Go.Proofs.YtjcphpmlekfhdaaDoor.D1 32768 at3).write 1 T = (0, Go.Proofs.YtjcphpmlekfhdaaDoor.D1 32768 y4) by
          rw [← hy4]
          exact d1_write (by rw [hz3, HTL.out]; show N7 ≤ 32768; omega))
        have hl4 : y4.loose.length ≤ 2 := by rw [← hy4, ← hat3]; show (([] ++ [Chg.c 0]) ++ [Chg.w T]).length ≤ 2; exact Nat.le_refl _
        have HCN : Hid ((Go.Proofs.YtjcphpmlekfhdaaDoor.D1 32768 at3).cnt ≤ 2 ∧ (Go.Proofs.YtjcphpmlekfhdaaDoor.D1 32768 y4).cnt ≤ 2) := Lib.hid ⟨d1_cnt hl3, d1_cnt hl4⟩
        have HZ4 := Lib.hid hz4
        obtain ⟨X6, hX6⟩ : ∃ X6 : Nat → Prop, (fun b => (b < w.heap.size ∨ b = v) ∨ (W4.heap.size ≤ b ∧ b < W7b.heap.size)) = X6 := ⟨_, rfl⟩
        have V6 : Hid (Vs w d v X6 (Go.Proofs.YtjcphpmlekfhdaaDoor.D1 32768 ⟨F, []⟩) 1 1 l.length false W7b) := Lib.hid (V4.out.wide OT.out.bel (fun b hb => by rw [← hX6] at hb; exact hb) (by rw [← hX6]; exact .inl (.inr rfl)))
        have HX6 : Hid ((∀ b, b < w.heap.size → X6 b) ∧ ∀ b, W4.heap.size ≤ b → b < W7b.heap.size → X6 b) := Lib.hid (by rw [← hX6]; exact ⟨fun b h => .inl (.inl h), fun b h1 h2 => .inr ⟨h1, h2⟩⟩)
        clear hat3 hy4 hz3 hz4 hl3 hl4 hX6
        go_wp2_with fail
        rw [HW7.out]
        refine (cut_p V6.out.dp (show 0 ≤ 1073741823 by decide) 1 0 (x := 0) (S' := Go.Proofs.YtjcphpmlekfhdaaDoor.D1 32768 at3) (by rw [HC3.out]) (by rw [HC3.out])).mono ?_
        rintro e W7 ⟨rfl, D7', K7⟩
        have D7 := Lib.hid D7'
        have BT7 : Hid (BsP W7 (fun b => W4.heap.size ≤ b ∧ b < W7b.heap.size) (some ⟨g7, 0, none⟩) N7 T) := Lib.hid (BsP.keep ⟨OT.out.reads, fun _ a e => by first | (subst e; exact OT.out.new _ rfl) | (injection e with e; subst e; exact OT.out.new _ rfl)⟩ (K7.narrow fun b h => HX6.out.2 b h.1 h.2))
        clear D7' K7
        go_wp2_with fail
        refine (write_p D7.out (by have := HCN.out; omega) 1 BT7.out.bs (fun h a e hd => (D7.out.lt).2.2 (hd ▸ HX6.out.2 _ (BT7.out.inP h a e).1 (BT7.out.inP h a e).2)) hc7 (own_cap OT.out) (x := 0) (S' := Go.Proofs.YtjcphpmlekfhdaaDoor.D1 32768 y4) (by rw [HC4.out]) (by rw [HC4.out])).mono ?_
        rintro e W8 ⟨rfl, D8', K8⟩
        have D8 := Lib.hid D8'
        have BT8 := Lib.hid (BT7.out.keep (K8.narrow fun b h => HX6.out.2 b h.1 h.2))
        have HB8 := Lib.hid D8'.bel
        have s8 : (convert 35 9 (.slice (some ⟨g7, 0, none⟩) N7 c7)).run Tryd.prog W8 = .ok (.string (strB T)) W8 := run_str BT8.out.bs
        clear D8' K8 BT7 D7
        go_wp2_with fail
        go_loopw [19, 20] (fun a b wq => ∃ j : Nat, j ≤ n ∧ a = .int .i64 (j : Nat) ∧ b = .int .i64 ((44 + wideS (l.take j) : Nat) : Int) ∧ (44 + wideS (l.take j) ≤ k ∨ j = 0) ∧ wq = W8) (fun a _ _ => n - (intOf a).toNat)
        case atStart => exact ⟨0, Nat.zero_le _, rfl, rfl, .inr rfl, rfl⟩
        case round =>
          obtain ⟨j, hj, rfl, rfl, hjk, hwr⟩ := hrel
          obtain rfl := hwr.symm
          have hSj : wideS (l.take j) ≤ S := by have := wide_take_le l j; have := HS.out; omega
          obtain ⟨z, hz⟩ : ∃ z, wideS (l.take j) = z := ⟨_, rfl⟩
          have HZ := Lib.hid hz
          rw [hz] at hjk hSj ⊢
          have RW := Lib.hid (Rows.later byM (Rows.weak (Q := fun b => b < w.heap.size) byM HR.out fun _ _ h => h) HB8.out)
          by_cases hgo : j < n ∧ z + 80 + (l[j]?.getD []).length ≤ k
          · obtain ⟨hjn, hle⟩ := hgo
            have hjl : j < l.length := by omega
            obtain ⟨b, o, rfl⟩ := rows_some HR.out (by omega)
            obtain ⟨_, B1, cb, hcl, _, hlim, _, _⟩ := by_at RW.out hjl
            have hnx := wide_take hjl
            rw [List.getElem?_eq_getElem hjl, Option.getD_some] at hle
            obtain ⟨y, hy⟩ : ∃ y, l[j].length = y := ⟨_, rfl⟩
            rw [hy] at hcl hnx hlim hle
            rw [hz] at hnx
            have HNX := Lib.hid hnx
            have t1 : decide ((j : Int) < (n : Int)) = true := decide_eq_true (by omega)
            have t2 : decide (44 + (z : Int) + 36 + (y : Int) ≤ (k : Int)) = true := decide_eq_true (by omega)
            clear hnx hz hy
            go_wp2_with fail
            go_roundw
            case rel => exact ⟨j + 1, by omega, by go_num, by rw [HNX.out]; go_num, .inl (by rw [HNX.out]; omega), trivial⟩
            case measure => simp [intOf]; omega
          · have HJ : Hid (j < l.length → k < 44 + wideS (l.take (j + 1))) := Lib.hid fun hjl => by
              have hnx := wide_take hjl
              have hle : ¬ (z + 80 + l[j].length ≤ k) := fun h => hgo ⟨by omega, by rw [List.getElem?_eq_getElem hjl, Option.getD_some]; exact h⟩
              rw [hnx, hz]
              omega
            have HJK : Hid (44 + wideS (l.take j) ≤ k ∨ j = 0) := Lib.hid (by rw [hz]; exact hjk)
            by_cases hjn : j < n
            · have hjl : j < l.length := by omega
              obtain ⟨b, o, rfl⟩ := rows_some HR.out (by omega)
              obtain ⟨_, B1, cb, hcl, _, hlim, _, _⟩ := by_at RW.out hjl
              have hle := HJ.out hjl
              rw [wide_take hjl, hz] at hle
              obtain ⟨y, hy⟩ : ∃ y, l[j].length = y := ⟨_, rfl⟩
              rw [hy] at hcl hlim hle
              have t1 : decide ((j : Int) < (n : Int)) = true := decide_eq_true (by omega)
              have t2 : decide (44 + (z : Int) + 36 + (y : Int) ≤ (k : Int)) = false := decide_eq_false (by omega)
              clear hgo hz hy
              go_wp2_with fail
              refine (rsound_any (f := 1) (by decide) (by rw [HTL.out]; omega) BT8.out.bs.byt W8).mono ?_
              rintro e W9 ⟨h, b9⟩
              obtain ⟨R, AR, cr, x1, x3, rfl, hrec, hRR⟩ : ∃ R AR cr x1 x3, e = .returned (.tuple #[x1, .slice AR (R : List (List Nat)).length cr, x3]) ∧ recOf T = R ∧ Rows W9 (fun b => W8.heap.size ≤ b) 1 ByR AR R.length R := by
                unfold recOf
                cases hs : soundS 1 T with
                | none =>
                  rw [hs] at h
                  exact ⟨[], none, 0, _, _, h, rfl, Rows.nil _ _ _ _ _⟩
                | some y =>
                  rw [hs] at h
                  obtain ⟨A, c, he, _, hR⟩ := h
                  exact ⟨y.2.1, A, c, _, _, he, rfl, hR⟩
              obtain ⟨X9, hX9⟩ : ∃ X9 : Nat → Prop, (fun b => X6 b ∨ (W8.heap.size ≤ b ∧ b < W9.heap.size)) = X9 := ⟨_, rfl⟩
              have D9 : Hid (Dp w d X9 (Go.Proofs.YtjcphpmlekfhdaaDoor.D1 32768 y4) W9) := Lib.hid (D8.out.wide (Kept.of_below b9) (HB8.out.trans (b9.mono HB8.out.size)) fun b hb => by rw [← hX9] at hb; exact hb)
              obtain ⟨nr, hnr⟩ : ∃ nr, R.length = nr := ⟨_, rfl⟩
              have RR : Hid (Rows W9 X9 1 ByR AR nr R) := Lib.hid (by
                rw [← hX9, ← hnr]
                exact Rows.weak byM hRR fun b hb hl => .inr ⟨hb, hl⟩)
              have HRC := Lib.hid hrec
              have HRL := Lib.hid hnr
              rw [hnr]
              clear hrec hRR hnr hX9 b9
              go_wp2_with fail
              have hTb := BT8.out.bs.byt
              obtain ⟨U, g, eU, AU, fU, mU, wU⟩ := find_open (m := 32768) HZ4.out hTb (by decide)
              rw [HRC.out] at eU AU wU
              have cU := cnt_openS (Go.Proofs.YtjcphpmlekfhdaaDoor.D1 32768 y4)
              rw [eU] at cU
              have cU' : U.cnt ≤ 6 := by have := HCN.out; exact Nat.le_trans cU (by omega)
              have ho := open_any HL.out D9.out (dp_inn D9.out) (by have := HCN.out; omega)
              rw [eU] at ho
              dsimp only at ho
              refine ho.mono ?_
              clear ho eU cU
              rintro e W10 h
              rcases h with ⟨h, _⟩ | ⟨_, v2, r4, Y2, rfl, hv2, hV2, ⟨A9, c9, hr9, hc9, hR9⟩, hY2, hD2, hK2⟩
              · exact absurd rfl h
              subst hr9
              have hwR : wideS R ≤ 4140 := by have := HTL.out; omega
              have hnr : nr ≤ 4140 := by have := wide_len R; have := HRL.out; omega
              have SM := Lib.hid (same_self (c := c9) (d := cr) W10 (Rows.weak byM hR9 fun _ _ _ => trivial) (Rows.weak byM (RR.out.keep byM hK2) fun _ _ _ => trivial) (by have := HRL.out; omega))
              have V10 : Hid (Vs w d v2 (fun b => X9 b ∨ b = v2 ∨ Y2 b) U 1 g R.length false W10) := Lib.hid ⟨hD2, .inr (.inl rfl), hV2, by have := D9.out.bel.size; omega⟩
              have HAU := Lib.hid AU
              have HFU := Lib.hid fU
              have HRM : Hid (38 ≤ U.room) := Lib.hid (by rw [AU.room, mU]; omega)
              clear hv2 hV2 hc9 hR9 hY2 hD2 hK2 AU fU mU wU hTb
              go_wp2_with fail
              refine (SM.out).mono ?_
              rintro e W11 ⟨rfl, b11⟩
              have V11 := Lib.hid (V10.out.later b11)
              clear b11 V10 SM
              go_wp2_with fail
              refine (b_on _).mono ?_
              rintro e W12 ⟨A12, c12, rfl, hc12, m12, B12, b12, p12⟩
              have V12 := V11.out.later b12
              have R13 := Lib.hid (new_1 (T := 35) hc12 m12 B12 p12 b12.size (by decide))
              have b13 : Below W12.heap.size W12 (W12.alloc (.cells #[.slice A12 2 c12] 35)) := (Below.refl _ _).alloc (Nat.le_refl _) _
              have V13 := Lib.hid (V12.later b13)
              have hw1 : wideS [[111, 110]] = 38 := by decide
              obtain ⟨T2, eT, AT, mT, fT, cT⟩ : ∃ T2, addT false 1 g R.length [[111, 110]] U = (0, T2, (R ++ [[111, 110]]).length, false) ∧ Alive T2 1 g (R ++ [[111, 110]]) ∧ T2.most = U.most ∧ T2.fuse = -1 ∧ T2.cnt ≤ U.cnt + 4 := by
                rcases add_full (L := [[111, 110]]) HAU.out HFU.out (by decide) with ⟨h, _⟩ | ⟨_, h⟩
                · have := HRM.out
                  omega
                · exact h
              have ha := add_s (n := 1) (c := 1) HL.out V13.out (Rows.weak byM R13.out fun _ _ _ => trivial) (by decide) (by have := HAU.out.fm.2.2.1; omega) (by have := HRL.out; omega) (by rw [hw1]; decide) (by omega)
              rw [eT] at ha
              dsimp only at ha
              have HAT := Lib.hid AT
              have HFT := Lib.hid fT
              have HCT : Hid (T2.cnt ≤ 10) := Lib.hid (by omega)
              clear V12 b12 b13 B12 p12 V11 eT AT fT mT cT hw1
              go_wp2_with fail
              refine ha.mono ?_
              clear ha
              rintro e W14 ⟨rfl, V14', K14⟩
              have V14 := Lib.hid V14'
              obtain ⟨U3, e3, A3, _, _⟩ := open_live HAT.out V14'.dp.ok HFT.out
              have ho := open_any HL.out V14'.dp (dp_inn V14'.dp) (by have := HCT.out; omega)
              rw [e3] at ho
              dsimp only at ho
              have HO := Lib.hid ho
              clear ho e3 A3 V14' K14 V13 R13
              go_wp2_with fail
              refine (HO.out).mono ?_
              rintro e W15 h
              rcases h with ⟨h, _⟩ | ⟨_, v3, r5, Y3, rfl, hv3, hV3, ⟨A15, c15, hr15, hc15, hR15⟩, hY3, hD3, hK3⟩
              · exact absurd rfl h
              subst hr15
              have hll : (R ++ [[111, 110]]).length = nr + 1 := by rw [List.length_append, HRL.out]; rfl
              obtain ⟨b5, o5, rfl⟩ := rows_some hR15 (by omega)
              obtain ⟨B5, cb5, hc5, hbs5⟩ : ∃ B5 cb5, W15.cell? ⟨b5, o5 + nr, none⟩ = some (.slice B5 2 cb5) ∧ Bs W15 B5 2 [111, 110] := by
                obtain ⟨_, B5, cb5, hc5, _, _, _, hbs5⟩ := by_at hR15 (k := nr) (by omega)
                have hel : (R ++ [[111, 110]])[nr]'(by omega) = [111, 110] := by
                  simp [← HRL.out]
                rw [hel] at hc5 hbs5
                exact ⟨B5, cb5, hc5, hbs5.bs⟩
              have s5 : (convert 35 9 (.slice B5 2 cb5)).run Tryd.prog W15 = .ok (.string ⟨#[111, 110]⟩) W15 := run_str hbs5
              have HB15 := Lib.hid hD3.bel
              rw [hll] at hc15 ⊢
              have t7 : (((nr : Int) + 1) == ((nr : Int) + 1)) = true := beq_self_eq_true _
              clear hv3 hV3 hR15 hY3 hD3 hK3 hbs5 hll HO
              go_wp2_with fail
              refine (works_any (HL.out.later HL.out.lt HB15.out)).mono ?_
              rintro e W16 ⟨rfl, b16⟩
              have HC := Lib.hid (HB15.out.trans (b16.mono HB15.out.size))
              clear b16 HB15
              go_wp2_with fail
              go_ret
              exact ⟨rfl, HC.out⟩
            · have t1 : decide ((j : Int) < (n : Int)) = false := decide_eq_false (by omega)
              clear hgo hz
              go_wp2_with fail
              refine (rsound_any (f := 1) (by decide) (by rw [HTL.out]; omega) BT8.out.bs.byt W8).mono ?_
              rintro e W9 ⟨h, b9⟩
              obtain ⟨R, AR, cr, x1, x3, rfl, hrec, hRR⟩ : ∃ R AR cr x1 x3, e = .returned (.tuple #[x1, .slice AR (R : List (List Nat)).length cr, x3]) ∧ recOf T = R ∧ Rows W9 (fun b => W8.heap.size ≤ b) 1 ByR AR R.length R := by
                unfold recOf
                cases hs : soundS 1 T with
                | none =>
                  rw [hs] at h
                  exact ⟨[], none, 0, _, _, h, rfl, Rows.nil _ _ _ _ _⟩
                | some y =>
                  rw [hs] at h
                  obtain ⟨A, c, he, _, hR⟩ := h
                  exact ⟨y.2.1, A, c, _, _, he, rfl, hR⟩
              obtain ⟨X9, hX9⟩ : ∃ X9 : Nat → Prop, (fun b => X6 b ∨ (W8.heap.size ≤ b ∧ b < W9.heap.size)) = X9 := ⟨_, rfl⟩
              have D9 : Hid (Dp w d X9 (Go.Proofs.YtjcphpmlekfhdaaDoor.D1 32768 y4) W9) := Lib.hid (D8.out.wide (Kept.of_below b9) (HB8.out.trans (b9.mono HB8.out.size)) fun b hb => by rw [← hX9] at hb; exact hb)
              obtain ⟨nr, hnr⟩ : ∃ nr, R.length = nr := ⟨_, rfl⟩
              have RR : Hid (Rows W9 X9 1 ByR AR nr R) := Lib.hid (by
                rw [← hX9, ← hnr]
                exact Rows.weak byM hRR fun b hb hl => .inr ⟨hb, hl⟩)
              have HRC := Lib.hid hrec
              have HRL := Lib.hid hnr
              rw [hnr]
              clear hrec hRR hnr hX9 b9
              go_wp2_with fail
              have hTb := BT8.out.bs.byt
              obtain ⟨U, g, eU, AU, fU, mU, wU⟩ := find_open (m := 32768) HZ4.out hTb (by decide)
              rw [HRC.out] at eU AU wU
              have cU := cnt_openS (Go.Proofs.YtjcphpmlekfhdaaDoor.D1 32768 y4)
              rw [eU] at cU
              have cU' : U.cnt ≤ 6 := by have := HCN.out; exact Nat.le_trans cU (by omega)
              have ho := open_any HL.out D9.out (dp_inn D9.out) (by have := HCN.out; omega)
              rw [eU] at ho
              dsimp only at ho
              refine ho.mono ?_
              clear ho eU cU
              rintro e W10 h
              rcases h with ⟨h, _⟩ | ⟨_, v2, r4, Y2, rfl, hv2, hV2, ⟨A9, c9, hr9, hc9, hR9⟩, hY2, hD2, hK2⟩
              · exact absurd rfl h
              subst hr9
              have hwR : wideS R ≤ 4140 := by have := HTL.out; omega
              have hnr : nr ≤ 4140 := by have := wide_len R; have := HRL.out; omega
              have SM := Lib.hid (same_self (c := c9) (d := cr) W10 (Rows.weak byM hR9 fun _ _ _ => trivial) (Rows.weak byM (RR.out.keep byM hK2) fun _ _ _ => trivial) (by have := HRL.out; omega))
              have V10 : Hid (Vs w d v2 (fun b => X9 b ∨ b = v2 ∨ Y2 b) U 1 g R.length false W10) := Lib.hid ⟨hD2, .inr (.inl rfl), hV2, by have := D9.out.bel.size; omega⟩
              have HAU := Lib.hid AU
              have HFU := Lib.hid fU
              have HRM : Hid (38 ≤ U.room) := Lib.hid (by rw [AU.room, mU]; omega)
              clear hv2 hV2 hc9 hR9 hY2 hD2 hK2 AU fU mU wU hTb
              go_wp2_with fail
              refine (SM.out).mono ?_
              rintro e W11 ⟨rfl, b11⟩
              have V11 := Lib.hid (V10.out.later b11)
              clear b11 V10 SM
              go_wp2_with fail
              refine (b_on _).mono ?_
              rintro e W12 ⟨A12, c12, rfl, hc12, m12, B12, b12, p12⟩
              have V12 := V11.out.later b12
              have R13 := Lib.hid (new_1 (T := 35) hc12 m12 B12 p12 b12.size (by decide))
              have b13 : Below W12.heap.size W12 (W12.alloc (.cells #[.slice A12 2 c12] 35)) := (Below.refl _ _).alloc (Nat.le_refl _) _
              have V13 := Lib.hid (V12.later b13)
              have hw1 : wideS [[111, 110]] = 38 := by decide
              obtain ⟨T2, eT, AT, mT, fT, cT⟩ : ∃ T2, addT false 1 g R.length [[111, 110]] U = (0, T2, (R ++ [[111, 110]]).length, false) ∧ Alive T2 1 g (R ++ [[111, 110]]) ∧ T2.most = U.most ∧ T2.fuse = -1 ∧ T2.cnt ≤ U.cnt + 4 := by
                rcases add_full (L := [[111, 110]]) HAU.out HFU.out (by decide) with ⟨h, _⟩ | ⟨_, h⟩
                · have := HRM.out
                  omega
                · exact h
              have ha := add_s (n := 1) (c := 1) HL.out V13.out (Rows.weak byM R13.out fun _ _ _ => trivial) (by decide) (by have := HAU.out.fm.2.2.1; omega) (by have := HRL.out; omega) (by rw [hw1]; decide) (by omega)
              rw [eT] at ha
              dsimp only at ha
              have HAT := Lib.hid AT
              have HFT := Lib.hid fT
              have HCT : Hid (T2.cnt ≤ 10) := Lib.hid (by omega)
              clear V12 b12 b13 B12 p12 V11 eT AT fT mT cT hw1
              go_wp2_with fail
              refine ha.mono ?_
              clear ha
              rintro e W14 ⟨rfl, V14', K14⟩
              have V14 := Lib.hid V14'
              obtain ⟨U3, e3, A3, _, _⟩ := open_live HAT.out V14'.dp.ok HFT.out
              have ho := open_any HL.out V14'.dp (dp_inn V14'.dp) (by have := HCT.out; omega)
              rw [e3] at ho
              dsimp only at ho
              have HO := Lib.hid ho
              clear ho e3 A3 V14' K14 V13 R13
              go_wp2_with fail
              refine (HO.out).mono ?_
              rintro e W15 h
              rcases h with ⟨h, _⟩ | ⟨_, v3, r5, Y3, rfl, hv3, hV3, ⟨A15, c15, hr15, hc15, hR15⟩, hY3, hD3, hK3⟩
              · exact absurd rfl h
              subst hr15
              have hll : (R ++ [[111, 110]]).length = nr + 1 := by rw [List.length_append, HRL.out]; rfl
              obtain ⟨b5, o5, rfl⟩ := rows_some hR15 (by omega)
              obtain ⟨B5, cb5, hc5, hbs5⟩ : ∃ B5 cb5, W15.cell? ⟨b5, o5 + nr, none⟩ = some (.slice B5 2 cb5) ∧ Bs W15 B5 2 [111, 110] := by
                obtain ⟨_, B5, cb5, hc5, _, _, _, hbs5⟩ := by_at hR15 (k := nr) (by omega)
                have hel : (R ++ [[111, 110]])[nr]'(by omega) = [111, 110] := by
                  simp [← HRL.out]
                rw [hel] at hc5 hbs5
                exact ⟨B5, cb5, hc5, hbs5.bs⟩
              have s5 : (convert 35 9 (.slice B5 2 cb5)).run Tryd.prog W15 = .ok (.string ⟨#[111, 110]⟩) W15 := run_str hbs5
              have HB15 := Lib.hid hD3.bel
              rw [hll] at hc15 ⊢
              have t7 : (((nr : Int) + 1) == ((nr : Int) + 1)) = true := beq_self_eq_true _
              clear hv3 hV3 hR15 hY3 hD3 hK3 hbs5 hll HO
              go_wp2_with fail
              refine (works_any (HL.out.later HL.out.lt HB15.out)).mono ?_
              rintro e W16 ⟨rfl, b16⟩
              have HC := Lib.hid (HB15.out.trans (b16.mono HB15.out.size))
              clear b16 HB15
              go_wp2_with fail
              go_ret
              exact ⟨rfl, HC.out⟩
end Go.Proofs.YtjcphpmlekfhdaaDoor
