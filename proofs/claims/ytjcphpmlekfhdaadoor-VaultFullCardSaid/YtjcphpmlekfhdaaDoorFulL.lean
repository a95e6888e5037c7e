/- VaultFull: walked. Condition: the tables lie as laid. -/
import Derived.Test.YtjcphpmlekfhdaaDoorFulA
import Derived.IntWalk
namespace Go.Proofs.YtjcphpmlekfhdaaDoor
open Go.RowKit

set_option maxRecDepth 100000 in
set_option maxHeartbeats 8000000 in
theorem full_law {w : World} {M left n c : Nat} {B : Option Addr} {l : List (List Nat)} (hM : M < 65536) (hnc : n ≤ c) (hn : n ≤ 140737488351232) (hcm : c ≤ 9223372036854775807) (hR : Rows w anyP 1 ByR B n l) (hleft : left < 256) (hLd : Laid w) : Calls Tryd.prog 4 #[.int .u16 (M : Nat), .slice B n c, .int .u8 (left : Nat)] w fun e W => e = .returned (.bool true) ∧ Below w.heap.size w W := by
  have hln := hR.len
  have HL := Lib.hid hLd
  have HR := Lib.hid hR
  have WK := Lib.hid (works_any hLd)
  clear hLd hR
  go_enter Tryd.func4, Tryd.ntmps4
  go_wp2_with fail
  go_loopw [7, 8] (fun s i wr => ∃ j : Nat, j ≤ n ∧ i = .int .i64 (j : Nat) ∧ s = .int .i64 ((wideS (l.take j) : Nat) : Int) ∧ wideS (l.take j) ≤ 140737488360000 ∧ wr = w) (fun _ i _ => n - (intOf i).toNat)
  case atStart => exact ⟨0, Nat.zero_le _, rfl, rfl, Nat.zero_le _, rfl⟩
  case round =>
    obtain ⟨j, hj, rfl, rfl, hb, hwr⟩ := hrel
    obtain rfl := hwr.symm
    obtain ⟨S, hS⟩ : ∃ S, wideS (l.take j) = S := ⟨_, rfl⟩
    rw [hS] at hb
    simp only [hS]
    by_cases hjn : j < n
    · have t1 : decide ((j : Int) < (n : Int)) = true := decide_eq_true (by omega)
      have hjl : j < l.length := by omega
      by_cases h8 : 8192 < S
      · have t2 : decide ((S : Int) ≤ 8192) = false := decide_eq_false (by omega)
        have t3 : decide ((8192 : Int) < (S : Int)) = true := decide_eq_true (by omega)
        clear hS
        go_wp2_with fail
        refine (WK.out).mono ?_
        rintro e W ⟨rfl, bW⟩
        have HB := Lib.hid bW
        clear bW
        go_wp2_with fail
        go_ret
        exact ⟨rfl, HB.out⟩
      · have t2 : decide ((S : Int) ≤ 8192) = true := decide_eq_true (by omega)
        obtain ⟨b, o, rfl⟩ := rows_some HR.out (by omega)
        obtain ⟨_, B1, cb, hc, _, hlim, _, _⟩ := by_at HR.out hjl
        have hnx := wide_take hjl
        obtain ⟨y, hy⟩ : ∃ y, l[j].length = y := ⟨_, rfl⟩
        rw [hy] at hc hnx hlim
        rw [hS] at hnx
        have HNX := Lib.hid hnx
        clear hnx hS hy
        go_wp2_with fail
        go_roundw
        case rel => exact ⟨j + 1, by omega, by go_num, by rw [HNX.out]; go_num, by rw [HNX.out]; omega, trivial⟩
        case measure => simp [intOf]; omega
    · have t1 : decide ((j : Int) < (n : Int)) = false := decide_eq_false (by omega)
      have e : l.take j = l := List.take_of_length_le (by omega)
      rw [e] at hS
      have HS := Lib.hid hS
      clear hS e
      by_cases h8 : 8192 < S
      · have t3 : decide ((8192 : Int) < (S : Int)) = true := decide_eq_true (by omega)
        go_wp2_with fail
        refine (WK.out).mono ?_
        rintro e W ⟨rfl, bW⟩
        have HB := Lib.hid bW
        clear bW
        go_wp2_with fail
        go_ret
        exact ⟨rfl, HB.out⟩
      have t3 : decide ((8192 : Int) < (S : Int)) = false := decide_eq_false (by omega)
      by_cases h44 : M < 44
      · have t4 : decide (M < 44) = true := decide_eq_true h44
        have t5 : decide ((M : Int) < 44) = true := decide_eq_true (by omega)
        go_wp2_with fail
        refine (WK.out).mono ?_
        rintro e W ⟨rfl, bW⟩
        have HB := Lib.hid bW
        clear bW
        go_wp2_with fail
        go_ret
        exact ⟨rfl, HB.out⟩
      have t4 : decide (M < 44) = false := decide_eq_false h44
      have t5 : decide ((M : Int) < 44) = false := decide_eq_false (by omega)
      go_wp2_with fail
      have h8' : Hid (wideS l ≤ 8192) := Lib.hid (by rw [HS.out]; omega)
      have HN := Lib.hid (new_p (w0 := w) (w := w) (X := fun b => b < w.heap.size) (Below.refl _ _) (fun _ h => h) (m := M) (by omega) (by omega))
      obtain ⟨T1, e1, A1, m1, f1⟩ := new_open (m := M) (by omega)
      have c1 := cnt_openS (newD M)
      rw [e1] at c1
      have c1' : T1.cnt ≤ 0 + 4 := c1
      have H1 := Lib.hid e1
      clear c1 e1
      refine (HN.out).mono ?_
      rintro e W1 ⟨d, rfl, hd1, D1', b1⟩
      have D1 := Lib.hid D1'
      have hX1 : Hid (∀ b, b < w.heap.size → b < W1.heap.size) := Lib.hid fun b hb => Nat.lt_of_lt_of_le hb b1.size
      clear hd1 D1' b1 HN t1 t3 t4 t5 hb HS
      go_wp2_with fail
      have ho := open_any HL.out D1.out hX1.out (Nat.le_trans (Nat.le_of_eq (rfl : (newD M).cnt = 0)) (Nat.zero_le _))
      rw [H1.out] at ho
      dsimp only at ho
      refine ho.mono ?_
      clear ho
      rintro e W2 h
      rcases h with ⟨h, _⟩ | ⟨_, v, r, Y, rfl, hv, hV, ⟨A, c2, hr, hc, hR⟩, hY, hD, hK⟩
      · exact absurd rfl h
      have hr' : r = .slice A 0 c2 := hr
      subst hr'
      have J0 : Hid (FulJ w d v M (.slice none 0 0) [] T1 (fun b => b < w.heap.size ∨ b = v) W2) := Lib.hid ⟨⟨hD.narrow fun b h => h.elim .inl fun e => .inr (.inl e), .inr rfl, hV, by have := D1.out.lt; omega⟩, A1, m1, f1, OwnRw.none_ hD.bel, fun b hb => .inl hb, fun q hq => (by cases hq), fun b hb => hb.elim (fun h => Nat.lt_of_lt_of_le h hD.bel.size) fun e => (by rw [e]; exact hV.lt)⟩
      clear hr hv hV hc hR hY hD hK D1 H1 hX1 A1 m1 f1
      go_wp2_with fail
      go_loopw [14, 15] (fun a i wq => ∃ (jj : Nat) (all : List (List Nat)) (T : Dk) (X : Nat → Prop), jj ≤ n ∧ i = .int .i64 (jj : Nat) ∧ FulJ w d v M a all T X wq ∧ wideS all ≤ wideS (l.take jj) ∧ T.cnt ≤ 4 + 4 * jj) (fun _ i _ => n - (intOf i).toNat)
      case atStart => exact ⟨0, [], T1, _, Nat.zero_le _, rfl, J0.out, Nat.le_refl _, c1'⟩
      case round =>
        obtain ⟨jj, all, T, X, hjj, rfl, J, hwd, hcn⟩ := hrel
        have HJ := Lib.hid J
        have HWD := Lib.hid hwd
        have HCN := Lib.hid hcn
        clear J hwd hcn
        by_cases hjn2 : jj < n
        · have t1 : decide ((jj : Int) < (n : Int)) = true := decide_eq_true (by omega)
          have hjl : jj < l.length := by omega
          have HLE : Hid (jj ≤ 227) := Lib.hid (by have := wide_len l; have := h8'.out; omega)
          obtain ⟨b, o, rfl⟩ := rows_some HR.out (by omega)
          have RL := Rows.weak (Q := fun b => b < w.heap.size) byM HR.out fun _ _ h => h
          obtain ⟨hbl, B1, cb, hc, hcb, hlim, hcbm, hbs⟩ := by_at RL hjl
          have hnx := wide_take hjl
          have hle := wide_take_le l (jj + 1)
          obtain ⟨rr, hrr⟩ : ∃ rr, l[jj] = rr := ⟨_, rfl⟩
          rw [hrr] at hc hcb hlim hbs hnx
          have HNX := Lib.hid hnx
          have HBS := Lib.hid hbs
          have HLT : Hid (36 + rr.length ≤ 8192) := Lib.hid (by have := h8'.out; omega)
          have HC := Lib.hid (show ∀ W, Below w.heap.size w W → W.cell? ⟨b, o + jj, none⟩ = some (.slice B1 rr.length cb) from fun W q => (q.cell (p := ⟨b, o + jj, none⟩) hbl).trans hc)
          clear RL hbs hnx hle hrr hc hbl
          go_wp2_with fail
          obtain ⟨rm, hrm⟩ : ∃ rm, T.room = rm := ⟨_, rfl⟩
          refine (room_p HJ.out.vs.dp hrm).mono ?_
          rintro e W3 ⟨rfl, _, b3⟩
          have J3 := Lib.hid (HJ.out.later b3)
          have HRM := Lib.hid hrm
          clear b3 HJ hrm
          have q3 := HC.out _ J3.out.vs.dp.bel
          go_wp2_with fail
          have b4 : Below W3.heap.size W3 (W3.alloc (.cells #[.slice B1 rr.length cb] 35)) := (Below.refl _ _).alloc (Nat.le_refl _) _
          have R4 : Rows (W3.alloc (.cells #[.slice B1 rr.length cb] 35)) anyP 1 ByR (some ⟨W3.heap.size, 0, none⟩) 1 [rr] := lit_one (Ro.new W3 35 [.slice B1 rr.length cb]) trivial ((HBS.out.bs.later J3.out.vs.dp.bel).later b4) ⟨hcb, hlim⟩ hcbm fun _ _ => trivial
          have J4 := Lib.hid (J3.out.later b4)
          have hw1 := wide_one rr
          rcases add_full (L := [rr]) J3.out.al J3.out.fu (not_long (by have := HLT.out; omega)) with ⟨hroom, e⟩ | ⟨hroom, T2, e, A2, mo2, fu2, cn2⟩
          · rw [HRM.out, hw1] at hroom
            have ha := add_s (n := 1) (c := 1) HL.out J4.out.vs R4 (by decide) (by decide) (by have := wide_len all; have := HWD.out; have := wide_take_le l jj; have := h8'.out; omega) (by have := HLT.out; omega) (by have := HCN.out; have := HLE.out; omega)
            rw [e] at ha
            dsimp only at ha
            refine ha.mono ?_
            clear ha e R4 q3
            rintro e W5 ⟨rfl, V5, K5⟩
            have J5 := Lib.hid (J4.out.kept V5 J4.out.al rfl J4.out.fu K5)
            have q5 := HC.out _ J5.out.vs.dp.bel
            have t8 : decide ((rr.length : Int) + 36 ≤ (rm : Int)) = false := decide_eq_false (by omega)
            clear V5 K5 J4 J3 b4 hroom hw1
            go_wp2_with fail
            refine (room_p J5.out.vs.dp HRM.out).mono ?_
            rintro e W6 ⟨rfl, _, b6⟩
            have J6 := Lib.hid (J5.out.later b6)
            clear b6 J5 q5
            go_wp2_with fail
            go_roundw
            case rel => exact ⟨jj + 1, all, T, X, by omega, by go_num, J6.out, by rw [HNX.out]; have := HWD.out; omega, by have := HCN.out; omega⟩
            case measure => simp [intOf]; omega
          · rw [HRM.out, hw1] at hroom
            have ha := add_s (n := 1) (c := 1) HL.out J4.out.vs R4 (by decide) (by decide) (by have := wide_len all; have := HWD.out; have := wide_take_le l jj; have := h8'.out; omega) (by have := HLT.out; omega) (by have := HCN.out; have := HLE.out; omega)
            rw [e] at ha
            dsimp only at ha
            refine ha.mono ?_
            clear ha e R4 q3
            rintro e W5 ⟨rfl, V5, K5⟩
            have o5 := J4.out.ownK V5.dp.bel K5
            have q5 := HC.out _ V5.dp.bel
            have b6 : Below W5.heap.size W5 (W5.alloc (.cells #[.slice B1 rr.length cb] 35)) := (Below.refl _ _).alloc (Nat.le_refl _) _
            have OL := Lib.hid (o5.later byM b6)
            have RV : Hid (∀ (_ : 0 < 1), ∃ b o, (some ⟨W5.heap.size, 0, none⟩ : Option Addr) = some ⟨b, o, none⟩ ∧ (W5.alloc (.cells #[.slice B1 rr.length cb] 35)).rangeAt b o [.slice B1 rr.length cb]) := Lib.hid fun _ => ⟨_, _, rfl, range_one _ _ _⟩
            have EV : Hid (Each 1 (ByR (W5.alloc (.cells #[.slice B1 rr.length cb] 35)) fun b => b < w.heap.size ∧ some b ≠ u14.ownBlock ∧ b < (W5.alloc (.cells #[.slice B1 rr.length cb] 35)).heap.size) [.slice B1 rr.length cb] [rr]) := Lib.hid (Each.one rfl (byM.weak (byM.keep (⟨B1, cb, rfl, ⟨hcb, hlim⟩, hcbm, HBS.out⟩ : ByR w (fun b => b < w.heap.size) [.slice B1 rr.length cb] rr) ((Kept.of_below V5.dp.bel).trans' (Kept.of_below b6))) fun b hb hl => ⟨hb, fun e => by have := (o5.new b e.symm).1; omega, hl⟩))
            have V6 := Lib.hid (V5.later b6)
            have HSZ := Lib.hid (Nat.le_trans K5.size b6.size)
            have HAL : Hid (all.length ≤ 227) := Lib.hid (by have := wide_len all; have := HWD.out; have := wide_take_le l jj; have := h8'.out; omega)
            have t8 : decide ((rr.length : Int) + 36 ≤ (rm : Int)) = true := decide_eq_true (by omega)
            clear V5 K5 b4 b6 hroom hw1 o5
            go_wp2_with (at_builtin; refine wpList_appRw (m := 1) (c := 1) (k := [rr]) (cs := [.slice B1 rr.length cb]) (N := all.length + 1) elemB byM rfl _ _ rfl rfl OL.out rfl rfl RV.out EV.out ?e1 rfl ?e2 ?e3 ?_)
            case e1 => intro y hy; simp at hy; rw [hy]; rfl
            case e2 => have := HAL.out; omega
            case e3 => have := HAL.out; omega
            intro A' c' w' j1 j2 j3 j4
            have J7 := Lib.hid (J4.out.next V6.out A2 mo2 fu2 HSZ.out j2 j3 (by rw [World.size_alloc]; exact j4))
            clear j1 j2 j3 j4 q5 OL RV EV
            go_wp2_with fail
            go_roundw
            case rel => exact ⟨jj + 1, all ++ [rr], T2, _, by omega, by go_num, J7.out, by rw [HNX.out, wide_app, wide_one]; have := HWD.out; omega, by have := HCN.out; omega⟩
            case measure => simp [intOf]; omega
        · have t1 : decide ((jj : Int) < (n : Int)) = false := decide_eq_false (by omega)
          obtain ⟨Q, cq, rfl, hcq⟩ := HJ.out.own.shape
          have RA := Lib.hid HJ.out.rows
          have HAL : Hid (wideS all ≤ 8192) := Lib.hid (by have := HWD.out; have := wide_take_le l jj; have := h8'.out; omega)
          have HLL : Hid (all.length ≤ 227) := Lib.hid (by have := wide_len all; have := HAL.out; omega)
          obtain ⟨na, hna⟩ : ∃ na, all.length = na := ⟨_, rfl⟩
          have HNA := Lib.hid hna
          rw [hna] at hcq ⊢
          clear hna
          go_wp2_with fail
          all_goals first
            | (have hkle : left ≤ na := by omega
               obtain ⟨k, hk⟩ : ∃ k, left = k := ⟨_, rfl⟩
               rw [show Value.int .i64 ((left : Nat) : Int) = Value.int .i64 ((k : Nat) : Int) by rw [hk]]
               have HK : Hid (k ≤ na) := Lib.hid (by omega)
               clear hk hkle)
            | (obtain ⟨k, hk⟩ : ∃ k, na = k := ⟨_, rfl⟩
               rw [show Value.int .i64 ((na : Nat) : Int) = Value.int .i64 ((k : Nat) : Int) by rw [hk]]
               have HK : Hid (k ≤ na) := Lib.hid (by omega)
               clear hk)
          all_goals
            go_loopw [19, 20] (fun s i wq => ∃ ii : Nat, ii ≤ k ∧ i = .int .i64 (ii : Nat) ∧ s = .int .i64 ((44 + wideS (all.take ii) : Nat) : Int) ∧ wq = wr) (fun _ i _ => k - (intOf i).toNat)
            case atStart => exact ⟨0, Nat.zero_le _, rfl, rfl, rfl⟩
            case round =>
              obtain ⟨ii, hii, rfl, rfl, hwr2⟩ := hrel
              obtain rfl := hwr2.symm
              obtain ⟨sz, hsz⟩ : ∃ sz, 44 + wideS (all.take ii) = sz := ⟨_, rfl⟩
              simp only [hsz]
              have HLS : Hid (sz ≤ 8236) := Lib.hid (by have := wide_take_le all ii; have := HAL.out; omega)
              by_cases hik : ii < k
              · have t2 : decide ((ii : Int) < (k : Int)) = true := decide_eq_true (by omega)
                have hil : ii < all.length := by have := HK.out; have := HNA.out; omega
                have hin : ii < na := by have := HK.out; omega
                have hib : ii ≤ 227 := by have := HLL.out; omega
                obtain ⟨bq, oq, rfl⟩ := rows_some RA.out (by omega)
                obtain ⟨_, B5, c5, hc5, _, hlim5, _, _⟩ := by_at RA.out hil
                have hnx := wide_take hil
                have hle := wide_take_le all (ii + 1)
                obtain ⟨y, hy⟩ : ∃ y, all[ii].length = y := ⟨_, rfl⟩
                rw [hy] at hc5 hnx hlim5
                have HNX : Hid (44 + wideS (all.take (ii + 1)) = sz + 36 + y) := Lib.hid (by omega)
                have hl6 : sz + 36 + y ≤ 8236 := by have := HAL.out; omega
                clear hnx hle hsz hy
                go_wp2_with fail
                go_roundw
                case rel => exact ⟨ii + 1, by omega, by go_num, by rw [HNX.out]; go_num, trivial⟩
                case measure => simp [intOf]; omega
              · have t2 : decide ((ii : Int) < (k : Int)) = false := decide_eq_false (by omega)
                obtain rfl : k = ii := by omega
                have HSZ := Lib.hid hsz
                clear hsz
                go_wp2_with fail
                obtain ⟨rm, hrm⟩ : ∃ rm, T.room = rm := ⟨_, rfl⟩
                have HRM := Lib.hid hrm
                have hrm2 := HJ.out.al.room
                rw [HJ.out.mo, hrm] at hrm2
                refine (room_p HJ.out.vs.dp hrm).mono ?_
                rintro e W3 ⟨rfl, _, b3⟩
                have J3 := Lib.hid (HJ.out.later b3)
                clear b3 HJ hrm RA
                have hkq : k ≤ cq := by have := HK.out; omega
                have hka : k ≤ all.length := by have := HK.out; have := HNA.out; omega
                have hkl : (all.take k).length = k := by rw [List.length_take]; omega
                have hnl : wideS (all.take k) ≤ 8192 := by have := wide_take_le all k; have := HAL.out; omega
                have hsz := HSZ.out
                have R3 : Rows W3 (fun b => X b ∧ b ≠ v) 1 ByR Q k (all.take k) := by
                  have h1 := J3.out
                  exact h1.reads k hka
                have hck := compact_s (c := cq) HL.out J3.out.vs R3 (by have := HLL.out; omega) (Nat.le_refl 1) (by decide) (by omega) (by have := HCN.out; have := wide_len l; have := h8'.out; omega)
                rcases compact_full (L := all.take k) J3.out.al J3.out.fu (not_long (by omega)) (by have := HLL.out; omega) (by decide) with ⟨hroom, e⟩ | ⟨hroom, T2, e, A2, mo2, fu2, cn2⟩
                · rw [HRM.out, hsz] at hroom
                  rw [e] at hck
                  dsimp only at hck
                  have HCK := Lib.hid hck
                  have HR2 := Lib.hid hrm2
                  have t8 : decide (sz ≤ rm) = false := decide_eq_false (by omega)
                  clear hck e R3 hrm2 hsz hnl hkl hroom
                  go_wp2_with fail
                  refine (HCK.out).mono ?_
                  rintro e W5 ⟨rfl, V5, K5⟩
                  have J5 := Lib.hid (J3.out.kept V5 J3.out.al rfl J3.out.fu K5)
                  clear V5 K5 J3 HCK
                  go_wp2_with fail
                  refine (room_p J5.out.vs.dp HRM.out).mono ?_
                  rintro e W6 ⟨rfl, _, b6⟩
                  have J6 := Lib.hid (J5.out.later b6)
                  clear b6 J5
                  go_wp2_with fail
                  obtain ⟨U, eU, AU, mU, fU⟩ := open_live J6.out.al J6.out.vs.dp.ok J6.out.fu
                  have ho := open_any HL.out J6.out.vs.dp J6.out.xs (by have := HCN.out; have := wide_len l; have := h8'.out; omega)
                  rw [eU] at ho
                  dsimp only at ho
                  have hru : U.room = rm := by rw [AU.room, mU, J6.out.mo]; exact HR2.out.symm
                  have HRU := Lib.hid hru
                  have R6 := Lib.hid (Rows.weak (Q := X) byM J6.out.rows fun b hb _ => hb.1)
                  clear eU AU mU fU hru J6 HRM HR2
                  refine ho.mono ?_
                  clear ho
                  rintro e W7 h
                  rcases h with ⟨h, _⟩ | ⟨_, v2, r2, Y2, rfl, hv2, hV2, ⟨A9, c9, hr9, hc9, hR9⟩, hY2, hD2, hK2⟩
                  · exact absurd rfl h
                  have hr' : r2 = .slice A9 na c9 := by rw [hr9, HNA.out]
                  subst hr'
                  have R7 := R6.out.keep byM hK2
                  rw [HNA.out] at hR9 R7
                  have SM := Lib.hid (same_self (c := c9) (d := cq) W7 (Rows.weak byM hR9 fun _ _ _ => trivial) (Rows.weak byM R7 fun _ _ _ => trivial) (by have := HLL.out; have := HNA.out; omega))
                  have D7 := Lib.hid hD2
                  clear hr9 hv2 hV2 hc9 hR9 hY2 hD2 hK2 R6 R7
                  go_wp2_with fail
                  refine (SM.out).mono ?_
                  rintro e W8 ⟨rfl, b8⟩
                  have D8 := Lib.hid (D7.out.later b8)
                  clear SM b8 D7
                  go_wp2_with fail
                  refine (room_p D8.out HRU.out).mono ?_
                  rintro e W9 ⟨rfl, D9, _⟩
                  have HB := Lib.hid D9.bel
                  clear D9 D8 HRU
                  go_wp2_with fail
                  refine (works_any (HL.out.later HL.out.lt HB.out)).mono ?_
                  rintro e W10 ⟨rfl, b10⟩
                  have HC := Lib.hid (HB.out.trans (b10.mono HB.out.size))
                  clear b10 HB
                  go_wp2_with fail
                  go_ret
                  exact ⟨rfl, HC.out⟩
                · rw [HRM.out, hsz] at hroom
                  rw [e] at hck
                  dsimp only at hck
                  have HCK := Lib.hid hck
                  have t8 : decide (sz ≤ rm) = true := decide_eq_true (by omega)
                  have hzM : sz ≤ M := by omega
                  have hz : IntKind.i64.wrap ((M : Int) - (sz : Int)) = (M : Int) - (sz : Int) := IntWalk.i64_in _ (by omega)
                  have HKL := Lib.hid hkl
                  have RQ := Lib.hid (Rows.weak (Q := fun b => X b ∧ b ≠ v) byM R3 fun b hb _ => hb)
                  clear hck e R3 hrm2 hsz hnl hkl hroom HRM
                  go_wp2_with fail
                  refine (HCK.out).mono ?_
                  rintro e W5 ⟨rfl, V5, K5⟩
                  have R5 := Lib.hid (Rows.weak (Q := X) byM (RQ.out.keep byM K5) fun b hb _ => hb.1)
                  have X5 : Hid (∀ b, X b → b < W5.heap.size) := Lib.hid fun b hb => Nat.lt_of_lt_of_le (J3.out.xs b hb) K5.size
                  obtain ⟨U, eU, AU, mU, fU⟩ := open_live A2 V5.dp.ok fu2
                  have ho := open_any HL.out V5.dp X5.out (by have := HCN.out; have := wide_len l; have := h8'.out; omega)
                  rw [eU] at ho
                  dsimp only at ho
                  have hru : U.room = M - sz := by rw [AU.room, mU, mo2, J3.out.mo, HSZ.out]
                  have HRU := Lib.hid hru
                  have HO := Lib.hid ho
                  clear eU AU mU fU hru ho V5 K5 HCK RQ A2 mo2 fu2 cn2 J3
                  go_wp2_with fail
                  refine (HO.out).mono ?_
                  rintro e W7 h
                  rcases h with ⟨h, _⟩ | ⟨_, v2, r2, Y2, rfl, hv2, hV2, ⟨A9, c9, hr9, hc9, hR9⟩, hY2, hD2, hK2⟩
                  · exact absurd rfl h
                  have hr' : r2 = .slice A9 k c9 := by rw [hr9, HKL.out]
                  subst hr'
                  have R7 := R5.out.keep byM hK2
                  rw [HKL.out] at hR9
                  have SM := Lib.hid (same_self (c := c9) (d := cq) W7 (Rows.weak byM hR9 fun _ _ _ => trivial) (Rows.weak byM R7 fun _ _ _ => trivial) (by have := HLL.out; omega))
                  have D7 := Lib.hid hD2
                  have t9 : (((M - sz : Nat) : Int) == (M : Int) - (sz : Int)) = true := by rw [beq_iff_eq]; omega
                  clear hr9 hv2 hV2 hc9 hR9 hY2 hD2 hK2 R5 R7 HO X5
                  go_wp2_with fail
                  refine (SM.out).mono ?_
                  rintro e W8 ⟨rfl, b8⟩
                  have D8 := Lib.hid (D7.out.later b8)
                  clear SM b8 D7
                  go_wp2_with fail
                  refine (room_p D8.out HRU.out).mono ?_
                  rintro e W9 ⟨rfl, D9, _⟩
                  have HB := Lib.hid D9.bel
                  clear D9 D8 HRU
                  go_wp2_with fail
                  refine (works_any (HL.out.later HL.out.lt HB.out)).mono ?_
                  rintro e W10 ⟨rfl, b10⟩
                  have HC := Lib.hid (HB.out.trans (b10.mono HB.out.size))
                  clear b10 HB
                  go_wp2_with fail
                  go_ret
                  exact ⟨rfl, HC.out⟩
end Go.Proofs.YtjcphpmlekfhdaaDoor
