/- VaultKeeps: walked. Condition: the tables lie as laid. -/
import Derived.Test.YtjcphpmlekfhdaaDoorGo
import Derived.IntWalk
import Derived.BigRegion
namespace Go.Proofs.YtjcphpmlekfhdaaDoor
open Go.RowKit
attribute [local go_sem ↓] appK_mark

set_option maxRecDepth 100000 in
set_option maxHeartbeats 16000000 in
theorem keeps_law {w : World} {A : Option Addr} {n c : Nat} {l : List CallD} (hnc : n ≤ c) (hn : n ≤ 140737488351232) (hcm : c ≤ 9223372036854775807) (hR : Rows w anyP 7 CallR A n l) (hLd : Laid w) : Calls Tryd.prog 3 #[.slice A n c] w fun e W => e = .returned (.bool true) ∧ Below w.heap.size w W := by
  have hln := hR.len
  have HL := Lib.hid hLd
  have HR := Lib.hid hR
  have HH := Lib.hid (heavy_any (c := c) w hn hR)
  clear hLd hR
  by_cases hv : 16384 < kwts l
  · have HV := Lib.hid hv
    go_enter Tryd.func3, Tryd.ntmps3
    go_wp2_with fail
    refine (HH.out).mono ?_
    rw [decide_eq_true hv]
    rintro e W ⟨rfl, b⟩
    have HB := Lib.hid b
    clear b HH hv
    go_wp2_with fail
    refine (works_any (HL.out.later HL.out.lt HB.out)).mono ?_
    rintro e W ⟨rfl, bW⟩
    have HC := Lib.hid (below_trn HB.out bW)
    clear bW HB
    go_wp2_with fail
    go_ret
    exact ⟨rfl, HC.out⟩
  have HV := Lib.hid hv
  obtain ⟨T1, e1, A1, m1, f1⟩ := new_open (m := 32768) (by decide)
  have q1 := cnt_openS (newD 32768)
  rw [e1] at q1
  have q1' : T1.cnt ≤ 0 + 4 := q1
  have H1 := Lib.hid e1
  clear q1 e1
  go_enter Tryd.func3, Tryd.ntmps3
  go_wp2_with fail
  refine (HH.out).mono ?_
  rw [decide_eq_false hv]
  rintro e W0 ⟨rfl, b0⟩
  have HN := Lib.hid (new_p (w0 := w) (w := W0) (X := fun b => b < w.heap.size) b0 (fun _ h => Nat.lt_of_lt_of_le h b0.size) (m := 32768) (by decide) (by decide))
  have hs0 := b0.size
  have HS0 := Lib.hid hs0
  clear b0 hs0 HH hv
  go_wp2_with fail
  refine (HN.out).mono ?_
  rintro e W1 ⟨d, rfl, hd1, D1', b1⟩
  have D1 := Lib.hid D1'
  have hX1 : Hid (∀ b, b < w.heap.size → b < W1.heap.size) := Lib.hid fun b hb => Nat.lt_of_lt_of_le hb (Nat.le_trans HS0.out b1.size)
  clear hd1 D1' b1 HN
  go_wp2_with fail
  have ho := open_any HL.out D1.out hX1.out (Nat.le_trans (Nat.le_of_eq (rfl : (newD 32768).cnt = 0)) (Nat.zero_le _))
  rw [H1.out] at ho
  dsimp only at ho
  refine ho.mono ?_
  clear ho
  rintro e W2 h
  rcases h with ⟨h, _⟩ | ⟨_, v, r, Y, rfl, hv, hV, ⟨A9, c9, hr, hc, hR⟩, hY, hD, hK⟩
  · exact absurd rfl h
  have hr' : r = .slice A9 0 c9 := hr
  subst hr'
  have hw2 : w.heap.size ≤ W2.heap.size := hD.bel.size
  have hvl := hV.lt
  have hvw : w.heap.size ≤ v := by have := D1.out.lt; omega
  obtain ⟨W3, hW3⟩ : ∃ W3, W2.alloc (.cells #[.slice none 0 0, .slice none 0 0, .slice none 0 0, .bool false] 34) = W3 := ⟨_, rfl⟩
  have b3 : Below W2.heap.size W2 W3 := by rw [← hW3]; exact (Below.refl _ _).alloc (Nat.le_refl _) _
  have B3 : Ro W3 W2.heap.size 34 [.slice none 0 0, .slice none 0 0, .slice none 0 0, .bool false] := by rw [← hW3]; exact Ro.new W2 _ _
  have z3 : W3.heap.size = W2.heap.size + 1 := by rw [← hW3]; simp
  have J0 : KepJ w d W2.heap.size 0 (.pointer (some ⟨v, 0, none⟩)) [] [] [] false T1 (fun b => b < w.heap.size ∨ b = v ∨ b = W2.heap.size) none none none 0 0 0 W3 := by
    refine ⟨⟨hD.wide (Kept.of_below b3) (hD.bel.trans (b3.mono hD.bel.size)) fun b hb => ?_, B3, hw2, fun b hb => .inl hb, .inr (.inr rfl), fun b hb => ?_, Rows.nil _ _ _ _ _, Rows.nil _ _ _ _ _, Rows.nil _ _ _ _ _, Nat.le_refl _, Nat.le_refl _, Nat.le_refl _⟩, by omega, .inl ⟨v, 1, 1, rfl, hV.later b3, .inr (.inl rfl), hvw, by omega, A1, rfl, rfl⟩⟩
    · rcases hb with h | h | h
      · exact .inl (.inl h)
      · exact .inl (.inr (.inl h))
      · exact .inr ⟨by omega, by omega⟩
    · rcases hb with h | h | h <;> omega
  have x0 := B3.cell (k := 0) rfl
  have x1 := B3.cell (k := 1) rfl
  have x2 := B3.cell (k := 2) rfl
  have x3 := B3.cell (k := 3) rfl
  have y0 := B3.free 0
  have y1 := B3.free 1
  have y2 := B3.free 2
  have y3 := B3.free 3
  have HJ0 := Lib.hid J0
  obtain ⟨pb, hpb⟩ : ∃ pb, W2.heap.size = pb := ⟨_, rfl⟩
  rw [hpb] at x0 x1 x2 x3 y0 y1 y2 y3 HJ0
  have HPB := Lib.hid hpb
  clear J0 hr hV hc hR hY hD hK D1 H1 hX1 A1 m1 f1 b3 B3 z3 hw2 hvl hvw hv
  go_wp2_with fail
  go_loopw [5, 9] (fun a i wq => ∃ (k : Nat) (all more next : List (List Nat)) (o : Bool) (T : Dk) (X : Nat → Prop) (A1 A2 A3 : Option Addr) (c1 c2 c3 : Nat), k ≤ n ∧ i = .int .i64 (k : Nat) ∧ KepJ w d pb k a all more next o T X A1 A2 A3 c1 c2 c3 wq ∧ all.length + more.length + next.length ≤ kwts (l.take k)) (fun _ i _ => n - (intOf i).toNat)
  case atStart =>
    obtain ⟨K, hs, bel, box⟩ := put4 HJ0.out.box HJ0.out.low HJ0.out.dp.bel rfl
    exact ⟨0, [], [], [], false, T1, _, none, none, none, 0, 0, 0, Nat.zero_le _, rfl, ⟨HJ0.out.toKepB.put K hs bel box HJ0.out.r1 HJ0.out.r2 HJ0.out.r3 HJ0.out.k1 HJ0.out.k2 HJ0.out.k3, HJ0.out.cn, HJ0.out.st.kept K⟩, Nat.zero_le _⟩
  case round =>
    obtain ⟨k, all, more, next, o, T, X, A1, A2, A3, c1, c2, c3, hk, rfl, J, hsz⟩ := hrel
    have HJ := Lib.hid J
    have HSZ := Lib.hid hsz
    have HKN : Hid (k ≤ 512 ∧ kwts (l.take k) ≤ 16384) := Lib.hid (by
      have h1 := kwts_take l k
      have h2 := HV.out
      have h3 := kwts_len (l.take k)
      rw [List.length_take] at h3
      omega)
    clear J hsz
    by_cases hkn : k < n
    · have t1 : decide ((k : Int) < (n : Int)) = true := decide_eq_true (by omega)
      obtain ⟨b, oo, rfl⟩ := rows_some HR.out (by omega)
      have hkl : k < l.length := by omega
      obtain ⟨hb, _, V, _, hr, A5, c5, V2, rfl, g1, g2, g3, g4, B6, c6, Q7, c7, rfl, g5, g6, g7, g8, g9, g10, g11⟩ := (Rows.later callM (Rows.weak (Q := fun b => b < w.heap.size) callM HR.out fun _ _ h => h) HJ.out.dp.bel).at_ hkl
      obtain ⟨x, hx⟩ : ∃ x, l[k] = x := ⟨_, rfl⟩
      rw [hx] at hr g1 g2 g4 g5 g6 g8 g9 g11
      have z0 := hr 0 _ rfl
      have z1 := hr 1 _ rfl
      have z2 := hr 2 _ rfl
      have z3 := hr 3 _ rfl
      have z4 := hr 4 _ rfl
      have z5 := hr 5 _ rfl
      have z6 := hr 6 _ rfl
      rw [Nat.add_zero] at z0
      obtain ⟨W1, hW1⟩ : ∃ W1, wr.alloc (.cells #[.int .u8 0, .slice none 0 0, .int .u8 0, .int .i64 0, .int .i64 0, .slice none 0 0, .slice none 0 0] 40) = W1 := ⟨_, rfl⟩
      have b1 : Below wr.heap.size wr W1 := by rw [← hW1]; exact (Below.refl _ _).alloc (Nat.le_refl _) _
      have B1 : Ro W1 wr.heap.size 40 [.int .u8 0, .slice none 0 0, .int .u8 0, .int .i64 0, .int .i64 0, .slice none 0 0, .slice none 0 0] := by rw [← hW1]; exact Ro.new wr _ _
      have cu0 := B1.cell (k := 0) rfl
      have cu1 := B1.cell (k := 1) rfl
      have cu2 := B1.cell (k := 2) rfl
      have cu3 := B1.cell (k := 3) rfl
      have cu4 := B1.cell (k := 4) rfl
      have cu5 := B1.cell (k := 5) rfl
      have cu6 := B1.cell (k := 6) rfl
      have y0 := B1.free 0
      have y1 := B1.free 1
      have y2 := B1.free 2
      have y3 := B1.free 3
      have y4 := B1.free 4
      have y5 := B1.free 5
      have y6 := B1.free 6
      have HG4 := Lib.hid g4
      have HG11 := Lib.hid g11
      have HX := Lib.hid hx
      have HB1 := Lib.hid b1
      have HBX := Lib.hid B1
      have hlk : kwts (l.take (k + 1)) = kwts (l.take k) + kwt x := by rw [kwts_next hkl, hx]
      have hlx : kwts (l.take (k + 1)) ≤ 16384 := by
        have h1 := kwts_take l (k + 1)
        have h2 := HV.out
        omega
      have hrw := rwt_len x.l
      have HLX : Hid (rwt x.l ≤ kwt x ∧ kwts (l.take (k + 1)) = kwts (l.take k) + kwt x ∧ kwts (l.take (k + 1)) ≤ 16384) := Lib.hid ⟨by unfold kwt; omega, hlk, hlx⟩
      have hxl : x.l.length ≤ 16384 ∧ wideS x.l ≤ 1073741824 := by have := HLX.out; omega
      have HXL := Lib.hid hxl
      have HRW := Lib.hid hrw
      obtain ⟨W8, hW8⟩ : ∃ W8, ((((((W1.setCell ⟨wr.heap.size, 0, none⟩ (.int .u8 (x.k : Int))).setCell ⟨wr.heap.size, 1, none⟩ (.slice A5 x.l.length c5)).setCell ⟨wr.heap.size, 2, none⟩ (.int .u8 (x.s.k : Int))).setCell ⟨wr.heap.size, 3, none⟩ (.int .i64 x.s.f)).setCell ⟨wr.heap.size, 4, none⟩ (.int .i64 x.s.n)).setCell ⟨wr.heap.size, 5, none⟩ (.slice B6 x.s.b.length c6)).setCell ⟨wr.heap.size, 6, none⟩ (.slice Q7 x.s.p.length c7) = W8 := ⟨_, rfl⟩
      obtain ⟨b8, R8⟩ := put7 HBX.out (Nat.le_refl _) HB1.out hW8.symm
      have J8 := HJ.out.wide b8
      obtain ⟨X8, hX8⟩ : ∃ X8 : Nat → Prop, (fun k => X k ∨ (wr.heap.size ≤ k ∧ k < W8.heap.size)) = X8 := ⟨_, rfl⟩
      rw [hX8] at J8
      have xs8 : X8 wr.heap.size := by rw [← hX8]; exact .inr ⟨Nat.le_refl _, R8.lt⟩
      have far8 := HJ.out.st.far wr.heap.size (Nat.le_refl _)
      have HW8 := Lib.hid hW8
      have HJ8 := Lib.hid J8
      have HR8 := Lib.hid R8
      have HXS := Lib.hid xs8
      have HFR := Lib.hid far8
      have RL8 := Lib.hid (Rows.later byM HG4.out b8)
      have ZP8 := Lib.hid (HG11.out.keep (Kept.of_below b8))
      clear hr g4 g11 hx b1 B1 hlk hlx hrw hxl hW8 b8 R8 J8 hX8 xs8 far8
      rcases (by omega : (x.k : Int) % 6 < 3 ∨ (x.k : Int) % 6 = 3 ∨ (x.k : Int) % 6 = 4 ∨ (x.k : Int) % 6 = 5) with q | q | q | q
      · rcases (by omega : (x.k : Int) % 6 = 0 ∨ (x.k : Int) % 6 = 1 ∨ (x.k : Int) % 6 = 2) with q | q | q
        all_goals first
          | (have f0 : ((x.k : Int) % 6 == 0) = true := by rw [q]; rfl)
          | (have f0 : ((x.k : Int) % 6 == 0) = false := by rw [q]; rfl
             have f1 : ((x.k : Int) % 6 == 1) = true := by rw [q]; rfl)
          | (have f0 : ((x.k : Int) % 6 == 0) = false := by rw [q]; rfl
             have f1 : ((x.k : Int) % 6 == 1) = false := by rw [q]; rfl
             have f2 : ((x.k : Int) % 6 == 2) = true := by rw [q]; rfl)
        all_goals clear q
        all_goals
          go_wp2_with fail
          rw [HW8.out]
          refine (kep_add HL.out HJ8.out HKN.out.1 (by have := HSZ.out; have := HKN.out; omega) (Rows.weak byM RL8.out fun _ _ _ => trivial) HXL.out.1 HXL.out.2).mono ?_
          rintro e W9 ⟨xx, T2, rfl, B9, K9, cn9, h⟩
          have R9 : Ro W9 wr.heap.size 40 _ := (K9.blk wr.heap.size ⟨HXS.out, HFR.out⟩ HR8.out.lt).trans HR8.out
          have z1 := R9.cell (k := 1) rfl
          have RL9 := Lib.hid (Rows.keep byM RL8.out (K9.narrow fun b hb => ⟨HJ8.out.xo b hb, HJ8.out.st.old b hb⟩))
          have x0 := B9.box.cell (k := 0) rfl
          have x1 := B9.box.cell (k := 1) rfl
          have y0 := B9.box.free 0
          have y1 := B9.box.free 1
          have HB9 := Lib.hid B9
          have HC9 := Lib.hid cn9
          have HR9 := Lib.hid R9
          clear B9 K9 cn9 R9 RL8
          rcases h with ⟨h0, h8, st⟩ | ⟨rfl, st, rfl, rfl⟩ | ⟨rfl, st⟩
          · have t5 : (xx == 0) = false := beq_eq_false_iff_ne.2 h0
            have t6 : (xx == 8) = false := beq_eq_false_iff_ne.2 h8
            have HS := Lib.hid st
            clear st h0 h8
            go_wp2_with fail
            go_roundw
            case rel => exact ⟨k + 1, all, more, next, o, T2, X8, A1, A2, A3, c1, c2, c3, by omega, by go_num, ⟨HB9.out, HC9.out, HS.out⟩, by have := HSZ.out; have := HLX.out; omega⟩
            case measure => simp [intOf]; omega
          · obtain ⟨A6, c6', W10, A7, c7', W11, q1, b2, q2, b3, hc7, r7⟩ := kep_app (A5 := A5) (c5 := c5) (c1 := c1) (P := KpR X8 pb u5) (fun b h => HB9.out.xs b h.1) HB9.out.r1 (HB9.out.older st RL9.out) (by have := HSZ.out; have := HKN.out; have := HXL.out; omega)
            have JE := Lib.hid (kep_added HB9.out st b3 hc7 r7 HC9.out)
            have bx10 := HB9.out.box.later b2
            have bx11 := HB9.out.box.later b3
            have sx10 := HR9.out.later b2
            have xd0 : W9.drew.cell? ⟨pb, 0, none⟩ = some (.slice A1 all.length c1) := x0
            have zd1 : W9.drew.cell? ⟨wr.heap.size, 1, none⟩ = some (.slice A5 x.l.length c5) := z1
            have ba : Below W9.heap.size W9 (W9.alloc (.cells #[] 35)).drew := ((Below.refl _ _).alloc (Nat.le_refl _) _).drew
            have xa0 : (W9.alloc (.cells #[] 35)).drew.cell? ⟨pb, 0, none⟩ = some (.slice A1 all.length c1) := (HB9.out.box.later ba).cell (k := 0) rfl
            have za1 : (W9.alloc (.cells #[] 35)).drew.cell? ⟨wr.heap.size, 1, none⟩ = some (.slice A5 x.l.length c5) := (HR9.out.later ba).cell (k := 1) rfl
            have z10 := sx10.cell (k := 1) rfl
            have x11 := bx11.cell (k := 0) rfl
            have y11 := bx11.free 0
            clear st b2 b3 hc7 r7 bx10 bx11 sx10 ba x0 x1 y0 y1 z1
            go_wp2_with fail
            go_region
            go_wp2_with fail
            go_roundw
            case rel => exact ⟨k + 1, all ++ x.l, [], next, false, T2, _, A7, A2, A3, c7', c2, c3, by omega, by go_num, by first | exact JE.out | (rw [List.length_append]; exact JE.out), by have := HSZ.out; have := HLX.out; have := HRW.out; simp only [List.length_append, List.length_nil] at this ⊢; omega⟩
            case measure => simp [intOf]; omega
          · have JE := Lib.hid (kep_more HB9.out st RL9.out g2.1 HC9.out)
            clear st
            go_wp2_with fail
            go_roundw
            case rel => exact ⟨k + 1, all, x.l, next, o, T2, X8, A1, A5, A3, c1, c5, c3, by omega, by go_num, JE.out, by have := HSZ.out; have := HLX.out; have := HRW.out; omega⟩
            case measure => simp [intOf]; omega
      · have f0 : ((x.k : Int) % 6 == 0) = false := by rw [q]; rfl
        have f1 : ((x.k : Int) % 6 == 1) = false := by rw [q]; rfl
        have f2 : ((x.k : Int) % 6 == 2) = false := by rw [q]; rfl
        have f3 : ((x.k : Int) % 6 == 3) = true := by rw [q]; rfl
        clear q
        go_wp2_with fail
        rw [HW8.out]
        refine (kep_compact HL.out HJ8.out HKN.out.1 RL8.out HXL.out.1 HXL.out.2).mono ?_
        rintro e W9 ⟨xx, T2, rfl, B9, K9, cn9, h⟩
        have R9 : Ro W9 wr.heap.size 40 _ := (K9.blk wr.heap.size ⟨HXS.out, HFR.out⟩ HR8.out.lt).trans HR8.out
        have z1 := R9.cell (k := 1) rfl
        have RL9 := Lib.hid (Rows.keep byM RL8.out (K9.narrow fun b hb => ⟨HJ8.out.xo b hb, HJ8.out.st.old b hb⟩))
        have x0 := B9.box.cell (k := 0) rfl
        have x1 := B9.box.cell (k := 1) rfl
        have x2 := B9.box.cell (k := 2) rfl
        have x3 := B9.box.cell (k := 3) rfl
        have y0 := B9.box.free 0
        have y1 := B9.box.free 1
        have y2 := B9.box.free 2
        have y3 := B9.box.free 3
        have HB9 := Lib.hid B9
        have HC9 := Lib.hid cn9
        clear B9 K9 cn9 R9 RL8
        rcases h with ⟨h0, h8, st⟩ | ⟨rfl, st⟩ | ⟨rfl, st⟩
        · have t5 : (xx == 0) = false := beq_eq_false_iff_ne.2 h0
          have t6 : (xx == 8) = false := beq_eq_false_iff_ne.2 h8
          have HS := Lib.hid st
          clear st h0 h8
          go_wp2_with fail
          go_roundw
          case rel => exact ⟨k + 1, all, more, next, o, T2, X8, A1, A2, A3, c1, c2, c3, by omega, by go_num, ⟨HB9.out, HC9.out, HS.out⟩, by have := HSZ.out; have := HLX.out; omega⟩
          case measure => simp [intOf]; omega
        · have JE := Lib.hid (kep_all HB9.out st RL9.out g2.1 HC9.out)
          clear st
          go_wp2_with fail
          go_roundw
          case rel => exact ⟨k + 1, x.l, [], [], false, T2, X8, A5, none, none, c5, 0, 0, by omega, by go_num, JE.out, by have := HSZ.out; have := HLX.out; have := HRW.out; simp only [List.length_nil]; omega⟩
          case measure => simp [intOf]; omega
        · have JE := Lib.hid (kep_left HB9.out st RL9.out g2.1 HC9.out)
          clear st
          go_wp2_with fail
          go_roundw
          case rel => exact ⟨k + 1, all, more, x.l, true, T2, X8, A1, A2, A5, c1, c2, c5, by omega, by go_num, JE.out, by have := HSZ.out; have := HLX.out; have := HRW.out; omega⟩
          case measure => simp [intOf]; omega
      · have f0 : ((x.k : Int) % 6 == 0) = false := by rw [q]; rfl
        have f1 : ((x.k : Int) % 6 == 1) = false := by rw [q]; rfl
        have f2 : ((x.k : Int) % 6 == 2) = false := by rw [q]; rfl
        have f3 : ((x.k : Int) % 6 == 3) = false := by rw [q]; rfl
        have f4 : ((x.k : Int) % 6 == 4) = true := by rw [q]; rfl
        clear q
        obtain ⟨T2, T3, T4, e1, e2, fu2, e3, cn1, cn2, cn3, hT⟩ := kp_again HJ8.out.st.safe x.s.p x.s.n
        have H1 := Lib.hid e1
        have H2 := Lib.hid e2
        have H3 := Lib.hid e3
        have HT := Lib.hid (hT T4 (.inr rfl))
        have HC3 := Lib.hid cn3
        have HCB : Hid (T2.cnt ≤ 1073741823) := Lib.hid (by rw [cn1]; have := HJ8.out.cn; have := HKN.out; omega)
        clear e1 e2 e3 hT cn1 cn2 cn3 fu2
        go_wp2_with fail
        rw [HW8.out]
        refine (off_p HJ8.out.dp (S' := T2) rfl H1.out).mono ?_
        rintro e W9 ⟨rfl, D9', K9⟩
        have D9 := Lib.hid D9'
        have HK9 := Lib.hid K9
        have R9 : Ro W9 wr.heap.size 40 _ := (K9.blk wr.heap.size HXS.out HR8.out.lt).trans HR8.out
        have z6 := R9.cell (k := 6) rfl
        have HR9 := Lib.hid R9
        have ZP9 := Lib.hid (ZP8.out.keep (K9.narrow fun b hb => HJ8.out.xo b hb))
        clear D9' K9 R9
        go_wp2_with fail
        refine (on_p D9.out HCB.out ZP9.out.zs (fun h a e => .inr (ZP9.out.inP h a e)) g9.1 g10 (x := 0) (S' := T3) (by rw [H2.out]) (by rw [H2.out])).mono ?_
        rintro e W10 ⟨rfl, D10', K10⟩
        have D10 := Lib.hid D10'
        have HK10 := Lib.hid (HK9.out.trans' K10)
        have R10 : Ro W10 wr.heap.size 40 _ := (K10.blk wr.heap.size HXS.out HR9.out.lt).trans HR9.out
        have z4 := R10.cell (k := 4) rfl
        clear D10' K10 z6 R10 D9
        go_wp2_with fail
        obtain ⟨fx, hfx⟩ : ∃ fx, (T3.setFuse x.s.n).1 = fx := ⟨_, rfl⟩
        refine (fuse_p D10.out x.s.n g5.n hfx H3.out).mono ?_
        rintro e W11 ⟨rfl, D11', K11⟩
        have D11 := Lib.hid D11'
        have HK11 := Lib.hid (HK10.out.trans' K11)
        obtain ⟨U, f, g, y, hQ, cU, hO⟩ := kp_open D11'.ok HT.out
        clear D11' K11 hfx D10 z4
        go_wp2_with fail
        rcases hO with ⟨eU, AU⟩ | ⟨eU, _, SU⟩
        · have ho := open_any HL.out D11.out (fun b hb => Nat.lt_of_lt_of_le (HJ8.out.xs b hb) HK11.out.size) (by have := HC3.out; omega)
          rw [eU] at ho
          dsimp only at ho
          refine ho.mono ?_
          clear ho eU
          rintro e W12 h
          rcases h with ⟨h, _⟩ | ⟨_, v2, r4, Y2, rfl, hv2, hV2, ⟨A9, c9, hr9, hc9, hR9⟩, hY2, hD2, hK2⟩
          · exact absurd rfl h
          subst hr9
          have K12 := HK11.out.trans' hK2
          have hbx : Ro W12 pb 34 _ := (K12.blk pb HJ8.out.xb HJ8.out.box.lt).trans HJ8.out.box
          have x0 := hbx.cell (k := 0) rfl
          have x1 := hbx.cell (k := 1) rfl
          have x2 := hbx.cell (k := 2) rfl
          have x3 := hbx.cell (k := 3) rfl
          have hyl : y.length ≤ 16384 := by have := maybe_len hQ; have := HSZ.out; have := HKN.out; omega
          have HYL : Hid (y.length ≤ all.length + more.length + next.length) := Lib.hid (maybe_len hQ)
          have FD := Lib.hid (found_maybe (A3 := A3) (c1 := c1) (c3 := c3) (n3 := next.length) W12 (Rows.weak byM (HJ8.out.r1.keep byM (K12.narrow fun b h => h.1)) fun _ _ _ => trivial) (Rows.weak byM (HJ8.out.r2.keep byM (K12.narrow fun b h => h.1)) fun _ _ _ => trivial) (fun _ => Rows.weak byM (HJ8.out.r3.keep byM (K12.narrow fun b h => h.1)) fun _ _ _ => trivial) (Rows.weak byM hR9 fun _ _ _ => trivial) (by have := HSZ.out; have := HKN.out; omega) ⟨HJ8.out.k2, by have := HSZ.out; have := HKN.out; omega⟩ hc9 (by omega) hQ)
          have JF : Hid (∀ W13, Below W12.heap.size W12 W13 → _ ∧ _) := Lib.hid fun W13 b13 => kep_opened (i := k) HJ8.out.toKepB K12 HK11.out.size hv2 hV2 hR9 hc9 hY2 hD2 AU (by have := HC3.out; omega) b13
          clear hv2 hV2 hc9 hR9 hY2 hD2 hK2 K12 hbx D11 hQ AU cU
          go_wp2_with fail
          refine (FD.out).mono ?_
          rintro e W13 ⟨rfl, b13⟩
          obtain ⟨hbx, je⟩ := JF.out W13 b13
          have JE := Lib.hid je
          have p0 := hbx.cell (k := 0) rfl
          have p1 := hbx.cell (k := 1) rfl
          have p2 := hbx.cell (k := 2) rfl
          have p3 := hbx.cell (k := 3) rfl
          have y0 := hbx.free 0
          have y1 := hbx.free 1
          have y2 := hbx.free 2
          have y3 := hbx.free 3
          clear b13 FD JF x0 x1 x2 x3 hbx je
          go_wp2_with fail
          go_roundw
          case rel => exact ⟨k + 1, y, [], [], false, U, _, A9, none, none, c9, 0, 0, by omega, by go_num, JE.out, by have := HSZ.out; have := HLX.out; have := HYL.out; simp only [List.length_nil]; omega⟩
          case measure => simp [intOf]; omega
        · have ho := open_any HL.out D11.out (fun b hb => Nat.lt_of_lt_of_le (HJ8.out.xs b hb) HK11.out.size) (by have := HC3.out; omega)
          rw [eU] at ho
          dsimp only at ho
          refine ho.mono ?_
          clear ho eU
          rintro e W12 h
          rcases h with ⟨_, rfl, D12, K12⟩ | ⟨h, _⟩
          · have JE := Lib.hid (kep_refused HJ8.out (HK11.out.trans' K12) D12 SU (by have := HC3.out; omega))
            clear D12 K12 SU cU D11
            go_wp2_with fail
            go_roundw
            case rel => exact ⟨k + 1, all, more, next, o, U, X8, A1, A2, A3, c1, c2, c3, by omega, by go_num, JE.out, by have := HSZ.out; have := HLX.out; omega⟩
            case measure => simp [intOf]; omega
          · exact absurd h (by decide)
      · have f0 : ((x.k : Int) % 6 == 0) = false := by rw [q]; rfl
        have f1 : ((x.k : Int) % 6 == 1) = false := by rw [q]; rfl
        have f2 : ((x.k : Int) % 6 == 2) = false := by rw [q]; rfl
        have f3 : ((x.k : Int) % 6 == 3) = false := by rw [q]; rfl
        have f4 : ((x.k : Int) % 6 == 4) = false := by rw [q]; rfl
        clear q
        go_wp2_with fail
        rw [HW8.out]
        obtain ⟨fx, hfx⟩ : ∃ fx, (T.setFuse x.s.n).1 = fx := ⟨_, rfl⟩
        refine (fuse_p HJ8.out.dp x.s.n g5.n hfx rfl).mono ?_
        rintro e W9 ⟨rfl, D9, K9⟩
        have JE := Lib.hid (kep_fused HJ8.out K9 D9)
        clear D9 K9 hfx
        go_wp2_with fail
        go_roundw
        case rel => exact ⟨k + 1, all, more, next, o, _, X8, A1, A2, A3, c1, c2, c3, by omega, by go_num, JE.out, by have := HSZ.out; have := HLX.out; omega⟩
        case measure => simp [intOf]; omega
    · have t1 : decide ((k : Int) < (n : Int)) = false := decide_eq_false (by omega)
      obtain ⟨T2, T3, T4, e1, e2, fu2, _, cn1, cn2, _, hT⟩ := kp_again HJ.out.st.safe [] 0
      have hT2 := hT T3 (.inl rfl)
      have H1 := Lib.hid e1
      have H2 := Lib.hid e2
      have HT := Lib.hid hT2
      have HX := Lib.hid HJ.out.xs
      have r1 := Rows.weak (Q := X) byM HJ.out.r1 fun b h _ => h.1
      have r2 := Rows.weak (Q := X) byM HJ.out.r2 fun b h _ => h.1
      have r3 := Rows.weak (Q := X) byM HJ.out.r3 fun b h _ => h.1
      have hbx := HJ.out.box
      have R1 := Lib.hid r1
      have R2 := Lib.hid r2
      have R3 := Lib.hid r3
      have BX := Lib.hid hbx
      clear e1 e2 hT hT2 r1 r2 r3 hbx
      go_wp2_with fail
      refine (off_p HJ.out.dp (S' := T2) rfl H1.out).mono ?_
      rintro e W5 ⟨rfl, D5', K5⟩
      have D5 := Lib.hid D5'
      have HK5 := Lib.hid K5
      clear D5' K5
      go_wp2_with fail
      refine (on_p D5.out (by have := HJ.out.cn; have := HKN.out; omega) (Zs.nil _ none) (fun h => absurd h (by omega)) (Nat.le_refl _) (by decide) (x := 0) (S' := T3) (by rw [H2.out]) (by rw [H2.out])).mono ?_
      rintro e W6 ⟨rfl, D6', K6⟩
      have D6 := Lib.hid D6'
      have HK6 := Lib.hid (HK5.out.trans' K6)
      obtain ⟨U, f, g, y, hQ, cU, hO⟩ := kp_open D6'.ok HT.out
      clear D6' K6 D5 HK5
      rcases hO with ⟨eU, AU⟩ | ⟨_, h, _⟩
      · have ho := open_any HL.out D6.out (fun b hb => Nat.lt_of_lt_of_le (HX.out b hb) HK6.out.size) (by omega)
        rw [eU] at ho
        dsimp only at ho
        have HO := Lib.hid ho
        have HQ := Lib.hid hQ
        clear eU ho hQ
        go_wp2_with fail
        refine (HO.out).mono ?_
        rintro e W7 h
        rcases h with ⟨h, _⟩ | ⟨_, v2, r4, Y2, rfl, hv2, hV2, ⟨A9, c9, hr9, hc9, hR9⟩, hY2, hD2, hK2⟩
        · exact absurd rfl h
        subst hr9
        have K7 := HK6.out.trans' hK2
        have hbx : Ro W7 pb 34 _ := (K7.blk pb HJ.out.xb BX.out.lt).trans BX.out
        have x0 := hbx.cell (k := 0) rfl
        have x1 := hbx.cell (k := 1) rfl
        have x2 := hbx.cell (k := 2) rfl
        have x3 := hbx.cell (k := 3) rfl
        have hyl : y.length ≤ 16384 := by have := maybe_len HQ.out; have := HSZ.out; have := HKN.out; omega
        have FD := Lib.hid (found_maybe (A3 := A3) (c1 := c1) (c3 := c3) (n3 := next.length) W7 (Rows.weak byM (R1.out.keep byM K7) fun _ _ _ => trivial) (Rows.weak byM (R2.out.keep byM K7) fun _ _ _ => trivial) (fun _ => Rows.weak byM (R3.out.keep byM K7) fun _ _ _ => trivial) (Rows.weak byM hR9 fun _ _ _ => trivial) (by have := HSZ.out; have := HKN.out; omega) ⟨HJ.out.k2, by have := HSZ.out; have := HKN.out; omega⟩ hc9 (by omega) HQ.out)
        have HB := Lib.hid hD2.bel
        clear hv2 hV2 hc9 hR9 hY2 hD2 hK2 K7 hbx HO D6
        go_wp2_with fail
        refine (FD.out).mono ?_
        rintro e W8 ⟨rfl, b8⟩
        have HB8 := Lib.hid (HB.out.trans (b8.mono HB.out.size))
        clear b8 FD HB x0 x1 x2 x3
        go_wp2_with fail
        refine (works_any (HL.out.later HL.out.lt HB8.out)).mono ?_
        rintro e W9 ⟨rfl, b9⟩
        have HC := Lib.hid (HB8.out.trans (b9.mono HB8.out.size))
        clear b9 HB8
        go_wp2_with fail
        go_ret
        exact ⟨rfl, HC.out⟩
      · exact absurd fu2 h
end Go.Proofs.YtjcphpmlekfhdaaDoor
