/- A transaction's bytes, bare bytes and hash, as the reference says them. No condition but a bound on its weight. -/
import Derived.Test.YtbdjcbdnhaddoaaDoorRefB
namespace Go.Proofs.YtbdjcbdnhaddoaaDoor
open Go.RowKit

set_option maxRecDepth 100000 in
set_option maxHeartbeats 8000000 in
theorem refBare_any {t : TxD} {Ai : Option Addr} {ni ci : Nat} {Ao : Option Addr} {no co : Nat} (w : World) (hw : weigh t ≤ 100000000) (hT : TxR w t Ai ni ci Ao no co) :
    Calls Tryd.prog 16 #[.agg (txV t.ver Ai ni ci Ao no co t.lock).toArray] w (GivesB w (bareS t)) := by
  have PL := (parts_of hT.ok)
  have hbl : (bodyS t).length ≤ 2000000000 := by
    have h1 := PL.ins
    have h2 := PL.outs
    have h3 := countS_len t.ins.length
    have h4 := countS_len t.outs.length
    unfold bodyS
    simp only [List.length_append]
    omega
  have b0 := (Below.refl w.heap.size w).alloc (Nat.le_refl _) (.cells (txV t.ver Ai ni ci Ao no co t.lock).toArray 26)
  have r0 := Ro.new w 26 (txV t.ver Ai ni ci Ao no co t.lock)
  have hT1 := hT.later b0
  obtain ⟨wb, hwb⟩ : ∃ wb, w.alloc (.cells (txV t.ver Ai ni ci Ao no co t.lock).toArray 26) = wb := ⟨_, rfl⟩
  rw [hwb] at b0 r0 hT1
  obtain ⟨bx, hbx⟩ : ∃ q, w.heap.size = q := ⟨_, rfl⟩
  rw [hbx] at r0
  have B0 := Lib.hid b0
  have HTX : Hid (∀ u, Below wb.heap.size wb u → Ro u bx 26 (txV t.ver Ai ni ci Ao no co t.lock)) := Lib.hid (fun u g => r0.later g)
  have lT := Lib.hid (txV_len t.ver Ai ni ci Ao no co t.lock)
  have vb := hT.ver
  have lb := hT.lock
  have CB : Hid (∀ u, Below wb.heap.size wb u → Calls Tryd.prog 33 #[.agg (txV t.ver Ai ni ci Ao no co t.lock).toArray] u (GivesB u (bodyS t))) := Lib.hid (fun u g => refBody_any u hw (hT1.later g))
  obtain ⟨v, hv⟩ : ∃ v, t.ver = v := ⟨_, rfl⟩
  obtain ⟨lk, hlk⟩ : ∃ v, t.lock = v := ⟨_, rfl⟩
  rw [hv] at vb hwb HTX lT CB
  rw [hlk] at lb hwb HTX lT CB
  rw [hv, hlk]
  have HV := Lib.hid hv
  have HLK := Lib.hid hlk
  have CV : Hid (∀ u, Calls Tryd.prog 32 #[.int .u64 (v : Nat), .int .i64 4] u (GivesB u (low 4 v))) := Lib.hid (fun u => refLow_any v (by omega) 4 (by decide) u)
  clear hT hT1 PL b0 r0 hv hlk
  go_enter Tryd.func16, Tryd.ntmps16
  go_wp2_with fail
  clear hwb hbx
  refine wp_region_seg (W := wb) (by kernel_rfl) fun wa ga => ?_
  refine wpK_seg 0 3 (f := 5) (by kernel_rfl) (fun _ _ _ _ _ h => h) (by kernel_rfl) (by kernel_rfl) (by kernel_rfl) ga ?_
  apply Exists.intro
  refine ⟨?_, ?_⟩
  · intro wg hg
    simp only [List.drop_zero, List.take_succ_cons, List.take_zero]
    have e1 : ∀ u : After wg, u.w.cell? ⟨bx, 0, none⟩ = some (.int .u32 (v : Int)) := fun u => (HTX.out u.w (hg.trans u.below)).cell (k := 0) rfl
    repeat (go_big_quiet_step (fail))
    refine wpQuiet_nil ?_
    exact rfl
  refine wpK_seg 4 1 (f := 4) (by kernel_rfl) (fun _ _ _ _ _ h => h) (by kernel_rfl) (by kernel_rfl) (by kernel_rfl) ga ?_
  apply Exists.intro
  refine ⟨?_, ?_⟩
  · intro wg hg
    simp only [List.drop_succ_cons, List.drop_zero, List.take_succ_cons, List.take_zero]
    go_big_quiet_want
    refine quiet_load_part (.tmp 1) rfl rfl rowTx (fun w9 h9 => by obtain ⟨u, rfl⟩ := h9; exact (HTX.out u.w (hg.trans u.below)).whole) lT.out ?_
    simp only [Act.put, List.setIfInBounds_toArray, List.set_cons_succ, List.set_cons_zero]
    go_big_quiet_on
    refine wpQuiet_nil ?_
    exact rfl
  have GA := Lib.hid (show Below wb.heap.size wb wa from ga)
  clear ga
  refine wpK_one_want (f := 3) (i := 3) (by kernel_rfl) rfl (by rfl) ?_
  intro w1 g1 K hK
  go_simp
  refine (CV.out w1).mono ?_
  rintro e w2 ⟨A, n, c, rfl, hc, O⟩
  have G1 := Lib.hid (GA.out.trans (g1.mono GA.out.size))
  have O2 := Lib.hid (O.weaken G1.out)
  refine hK _ _ O2.out.bel ?_
  clear hK K g1 O GA
  refine wpK_one_want (f := 2) (i := 5) (by kernel_rfl) rfl (by rfl) ?_
  intro w3 g3 K hK
  go_simp
  have O3 := Lib.hid (O2.out.later g3)
  refine (CB.out w3 O3.out.bel).mono ?_
  rintro e w4 ⟨A4, n4, c4, rfl, hc4, P⟩
  have O4 := Lib.hid (O3.out.later P.bel)
  refine hK _ _ O4.out.bel ?_
  have P4 := Lib.hid P.reads
  have hn4 : n4 ≤ 2000000000 := by have := P.len; omega
  have hn2 : n ≤ 8 := by have := O4.out.len; rw [low_len] at this; omega
  clear hK K g3 P O2 O3
  refine wpK_one_want (f := 1) (i := 6) (by kernel_rfl) rfl (by rfl) ?_
  intro w5 g5 K hK
  refine wp_appB (d := some 10) rfl (.tmp 7) (.tmp 9) rfl rfl (O4.out.later g5) rfl (P4.out.later g5) (by omega) ?_
  intro A6 N6 c6 w6 hc6 o6 g6
  simp only [Act.put, List.setIfInBounds_toArray, List.set_cons_succ, List.set_cons_zero]
  refine hK _ _ o6.bel ?_
  have O6 := Lib.hid o6
  clear hK K g5 g6 o6 O4 P4
  refine wpK_seg 7 1 (f := 0) (by kernel_rfl) (fun _ _ _ _ _ h => h) (by kernel_rfl) (by kernel_rfl) (by kernel_rfl) O6.out.bel ?_
  apply Exists.intro
  refine ⟨?_, ?_⟩
  · intro wg hg
    simp only [List.drop_succ_cons, List.drop_zero, List.take_succ_cons, List.take_zero]
    repeat (go_big_quiet_step (fail))
    refine wpQuiet_nil ?_
    exact rfl
  refine wpK_from O6.out.bel _ _ _ _ ?_
  refine wpK_end (by kernel_rfl) fun w7 g7 => ?_
  have O7 := Lib.hid (O6.out.later g7)
  have LN := O7.out.len
  simp only [List.length_append, low_len] at LN
  have hN : N6 ≤ 2000000010 := by omega
  clear g7 O6 LN
  have e1 := (HTX.out _ O7.out.bel).cell (k := 3) (v := .int .u32 (lk : Int)) rfl
  have CL := Lib.hid (refLow_any lk (by omega) 4 (by decide) w7)
  go_wp2_with fail
  refine CL.out.mono ?_
  rintro e w8 ⟨A8, n8, c8, rfl, hc8, p8⟩
  have O8 := Lib.hid (O7.out.later p8.bel)
  have P8 := Lib.hid p8.reads
  have hn8 : n8 ≤ 8 := by have := p8.len; rw [low_len] at this; omega
  clear p8 CL e1 O7
  go_wp2_with (at_builtin; refine wpList_appB rfl (.tmp 11) (.tmp 15) rfl rfl O8.out rfl P8.out (by omega) ?_)
  intro A9 N9 c9 w9 hc9 o9 g9
  have O9 := Lib.hid (o9.weaken B0.out)
  clear o9 g9 O8 P8
  go_wp2_with fail
  go_ret
  refine ⟨A9, N9, c9, rfl, hc9, ?_⟩
  have fin := O9.out
  rw [← HV.out, ← HLK.out] at fin
  unfold bareS
  try simp only [List.append_assoc] at fin ⊢
  exact fin
set_option maxRecDepth 100000 in
set_option maxHeartbeats 8000000 in
theorem refPut_any {t : TxD} {Ai : Option Addr} {ni ci : Nat} {Ao : Option Addr} {no co : Nat} (w : World) (hw : weigh t ≤ 100000000) (hT : TxR w t Ai ni ci Ao no co) :
    Calls Tryd.prog 14 #[.agg (txV t.ver Ai ni ci Ao no co t.lock).toArray] w (GivesB w (putS t)) := by
  have PL := (parts_of hT.ok)
  have hbl : (bodyS t).length ≤ 2000000000 := by
    have h1 := PL.ins
    have h2 := PL.outs
    have h3 := countS_len t.ins.length
    have h4 := countS_len t.outs.length
    unfold bodyS
    simp only [List.length_append]
    omega
  have b0 := (Below.refl w.heap.size w).alloc (Nat.le_refl _) (.cells (txV t.ver Ai ni ci Ao no co t.lock).toArray 26)
  have r0 := Ro.new w 26 (txV t.ver Ai ni ci Ao no co t.lock)
  have hT1 := hT.later b0
  obtain ⟨wb, hwb⟩ : ∃ wb, w.alloc (.cells (txV t.ver Ai ni ci Ao no co t.lock).toArray 26) = wb := ⟨_, rfl⟩
  rw [hwb] at b0 r0 hT1
  obtain ⟨bx, hbx⟩ : ∃ q, w.heap.size = q := ⟨_, rfl⟩
  rw [hbx] at r0
  have B0 := Lib.hid b0
  have HTX : Hid (∀ u, Below wb.heap.size wb u → Ro u bx 26 (txV t.ver Ai ni ci Ao no co t.lock)) := Lib.hid (fun u g => r0.later g)
  have lT := Lib.hid (txV_len t.ver Ai ni ci Ao no co t.lock)
  have vb := hT.ver
  have lb := hT.lock
  have okT := Lib.hid hT.ok
  have NI := Lib.hid hT.ins.len
  have p3 : (witS t.ins).length ≤ 900000000 := by have := PL.wit; omega
  have hni := hT.i2
  have HT := Lib.hid hT1
  have CS := Lib.hid (refSeen_any wb hT1)
  have CE : Hid (∀ u, Below wb.heap.size wb u → Calls Tryd.prog 16 #[.agg (txV t.ver Ai ni ci Ao no co t.lock).toArray] u (GivesB u (bareS t))) := Lib.hid (fun u g => refBare_any u hw (hT1.later g))
  have CB : Hid (∀ u, Below wb.heap.size wb u → Calls Tryd.prog 33 #[.agg (txV t.ver Ai ni ci Ao no co t.lock).toArray] u (GivesB u (bodyS t))) := Lib.hid (fun u g => refBody_any u hw (hT1.later g))
  obtain ⟨s, hs⟩ : ∃ s, seen t = s := ⟨_, rfl⟩
  rw [hs] at CS
  have HS := Lib.hid hs
  obtain ⟨v, hv⟩ : ∃ v, t.ver = v := ⟨_, rfl⟩
  obtain ⟨lk, hlk⟩ : ∃ v, t.lock = v := ⟨_, rfl⟩
  rw [hv] at vb hwb HTX lT CB CS CE
  rw [hlk] at lb hwb HTX lT CB CS CE
  rw [hv, hlk]
  have HV := Lib.hid hv
  have HLK := Lib.hid hlk
  clear hT hT1 PL b0 r0 hv hlk hs
  go_enter Tryd.func14, Tryd.ntmps14
  have RX := Lib.hid (HTX.out wb (Below.refl _ _))
  go_wp2_with (refine wpList_load_ro rfl (.tmp 1) rfl rfl rowTx RX.out lT.out ?_)
  clear hwb hbx
  refine CS.out.mono ?_
  rintro e w1 ⟨rfl, hb⟩
  have BW := Lib.hid hb
  clear hb CS RX
  cases s with
  | false =>
    have RX := Lib.hid (HTX.out w1 BW.out)
    have CC := Lib.hid (CE.out w1 BW.out)
    go_wp2_with (refine wpList_load_ro rfl (.tmp 1) rfl rfl rowTx RX.out lT.out ?_)
    refine CC.out.mono ?_
    rintro e w2 ⟨A, n, c, rfl, hc, O⟩
    have O2 := Lib.hid ((O.weaken BW.out).weaken B0.out)
    clear O CC
    go_wp2_with fail
    go_ret
    exact ⟨A, n, c, rfl, hc, by unfold putS; rw [HS.out]; exact O2.out⟩
  | true =>
    have e1 := (HTX.out w1 BW.out).cell (k := 0) (v := .int .u32 (v : Int)) rfl
    have CL := Lib.hid (refLow_any v (by omega) 4 (by decide) w1)
    go_wp2_with fail
    refine CL.out.mono ?_
    rintro e w2 ⟨A, n, c, rfl, hc, O⟩
    have hn : n ≤ 8 := by have := O.len; rw [low_len] at this; omega
    have bl := (Below.refl w2.heap.size w2).alloc (Nat.le_refl _) (.cells #[.int .u8 0, .int .u8 1] 5)
    have OL := Lib.hid ((O.weaken BW.out).later bl)
    have BL := Lib.hid (Bs.lit w2 [0, 1] mark_byt)
    clear O bl CL e1
    go_wp2_with (at_builtin; refine wpList_appB rfl (.tmp 15) (.tmp 16) rfl rfl OL.out rfl BL.out (by omega) ?_)
    intro A3 N3 c3 w3 hc3 o3 g3
    have O3 := Lib.hid o3
    have hN3 : N3 ≤ 100 := by have := o3.len; simp only [List.length_append, low_len, List.length_cons, List.length_nil] at this; omega
    have RX := Lib.hid (HTX.out w3 o3.bel)
    have CC := Lib.hid (CB.out w3 o3.bel)
    clear o3 g3 OL BL
    go_wp2_with (refine wpList_load_ro rfl (.tmp 1) rfl rfl rowTx RX.out lT.out ?_)
    refine CC.out.mono ?_
    rintro e w4 ⟨A4, n4, c4, rfl, hc4, p4⟩
    have O4 := Lib.hid (O3.out.later p4.bel)
    have P4 := Lib.hid p4.reads
    have hn4 : n4 ≤ 2000000000 := by have := p4.len; omega
    clear p4 CC RX O3
    go_wp2_with (at_builtin; refine wpList_appB rfl (.tmp 18) (.tmp 20) rfl rfl O4.out rfl P4.out (by omega) ?_)
    intro A5 N5 c5 w5 hc5 o5 g5
    have O5 := Lib.hid o5
    clear o5 g5 O4 P4
    go_wp2_with fail
    go_loopw [3, 4] (fun v0 i wr => ∃ (m : Nat) (A : Option Addr) (N c : Nat), m ≤ ni ∧ i = .int .i64 (m : Nat) ∧ v0 = .slice A N c ∧ N ≤ c ∧ Own wb (.slice A N c) N ((low 4 v ++ [0, 1] ++ bodyS t) ++ witS (t.ins.take m)) wr) (fun _ i _ => ni - (intOf i).toNat)
    case atStart => exact ⟨0, A5, N5, c5, Nat.zero_le _, rfl, rfl, hc5, by rw [show witS (t.ins.take 0) = [] from rfl, List.append_nil]; have := O5.out; (try simp only [List.append_assoc, List.cons_append, List.nil_append] at this ⊢); exact this⟩
    case round =>
      clear O5
      obtain ⟨m, A, N, c, hm, rfl, rfl, hc, oR⟩ := hrel
      have OR := Lib.hid oR
      have e1 := (HTX.out _ oR.bel).cell (k := 1) (v := .slice Ai ni ci) rfl
      clear oR
      by_cases hlt : m < ni
      · have t1 : decide ((m : Int) < (ni : Int)) = true := decide_eq_true (by omega)
        obtain ⟨d, hi, htk, him⟩ := getL NI.out hlt
        have TK := Lib.hid (witS_take htk)
        have okI := Lib.hid (okT.out.ins d him)
        have q1 := flat_take witS1 t.ins m
        have q2 := flat_mem witS1 him
        have q5 : (witS (t.ins.take m)).length ≤ 900000000 := by
          have e1 : (witS (t.ins.take m)).length ≤ (witS t.ins).length := q1
          omega
        have q6 : (itemsS d.w).length ≤ 900000000 := by
          have e1 : (witS1 d).length ≤ (witS t.ins).length := q2
          have e2 : (witS1 d).length = (countS d.w.length).length + (itemsS d.w).length := by unfold witS1; rw [List.length_append]
          omega
        clear q1 q2
        obtain ⟨bi, oi, _, rfl, _⟩ := HT.out.ins.cel (by omega)
        have ad := add_at bi oi
        obtain ⟨hbi, V, hV, hr, As, ns, cs, Aw, nw, cw, rfl, hI⟩ := HT.out.ins.nth hi
        have c35 := range_later hr hbi OR.out.bel 35 _ (inV_at d.h okI.out.h d.n As ns cs d.q Aw nw cw).2.2.2
        have HSi := Lib.hid hI
        have NW := Lib.hid hI.w.len
        have hnw := hI.w2
        have LN := OR.out.len
        simp only [List.length_append, List.length_cons, List.length_nil, low_len] at LN
        have hN : N ≤ 3000000000 := by omega
        have CC := Lib.hid (refCount_any nw (by omega) wr)
        clear hi htk him hr hV hI hbi LN
        go_wp2_with fail
        refine CC.out.mono ?_
        rintro e x2 ⟨A2, n2, c2, rfl, hc2, p2⟩
        have O2 := Lib.hid (OR.out.later p2.bel)
        have P2 := Lib.hid p2.reads
        have k2 := countS_len nw
        have hn2 : n2 ≤ 9 := by have := p2.len; omega
        clear p2 CC e1 c35 OR
        go_wp2_with (at_builtin; refine wpList_appB rfl (.tmp 35) (.tmp 38) rfl rfl O2.out rfl P2.out (by omega) ?_)
        intro A3 N3 c3 x3 hc3 o3 g3
        have O3 := Lib.hid o3
        clear o3 g3 O2 P2
        go_wp2_with fail
        clear t1
        go_loopw [3, 6] (fun v0 i wr => ∃ (p : Nat) (A : Option Addr) (N c : Nat), p ≤ nw ∧ i = .int .i64 (p : Nat) ∧ v0 = .slice A N c ∧ N ≤ c ∧ Own wb (.slice A N c) N (((low 4 v ++ [0, 1] ++ bodyS t) ++ witS (t.ins.take m) ++ countS nw) ++ itemsS (d.w.take p)) wr) (fun _ i _ => nw - (intOf i).toNat)
        case atStart => exact ⟨0, A3, N3, c3, Nat.zero_le _, rfl, rfl, hc3, by rw [show itemsS (d.w.take 0) = [] from rfl, List.append_nil]; have := O3.out; (try simp only [List.append_assoc, List.cons_append, List.nil_append] at this ⊢); exact this⟩
        case round =>
          clear O3
          obtain ⟨p, A4, N4, c4, hp, rfl, rfl, hc4, oR⟩ := hrel
          have OR := Lib.hid oR
          clear oR
          by_cases hlp : p < nw
          · have t2 : decide ((p : Int) < (nw : Int)) = true := decide_eq_true (by omega)
            obtain ⟨x, hx, hxk, hxm⟩ := getL NW.out hlp
            have TX2 := Lib.hid (itemsS_take hxk)
            have r1 := flat_take itemS d.w p
            have r2 := flat_mem itemS hxm
            have r5 : (itemsS (d.w.take p)).length ≤ 900000000 := by
              have e1 : (itemsS (d.w.take p)).length ≤ (itemsS d.w).length := r1
              omega
            have r6 : x.length ≤ 900000000 ∧ (itemS x).length ≤ 900000000 := by
              have e1 : (itemS x).length ≤ (itemsS d.w).length := r2
              have e3 := item_le x
              omega
            clear r1 r2
            obtain ⟨bx2, ox2, _, rfl, _⟩ := HSi.out.w.cel (by omega)
            have ad2 := add_at bx2 ox2
            obtain ⟨hbx2, V, hV, hr, Bx, mx, cx, rfl, hm1, hm2, hBs⟩ := HSi.out.w.nth hx
            have n3 : wr.cell? ⟨bx2, ox2 + p, none⟩ = some (.slice Bx mx cx) := by
              have := range_later hr hbx2 OR.out.bel 0 _ rfl
              rwa [Nat.mul_one, Nat.add_zero] at this
            have LN := OR.out.len
            simp only [List.length_append, List.length_cons, List.length_nil, low_len] at LN
            have hN4 : N4 ≤ 5000000000 := by omega
            have CI := Lib.hid (refItem_any (d := cx) wr (by have := hBs.bs.len; omega) (hBs.keep (Kept.of_below OR.out.bel)).bs)
            clear hx hxk hxm hr hV hBs hbx2 LN
            go_wp2_with fail
            refine CI.out.mono ?_
            rintro e x6 ⟨A6, n6, c6, rfl, hc6, p6⟩
            have O6 := Lib.hid (OR.out.later p6.bel)
            have P6 := Lib.hid p6.reads
            have hn6 : n6 ≤ 900000000 := by have := p6.len; omega
            clear p6 CI n3 OR
            go_wp2_with (at_builtin; refine wpList_appB rfl (.tmp 46) (.tmp 51) rfl rfl O6.out rfl P6.out (by omega) ?_)
            intro A7 N7 c7 x7 hc7 o7 g7
            have O7 := Lib.hid o7
            clear o7 g7 O6 P6
            go_wp2_with fail
            exact ⟨⟨p + 1, A7, N7, c7, by omega, by go_num, rfl, hc7, by
              rw [TX2.out]
              have := O7.out
              (try simp only [List.append_assoc, List.cons_append, List.nil_append] at this ⊢)
              exact this⟩, by simp [intOf]; omega⟩
          · have t2 : decide ((p : Int) < (nw : Int)) = false := decide_eq_false (by omega)
            obtain rfl : p = nw := by omega
            have TB2 := Lib.hid (show d.w.take p = d.w from List.take_of_length_le (by rw [NW.out]; exact Nat.le_refl _))
            rw [TB2.out] at OR
            go_wp2_with fail
            exact ⟨⟨m + 1, A4, N4, c4, by omega, by go_num, rfl, hc4, by
              rw [TK.out]
              have := OR.out
              unfold witS1
              rw [NW.out]
              (try simp only [List.append_assoc, List.cons_append, List.nil_append] at this ⊢)
              exact this⟩, by simp [intOf]; omega⟩
      · have t1 : decide ((m : Int) < (ni : Int)) = false := decide_eq_false (by omega)
        obtain rfl : m = ni := by omega
        have TA := Lib.hid (show t.ins.take m = t.ins from List.take_of_length_le (by rw [NI.out]; exact Nat.le_refl _))
        rw [TA.out] at OR
        have e2 := (HTX.out _ OR.out.bel).cell (k := 3) (v := .int .u32 (lk : Int)) rfl
        have LN := OR.out.len
        simp only [List.length_append, List.length_cons, List.length_nil, low_len] at LN
        have hN : N ≤ 3000000000 := by omega
        have CL := Lib.hid (refLow_any lk (by omega) 4 (by decide) wr)
        clear LN
        go_wp2_with fail
        refine CL.out.mono ?_
        rintro e w8 ⟨A8, n8, c8, rfl, hc8, p8⟩
        have O8 := Lib.hid (OR.out.later p8.bel)
        have P8 := Lib.hid p8.reads
        have hn8 : n8 ≤ 8 := by have := p8.len; rw [low_len] at this; omega
        clear p8 CL e1 e2 OR
        go_wp2_with (at_builtin; refine wpList_appB rfl (.tmp 53) (.tmp 57) rfl rfl O8.out rfl P8.out (by omega) ?_)
        intro A9 N9 c9 w9 hc9 o9 g9
        have O9 := Lib.hid (o9.weaken B0.out)
        clear o9 g9 O8 P8
        go_wp2_with fail
        go_ret
        refine ⟨A9, N9, c9, rfl, hc9, ?_⟩
        have fin := O9.out
        rw [← HV.out, ← HLK.out] at fin
        unfold putS
        rw [HS.out]
        (try simp only [List.append_assoc, List.cons_append, List.nil_append, if_true] at fin ⊢)
        exact fin
set_option maxRecDepth 100000 in
set_option maxHeartbeats 4000000 in
theorem refId_any {t : TxD} {Ai : Option Addr} {ni ci : Nat} {Ao : Option Addr} {no co : Nat} (w : World) (hw : weigh t ≤ 100000000) (hT : TxR w t Ai ni ci Ao no co) :
    Calls Tryd.prog 18 #[.agg (txV t.ver Ai ni ci Ao no co t.lock).toArray] w fun e w' => e = .returned (.agg (vals (idS t)).toArray) ∧ Below w.heap.size w w' := by
  have hl := (put_len hT.ok).2
  have z1 := (Below.refl w.heap.size w).alloc (Nat.le_refl _) (.cells (txV t.ver Ai ni ci Ao no co t.lock).toArray 26)
  have z2 := z1.alloc z1.size (.cells (vals (List.replicate 32 0)).toArray 32)
  have HX := Lib.hid ((Ro.new w 26 (txV t.ver Ai ni ci Ao no co t.lock)).alloc (.cells (vals (List.replicate 32 0)).toArray 32))
  have R1 := Ro.new (w.alloc (.cells (txV t.ver Ai ni ci Ao no co t.lock).toArray 26)) 32 (vals (List.replicate 32 0))
  rw [World.size_alloc] at R1
  have HR := Lib.hid R1
  have HB := Lib.hid z2
  have CB := Lib.hid (refBare_any ((w.alloc (.cells (txV t.ver Ai ni ci Ao no co t.lock).toArray 26)).alloc (.cells (vals (List.replicate 32 0)).toArray 32)) hw (hT.later z2))
  have lT := Lib.hid (txV_len t.ver Ai ni ci Ao no co t.lock)
  obtain ⟨I, hI⟩ : ∃ I, idS t = I := ⟨_, rfl⟩
  have I32 : Hid ((vals I).length = 32) := Lib.hid (by rw [← hI, vals_length]; exact shaS_len _)
  have CI : Hid (shaS (shaS (bareS t)) = I) := Lib.hid hI
  rw [hI]
  obtain ⟨M, hM⟩ : ∃ M, bareS t = M := ⟨_, rfl⟩
  rw [hM] at CI CB hl
  clear z1 z2 R1 hI hT hM
  go_enter Tryd.func18, Tryd.ntmps18
  go_wp2_with (refine wpList_load_ro rfl (.tmp 1) rfl rfl rowTx HX.out lT.out ?_)
  refine CB.out.mono ?_
  rintro e w2 ⟨A, n, c, rfl, hc, O⟩
  have B2 := Lib.hid (HB.out.trans (O.bel.mono HB.out.size))
  have R2 := Lib.hid (HR.out.later O.bel)
  have LN := O.len
  have CT := refTwice_m (c := c) (by omega) w2 O.reads
  rw [CI.out] at CT
  have HCT := Lib.hid CT
  clear O CT CB HR HB HX LN
  go_wp2_with fail
  refine HCT.out.mono ?_
  rintro e w3 ⟨rfl, hb⟩
  have B3 := Lib.hid (B2.out.trans (hb.mono B2.out.size))
  have R3 := Lib.hid (R2.out.later hb)
  clear hb B2 R2 HCT
  go_wp2_with (refine wpList_store_ro rfl (.tmp 2) (.tmp 5) rfl rfl rfl row26 R3.out rfl I32.out (vals_one _) ?_)
  intro w6 R6 g6
  go_wp2_with fail
  exact bodyPost_ret (results_ro Tryd.results18 _ rfl row26 R6 I32.out) rfl ⟨rfl, B3.out.grown g6 B3.out.size (fun q e => by injection e; omega)⟩
end Go.Proofs.YtbdjcbdnhaddoaaDoor
