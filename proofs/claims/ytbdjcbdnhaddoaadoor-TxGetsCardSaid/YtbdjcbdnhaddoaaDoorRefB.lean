/- A transaction's bytes, as the reference says them. No condition but a bound on its weight. -/
import Derived.Test.YtbdjcbdnhaddoaaDoorPutW
namespace Go.Proofs.YtbdjcbdnhaddoaaDoor
open Go.RowKit

set_option maxRecDepth 100000 in
set_option maxHeartbeats 8000000 in
theorem refInput_any {i : InD} {As : Option Addr} {ns cs : Nat} {Aw : Option Addr} {nw cw : Nat} (w : World) (hs : i.s.length ≤ 900000000) (hI : InS w anyP i As ns cs Aw nw cw) :
    Calls Tryd.prog 54 #[.agg (inV i.h i.n As ns cs i.q Aw nw cw).toArray] w (GivesB w (inS i)) := by
  have b0 := (Below.refl w.heap.size w).alloc (Nat.le_refl _) (.cells (inV i.h i.n As ns cs i.q Aw nw cw).toArray 56)
  have r0 := Ro.new w 56 (inV i.h i.n As ns cs i.q Aw nw cw)
  have ok := Lib.hid hI.ok
  have lns := hI.s.bs.len
  have HI := Lib.hid (hI.keep (Kept.of_below b0))
  obtain ⟨wb, hwb⟩ : ∃ wb, w.alloc (.cells (inV i.h i.n As ns cs i.q Aw nw cw).toArray 56) = wb := ⟨_, rfl⟩
  rw [hwb] at b0 r0 HI
  obtain ⟨q, hq⟩ : ∃ q, w.heap.size = q := ⟨_, rfl⟩
  rw [hq] at r0
  have B0 := Lib.hid b0
  have RB : Hid (∀ u, Below wb.heap.size wb u → Ro u q 56 (inV i.h i.n As ns cs i.q Aw nw cw)) := Lib.hid (fun u g => r0.later g)
  have bl := (Below.refl wb.heap.size wb).alloc (Nat.le_refl _) (.cells #[] 5)
  have OM := Lib.hid (Own.made (Below.refl wb.heap.size wb) #[] 0 (by decide) rfl)
  have BH : Hid (Bs (wb.alloc (.cells #[] 5)) (some ⟨q, 0, none⟩) 32 i.h) := Lib.hid (Side.hash (v := .slice none 0 0) ⟨RB.out _ bl, by intro h; cases h⟩ ok.out.h ok.out.hb)
  have nb := ok.out.n
  have qb := ok.out.q
  clear hI b0 r0 bl
  go_enter Tryd.func54, Tryd.ntmps54
  go_wp2_with (at_builtin; refine wpList_appB rfl (.tmp 4) (.tmp 7) rfl rfl OM.out rfl BH.out (by decide) ?_)
  intro A1 N1 c1 w1 hc1 o1 g1
  have O1 := Lib.hid o1
  have LN := o1.len
  have hN1 : N1 ≤ 100 := by have := ok.out.h; (try simp only [List.nil_append] at LN); omega
  clear o1 g1 OM BH LN hwb hq
  obtain ⟨xn, hxn⟩ : ∃ x, i.n = x := ⟨_, rfl⟩
  have n1 := (RB.out _ O1.out.bel).cell (inV_at i.h ok.out.h i.n As ns cs i.q Aw nw cw).1
  rw [hxn] at n1 nb
  have HXN := Lib.hid hxn
  have CL := Lib.hid (refLow_any xn (by omega) 4 (by decide) w1)
  clear hxn
  go_wp2_with fail
  refine CL.out.mono ?_
  rintro e w2 ⟨A2, n2, c2, rfl, hc2, p2⟩
  have O2 := Lib.hid (O1.out.later p2.bel)
  have P2 := Lib.hid p2.reads
  have hn2 : n2 ≤ 8 := by have := p2.len; rw [low_len] at this; omega
  clear p2 CL n1 O1
  go_wp2_with (at_builtin; refine wpList_appB rfl (.tmp 9) (.tmp 14) rfl rfl O2.out rfl P2.out (by omega) ?_)
  intro A3 N3 c3 w3 hc3 o3 g3
  have O3 := Lib.hid o3
  have hN3 : N3 ≤ 200 := by have := o3.len; have := ok.out.h; simp only [List.length_append, List.length_nil, low_len] at *; omega
  clear o3 g3 O2 P2
  have n1 := (RB.out _ O3.out.bel).cell (inV_at i.h ok.out.h i.n As ns cs i.q Aw nw cw).2.1
  have CI := Lib.hid (refItem_any (d := cs) w3 (by omega) (HI.out.s.keep (Kept.of_below O3.out.bel)).bs)
  go_wp2_with fail
  refine CI.out.mono ?_
  rintro e w4 ⟨A4, n4, c4, rfl, hc4, p4⟩
  have O4 := Lib.hid (O3.out.later p4.bel)
  have P4 := Lib.hid p4.reads
  have hn4 : n4 ≤ 900000100 := by have := p4.len; have := itemS_len i.s; omega
  clear p4 CI n1 O3
  go_wp2_with (at_builtin; refine wpList_appB rfl (.tmp 16) (.tmp 19) rfl rfl O4.out rfl P4.out (by omega) ?_)
  intro A5 N5 c5 w5 hc5 o5 g5
  have O5 := Lib.hid o5
  have hN5 : N5 ≤ 900000500 := by have := o5.len; have := ok.out.h; have := itemS_len i.s; simp only [List.length_append, List.length_nil, low_len] at *; omega
  clear o5 g5 O4 P4
  obtain ⟨xq, hxq⟩ : ∃ x, i.q = x := ⟨_, rfl⟩
  have n1 := (RB.out _ O5.out.bel).cell (inV_at i.h ok.out.h i.n As ns cs i.q Aw nw cw).2.2.1
  rw [hxq] at n1 qb
  have HXQ := Lib.hid hxq
  have CL := Lib.hid (refLow_any xq (by omega) 4 (by decide) w5)
  clear hxq
  go_wp2_with fail
  refine CL.out.mono ?_
  rintro e w6 ⟨A6, n6, c6, rfl, hc6, p6⟩
  have O6 := Lib.hid (O5.out.later p6.bel)
  have P6 := Lib.hid p6.reads
  have hn6 : n6 ≤ 8 := by have := p6.len; rw [low_len] at this; omega
  clear p6 CL n1 O5
  go_wp2_with (at_builtin; refine wpList_appB rfl (.tmp 21) (.tmp 25) rfl rfl O6.out rfl P6.out (by omega) ?_)
  intro A7 N7 c7 w7 hc7 o7 g7
  have O7 := Lib.hid (o7.weaken B0.out)
  clear o7 g7 O6 P6
  go_wp2_with fail
  go_ret
  refine ⟨A7, N7, c7, rfl, hc7, ?_⟩
  have fin := O7.out
  rw [← HXN.out, ← HXQ.out] at fin
  unfold inS
  try simp only [List.append_assoc, List.nil_append] at fin ⊢
  exact fin
set_option maxRecDepth 100000 in
set_option maxHeartbeats 16000000 in
theorem refBody_any {t : TxD} {Ai : Option Addr} {ni ci : Nat} {Ao : Option Addr} {no co : Nat} (w : World) (hw : weigh t ≤ 100000000) (hT : TxR w t Ai ni ci Ao no co) :
    Calls Tryd.prog 33 #[.agg (txV t.ver Ai ni ci Ao no co t.lock).toArray] w (GivesB w (bodyS t)) := by
  have HT0 := Lib.hid hT
  have NI := Lib.hid hT.ins.len
  have NO := Lib.hid hT.outs.len
  have okT := Lib.hid hT.ok
  have PT := parts_of hT.ok
  have p1 : (insS t.ins).length ≤ 900000000 := by have := PT.ins; omega
  have p2 : (outsS t.outs).length ≤ 900000000 := by have := PT.outs; omega
  have p3 : (witS t.ins).length ≤ 900000000 := by have := PT.wit; omega
  have hni := hT.i2
  have hno := hT.o2
  have b0 := (Below.refl w.heap.size w).alloc (Nat.le_refl _) (.cells (txV t.ver Ai ni ci Ao no co t.lock).toArray 26)
  have r0 := Ro.new w 26 (txV t.ver Ai ni ci Ao no co t.lock)
  have HT := Lib.hid (HT0.out.later b0)
  obtain ⟨wb, hwb⟩ : ∃ wb, w.alloc (.cells (txV t.ver Ai ni ci Ao no co t.lock).toArray 26) = wb := ⟨_, rfl⟩
  rw [hwb] at b0 r0 HT
  obtain ⟨bx, hbx⟩ : ∃ q, w.heap.size = q := ⟨_, rfl⟩
  rw [hbx] at r0
  have B0 := Lib.hid b0
  have HTX : Hid (∀ u, Below wb.heap.size wb u → Ro u bx 26 (txV t.ver Ai ni ci Ao no co t.lock)) := Lib.hid (fun u g => r0.later g)
  have e1 := (HTX.out wb (Below.refl _ _)).cell (k := 1) (v := .slice Ai ni ci) rfl
  have CC := Lib.hid (refCount_any ni (by omega) wb)
  clear hT PT b0 r0
  go_enter Tryd.func33, Tryd.ntmps33
  go_wp2_with fail
  clear hwb hbx
  refine CC.out.mono ?_
  rintro e w1 ⟨A1, N1, c1, rfl, hc1, o1⟩
  have O1 := Lib.hid o1
  have k1 := countS_len ni
  clear o1 CC e1
  go_wp2_with fail
  go_loopw [3, 4] (fun v0 i wr => ∃ (k : Nat) (A : Option Addr) (N c : Nat), k ≤ ni ∧ i = .int .i64 (k : Nat) ∧ v0 = .slice A N c ∧ N ≤ c ∧ Own wb (.slice A N c) N (countS ni ++ insS (t.ins.take k)) wr) (fun _ i _ => ni - (intOf i).toNat)
  case atStart => exact ⟨0, A1, N1, c1, Nat.zero_le _, rfl, rfl, hc1, by rw [show insS (t.ins.take 0) = [] from rfl, List.append_nil]; exact O1.out⟩
  case round =>
    clear O1
    obtain ⟨k, A, N, c, hk, rfl, rfl, hc, oR⟩ := hrel
    have OR := Lib.hid oR
    have e1 := (HTX.out _ oR.bel).cell (k := 1) (v := .slice Ai ni ci) rfl
    clear oR
    by_cases hlt : k < ni
    · have t1 : decide ((k : Int) < (ni : Int)) = true := decide_eq_true (by omega)
      obtain ⟨i, hi, htk, him⟩ := getL NI.out hlt
      have TK := Lib.hid (insS_take htk)
      have okI := Lib.hid (okT.out.ins i him)
      have q1 := flat_take inS t.ins k
      have q2 := flat_mem inS him
      have q3 := inS_len okI.out
      have q4 := item_le i.s
      have q5 : (insS (t.ins.take k)).length ≤ 900000000 := by
        have e1 : (insS (t.ins.take k)).length ≤ (insS t.ins).length := q1
        omega
      have q6 : i.s.length ≤ 900000000 ∧ (inS i).length ≤ 900000000 := by
        have e1 : (inS i).length ≤ (insS t.ins).length := q2
        omega
      clear q1 q2 q3 q4
      obtain ⟨bi, oi, _, rfl, _⟩ := HT.out.ins.cel (by omega)
      have ad := add_at bi oi
      obtain ⟨hbi, V, hV, hr, As, ns, cs, Aw, nw, cw, rfl, hI⟩ := HT.out.ins.nth hi
      have HRg := Lib.hid (range_later hr hbi OR.out.bel)
      have HVl := Lib.hid hV
      have LN := OR.out.len
      simp only [List.length_append] at LN
      have hN : N ≤ 900000100 := by omega
      have CI := Lib.hid (refInput_any wr q6.1 (hI.keep (Kept.of_below OR.out.bel)))
      clear hi htk him hr hV hI hbi LN
      go_wp2_with (refine wpList_load_part rfl (.tmp 21) rfl rfl rowIn HRg.out HVl.out ?_)
      refine CI.out.mono ?_
      rintro e w2 ⟨A2, n2, c2, rfl, hc2, p2'⟩
      have O2 := Lib.hid (OR.out.later p2'.bel)
      have P2 := Lib.hid p2'.reads
      have hn2 : n2 ≤ 900000000 := by have := p2'.len; omega
      clear p2' CI e1 OR HRg
      go_wp2_with (at_builtin; refine wpList_appB rfl (.tmp 17) (.tmp 23) rfl rfl O2.out rfl P2.out (by omega) ?_)
      intro A3 N3 c3 w3 hc3 o3 g3
      have O3 := Lib.hid o3
      clear o3 g3 O2 P2
      go_wp2_with fail
      exact ⟨⟨k + 1, A3, N3, c3, by omega, by go_num, rfl, hc3, by
        rw [TK.out]
        have := O3.out
        try simp only [List.append_assoc] at this ⊢
        exact this⟩, by simp [intOf]; omega⟩
    · have t1 : decide ((k : Int) < (ni : Int)) = false := decide_eq_false (by omega)
      obtain rfl : k = ni := by omega
      have TA := Lib.hid (show t.ins.take k = t.ins from List.take_of_length_le (by rw [NI.out]; exact Nat.le_refl _))
      rw [TA.out] at OR
      have e2 := (HTX.out _ OR.out.bel).cell (k := 2) (v := .slice Ao no co) rfl
      have CC := Lib.hid (refCount_any no (by omega) wr)
      have LN := OR.out.len
      simp only [List.length_append] at LN
      have hN : N ≤ 900000100 := by omega
      clear LN
      go_wp2_with fail
      refine CC.out.mono ?_
      rintro e y1 ⟨A2, n2, c2, rfl, hc2, p2'⟩
      have O2 := Lib.hid (OR.out.later p2'.bel)
      have P2 := Lib.hid p2'.reads
      have k2 := countS_len no
      have hn2 : n2 ≤ 9 := by have := p2'.len; omega
      clear p2' CC e1 e2 OR
      go_wp2_with (at_builtin; refine wpList_appB rfl (.tmp 25) (.tmp 29) rfl rfl O2.out rfl P2.out (by omega) ?_)
      intro A3 N3 c3 w3 hc3 o3 g3
      have O3 := Lib.hid o3
      clear o3 g3 O2 P2
      go_wp2_with fail
      clear t1 hk hlt hc hN
      go_loopw [3, 5] (fun v0 i wr => ∃ (j : Nat) (A : Option Addr) (N c : Nat), j ≤ no ∧ i = .int .i64 (j : Nat) ∧ v0 = .slice A N c ∧ N ≤ c ∧ Own wb (.slice A N c) N ((countS k ++ insS t.ins ++ countS no) ++ outsS (t.outs.take j)) wr) (fun _ i _ => no - (intOf i).toNat)
      case atStart => exact ⟨0, A3, N3, c3, Nat.zero_le _, rfl, rfl, hc3, by rw [show outsS (t.outs.take 0) = [] from rfl, List.append_nil]; have := O3.out; simp only [List.append_assoc] at this ⊢; exact this⟩
      case round =>
        clear O3
        obtain ⟨j, A, N, c, hj, rfl, rfl, hc, oR⟩ := hrel
        have OR := Lib.hid oR
        have e1 := (HTX.out _ oR.bel).cell (k := 2) (v := .slice Ao no co) rfl
        clear oR
        by_cases hlt : j < no
        · have t1 : decide ((j : Int) < (no : Int)) = true := decide_eq_true (by omega)
          obtain ⟨d, hi, htk, him⟩ := getL NO.out hlt
          have TK := Lib.hid (outsS_take htk)
          have okD := Lib.hid (okT.out.outs d him)
          have q1 := flat_take outS t.outs j
          have q2 := flat_mem outS him
          have q5 : (outsS (t.outs.take j)).length ≤ 900000000 := by
            have e1 : (outsS (t.outs.take j)).length ≤ (outsS t.outs).length := q1
            omega
          have q6 : d.s.length ≤ 900000000 ∧ (itemS d.s).length ≤ 900000000 := by
            have e1 : (outS d).length ≤ (outsS t.outs).length := q2
            have e2 : (outS d).length = 8 + (itemS d.s).length := by unfold outS; rw [List.length_append, low_len]
            have e3 := item_le d.s
            omega
          clear q1 q2
          obtain ⟨bo, oo, _, rfl, _⟩ := HT.out.outs.cel (by omega)
          have ad := add_at bo oo
          obtain ⟨hbo, V, hV, hr, As, ns, cs, rfl, hI⟩ := HT.out.outs.nth hi
          have HRr : Hid (∀ u, Below wb.heap.size wb u → u.rangeAt bo (oo + j * 2) (outV d.v As ns cs)) := Lib.hid (fun u g => range_later hr hbo g)
          have HSi := Lib.hid hI
          have LN := OR.out.len
          simp only [List.length_append] at LN
          have hN : N ≤ 1800000200 := by omega
          have vbd := okD.out.v
          obtain ⟨xv, hxv⟩ : ∃ x, d.v = x := ⟨_, rfl⟩
          have n1 := HRr.out _ OR.out.bel 0 _ rfl
          rw [hxv] at n1 vbd
          rw [Nat.add_zero] at n1
          have HXV := Lib.hid hxv
          have CL := Lib.hid (refLow_any xv vbd 8 (by decide) wr)
          clear hi htk him hr hV hI hbo LN hxv
          go_wp2_with fail
          refine CL.out.mono ?_
          rintro e x2 ⟨A2, n2, c2, rfl, hc2, p2'⟩
          have O2 := Lib.hid (OR.out.later p2'.bel)
          have P2 := Lib.hid p2'.reads
          have hn2 : n2 ≤ 8 := by have := p2'.len; rw [low_len] at this; omega
          clear p2' CL n1 e1 OR
          go_wp2_with (at_builtin; refine wpList_appB rfl (.tmp 38) (.tmp 45) rfl rfl O2.out rfl P2.out (by omega) ?_)
          intro A3 N3 c3 x3 hc3 o3 g3
          have O3 := Lib.hid o3
          have hN3 : N3 ≤ 1800000300 := by have := o3.len; simp only [List.length_append, low_len] at this; omega
          clear o3 g3 O2 P2
          have e1 := (HTX.out _ O3.out.bel).cell (k := 2) (v := .slice (some ⟨bo, oo, none⟩) no co) rfl
          have n1 := HRr.out _ O3.out.bel 1 _ rfl
          have CI := Lib.hid (refItem_any (d := cs) x3 (by have := HSi.out.s.bs.len; omega) (HSi.out.s.keep (Kept.of_below O3.out.bel)).bs)
          go_wp2_with fail
          refine CI.out.mono ?_
          rintro e x4 ⟨A4, n4, c4, rfl, hc4, p4⟩
          have O4 := Lib.hid (O3.out.later p4.bel)
          have P4 := Lib.hid p4.reads
          have hn4 : n4 ≤ 900000000 := by have := p4.len; omega
          clear p4 CI n1 e1 O3
          go_wp2_with (at_builtin; refine wpList_appB rfl (.tmp 47) (.tmp 54) rfl rfl O4.out rfl P4.out (by omega) ?_)
          intro A5 N5 c5 x5 hc5 o5 g5
          have O5 := Lib.hid o5
          clear o5 g5 O4 P4
          go_wp2_with fail
          exact ⟨⟨j + 1, A5, N5, c5, by omega, by go_num, rfl, hc5, by
            rw [TK.out]
            have := O5.out
            rw [← HXV.out] at this
            unfold outS
            try simp only [List.append_assoc] at this ⊢
            exact this⟩, by simp [intOf]; omega⟩
        · have t1 : decide ((j : Int) < (no : Int)) = false := decide_eq_false (by omega)
          obtain rfl : j = no := by omega
          have TB := Lib.hid (show t.outs.take j = t.outs from List.take_of_length_le (by rw [NO.out]; exact Nat.le_refl _))
          rw [TB.out] at OR
          have U9 := Lib.hid (OR.out.weaken B0.out)
          go_wp2_with fail
          go_ret
          refine ⟨A, N, c, rfl, hc, ?_⟩
          have fin := U9.out
          rw [← NI.out, ← NO.out] at fin
          unfold bodyS
          try simp only [List.append_assoc] at fin ⊢
          exact fin
end Go.Proofs.YtbdjcbdnhaddoaaDoor
