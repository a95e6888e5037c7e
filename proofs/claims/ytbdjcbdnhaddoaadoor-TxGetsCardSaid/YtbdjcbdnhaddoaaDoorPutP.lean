/- The bytes of a transaction, as the program puts them. No condition but a bound on its weight. -/
import Derived.Test.YtbdjcbdnhaddoaaDoorGt
namespace Go.Proofs.YtbdjcbdnhaddoaaDoor
open Go.RowKit

set_option maxRecDepth 100000 in
set_option maxHeartbeats 16000000 in
theorem put_any {t : TxD} {Ai : Option Addr} {ni ci : Nat} {Ao : Option Addr} {no co : Nat} (b : Bool) (w : World) (hw : weigh t ≤ 100000000) (hT : TxR w t Ai ni ci Ao no co) :
    Calls Tryd.prog 29 #[.agg (txV t.ver Ai ni ci Ao no co t.lock).toArray, .bool b] w (GivesB w (putB t b)) := by
  have HT0 := Lib.hid hT
  have NI := Lib.hid hT.ins.len
  have NO := Lib.hid hT.outs.len
  have okT := Lib.hid hT.ok
  have PT := parts_of hT.ok
  have p1 : (insS t.ins).length ≤ 900000000 := by have := PT.ins; omega
  have p2 : (outsS t.outs).length ≤ 900000000 := by have := PT.outs; omega
  have p3 : (witS t.ins).length ≤ 900000000 := by have := PT.wit; omega
  have hni := hT.i2
  have hno := hT.o2
  have vb := hT.ver
  have lb := hT.lock
  have B0 := Lib.hid ((Below.refl w.heap.size w).alloc (Nat.le_refl _) (.cells (txV t.ver Ai ni ci Ao no co t.lock).toArray 26))
  have X0 := Lib.hid (Ro.new w 26 (txV t.ver Ai ni ci Ao no co t.lock))
  obtain ⟨wb, hwb⟩ : ∃ wb, w.alloc (.cells (txV t.ver Ai ni ci Ao no co t.lock).toArray 26) = wb := ⟨_, rfl⟩
  have HT := Lib.hid (HT0.out.later B0.out)
  have TX := Lib.hid X0.out
  rw [hwb] at B0 HT TX
  have SB : Hid (wb.heap.size = w.heap.size + 1) := Lib.hid (by rw [← hwb, World.size_alloc])
  obtain ⟨v, hv⟩ : ∃ v, t.ver = v := ⟨_, rfl⟩
  obtain ⟨lk, hlk⟩ : ∃ v, t.lock = v := ⟨_, rfl⟩
  rw [hv] at vb TX hwb
  rw [hlk] at lb TX hwb
  rw [hv, hlk]
  have HV := Lib.hid hv
  have HLK := Lib.hid hlk
  have O0 := Lib.hid (show Own wb (.slice none 0 0) 0 [] wb from ⟨World.ownsRow_nil _ _ _ _, allB_nil, Below.refl _ _⟩)
  have C0 := Lib.hid (putNumber_any v (by omega) 4 (by decide) (by simp) O0.out)
  have TXc : ∀ w1, Below wb.heap.size wb w1 → Ro w1 w.heap.size 26 (txV v Ai ni ci Ao no co lk) := fun w1 g => TX.out.later g
  have HTX := Lib.hid TXc
  have c0 := (HTX.out wb (Below.refl _ _)).cell (k := 0) (v := .int .u32 (v : Int)) rfl
  obtain ⟨bx, hbx⟩ : ∃ b, w.heap.size = b := ⟨_, rfl⟩
  rw [hbx] at HTX c0
  have HBX := Lib.hid hbx
  clear hT PT X0 TX TXc hv hlk O0
  go_enter Tryd.func29, Tryd.ntmps29
  go_wp2_with fail
  refine C0.out.mono ?_
  rintro e w1 ⟨A2, N3, c4, rfl, hc4, oO5, gO5⟩
  have O5 := Lib.hid oO5
  have GO5 := Lib.hid gO5
  clear oO5 gO5 C0
  clear c0 hwb hbx
  cases b with
  | false =>
    have ct6 := (HTX.out _ O5.out.bel).cell (k := 1) (v := .slice Ai ni ci) rfl
    have C7 := Lib.hid (putCount_any ni (by omega) (by simp [low_len]) O5.out)
    go_wp2_with fail
    refine C7.out.mono ?_
    rintro e w8 ⟨A9, N10, c11, rfl, hc11, oO12, gO12⟩
    have O12 := Lib.hid oO12
    have GO12 := Lib.hid gO12
    clear oO12 gO12 C7
    clear ct6
    have K1 := Lib.hid (countS_len ni)
    have ct13 := (HTX.out _ O12.out.bel).cell (k := 1) (v := .slice Ai ni ci) rfl
    go_wp2_with fail
    clear ct13
    go_loopw [5, 30] (fun v0 i wr => ∃ (k : Nat) (A : Option Addr) (N c : Nat), k ≤ ni ∧ i = .int .i64 (k : Nat) ∧ v0 = .slice A N c ∧ N ≤ c ∧ Own wb (.slice A N c) N ((([] ++ low 4 v) ++ countS ni) ++ insS (t.ins.take k)) wr) (fun _ i _ => ni - (intOf i).toNat)
    case atStart => exact ⟨0, A9, N10, c11, Nat.zero_le _, rfl, rfl, hc11, by rw [show insS (t.ins.take 0) = [] from rfl, List.append_nil]; exact O12.out⟩
    case round =>
      clear O12
      obtain ⟨k, A, N, c, hk, rfl, rfl, hc, oR⟩ := hrel
      have OR := Lib.hid oR
      clear oR
      by_cases hlt : k < ni
      · have t1 : decide ((k : Int) < (ni : Int)) = true := decide_eq_true (by omega)
        obtain ⟨i, hi, htk, him⟩ := getL NI.out hlt
        have HI := Lib.hid hi
        have TK := Lib.hid (insS_take htk)
        have okI := Lib.hid (okT.out.ins i him)
        have q1 := flat_take inS t.ins k
        have q2 := flat_mem inS him
        have q3 := inS_len okI.out
        have q4 := item_le i.s
        have q5 : (insS (t.ins.take k)).length ≤ 900000000 := by
          have e1 : (insS (t.ins.take k)).length ≤ (insS t.ins).length := q1
          omega
        have k1 := K1.out
        have q6 : i.s.length ≤ 900000000 := by
          have e1 : (inS i).length ≤ (insS t.ins).length := q2
          omega
        have q7 := itemS_len i.s
        clear q1 q2 q3 q4
        obtain ⟨bi, oi, _, rfl, _⟩ := HT.out.ins.cel (by omega)
        have ad := add_at bi oi
        obtain ⟨hbi, V, hV, hr, As, ns, cs, Aw, nw, cw, rfl, hI⟩ := HT.out.ins.nth hi
        have HRg := Lib.hid (range_later hr hbi OR.out.bel)
        have HVl := Lib.hid hV
        have HSi := Lib.hid hI
        have z0 := zeroIn
        clear hi htk him hr hV hI hbi
        go_wp2_with (first | (refine wpList_load_part rfl (.tmp 32) rfl rfl rowIn HRg.out HVl.out ?_) | (refine wpList_store_ro rfl (.tmp 7) (.tmp 33) rfl rfl rfl rowIn (Ro.new wr 56 zIn) zIn_len HVl.out (inV_one _ _ _ _ _ _ _ _ _) ?_))
        intro x1 R1 g1
        have b1 := box_store g1
        have S1 := Lib.hid (side_new OR.out R1)
        have O1 := Lib.hid (OR.out.later b1)
        obtain ⟨q, hq⟩ : ∃ q, wr.heap.size = q := ⟨_, rfl⟩
        rw [hq] at S1 ⊢
        clear R1 g1 b1 OR HRg z0 hq
        have BH := Lib.hid (S1.out.hash okI.out.h okI.out.hb)
        have LN := O1.out.len
        simp only [List.length_append, List.length_nil, List.length_cons, low_len] at LN
        have hN : N ≤ 900001000 := by omega
        clear LN
        go_wp2_with (at_builtin; refine wpList_appB rfl (.tmp 34) (.tmp 37) rfl rfl O1.out rfl BH.out (by omega) ?_)
        intro A2 N2 c2 x2 hc2 o2 g2
        have O2 := Lib.hid o2
        have S2 := Lib.hid (S1.out.grew g2)
        clear o2 g2 O1 S1 BH hN
        have n1 := S2.out.ro.cell (inV_at i.h okI.out.h i.n As ns cs i.q Aw nw cw).1
        have nb := okI.out.n
        obtain ⟨xn, hxn⟩ : ∃ x, i.n = x := ⟨_, rfl⟩
        rw [hxn] at n1 nb
        have HXN := Lib.hid hxn
        have CN := Lib.hid (putNumber_any xn (by omega) 4 (by decide) (by simp only [List.length_append, List.length_nil, List.length_cons, low_len, okI.out.h]; omega) O2.out)
        clear hxn
        go_wp2_with fail
        refine CN.out.mono ?_
        rintro e x3 ⟨A3, N3, c3, rfl, hc3, o3, g3⟩
        have O3 := Lib.hid o3
        have S3 := Lib.hid (S2.out.grew g3)
        clear o3 g3 O2 S2 CN n1
        have n2 := S3.out.ro.cell (inV_at i.h okI.out.h i.n As ns cs i.q Aw nw cw).2.1
        have CI := Lib.hid (putItem_any (d := cs) (Nat.le_trans HSi.out.s2 (by decide)) (by simp only [List.length_append, List.length_nil, List.length_cons, low_len, okI.out.h]; omega) (by omega) O3.out (HSi.out.s.keep (Kept.of_below O3.out.bel)).bs (fun a ea hp => O3.out.old (bs_lt HSi.out.s.bs hp ea)))
        go_wp2_with fail
        refine CI.out.mono ?_
        rintro e x4 ⟨A4, N4, c4, rfl, hc4, o4, g4⟩
        have O4 := Lib.hid o4
        have S4 := Lib.hid (S3.out.grew g4)
        clear o4 g4 O3 S3 CI n2
        have n3 := S4.out.ro.cell (inV_at i.h okI.out.h i.n As ns cs i.q Aw nw cw).2.2.1
        have qb := okI.out.q
        obtain ⟨xq, hxq⟩ : ∃ x, i.q = x := ⟨_, rfl⟩
        rw [hxq] at n3 qb
        have HXQ := Lib.hid hxq
        have CN := Lib.hid (putNumber_any xq (by omega) 4 (by decide) (by simp only [List.length_append, List.length_nil, List.length_cons, low_len, okI.out.h]; have := q7; omega) O4.out)
        clear hxq
        go_wp2_with fail
        refine CN.out.mono ?_
        rintro e x5 ⟨A5, N5, c5, rfl, hc5, o5, g5⟩
        have O5 := Lib.hid o5
        clear o5 g5 O4 S4 CN n3
        go_wp2_with fail
        exact ⟨⟨k + 1, A5, N5, c5, by omega, by go_num, rfl, hc5, by
          rw [TK.out]
          have := O5.out
          rw [← HXN.out, ← HXQ.out] at this
          unfold inS
          simp only [List.append_assoc, List.nil_append, List.cons_append] at this ⊢
          exact this⟩, by simp [intOf]; omega⟩
      · have t1 : decide ((k : Int) < (ni : Int)) = false := decide_eq_false (by omega)
        obtain rfl : k = ni := by omega
        have TA := Lib.hid (show t.ins.take k = t.ins from List.take_of_length_le (by rw [NI.out]; exact Nat.le_refl _))
        rw [TA.out] at OR
        have k1 := K1.out
        have e1 := (HTX.out _ OR.out.bel).cell (k := 2) (v := .slice Ao no co) rfl
        have CC := Lib.hid (putCount_any no (by omega) (by simp only [List.length_append, List.length_nil, List.length_cons, low_len]; omega) OR.out)
        go_wp2_with fail
        refine CC.out.mono ?_
        rintro e y1 ⟨D1, M1, d1, rfl, hd1, u1, _⟩
        have U1 := Lib.hid u1
        have K2 := Lib.hid (countS_len no)
        clear u1 CC e1 OR
        have e1 := (HTX.out _ U1.out.bel).cell (k := 2) (v := .slice Ao no co) rfl
        go_wp2_with fail
        clear e1 t1 hk hlt hc
        go_loopw [5, 63] (fun v0 i wr => ∃ (j : Nat) (A : Option Addr) (N c : Nat), j ≤ no ∧ i = .int .i64 (j : Nat) ∧ v0 = .slice A N c ∧ N ≤ c ∧ Own wb (.slice A N c) N (((([] ++ low 4 v) ++ countS k) ++ insS t.ins ++ countS no) ++ outsS (t.outs.take j)) wr) (fun _ i _ => no - (intOf i).toNat)
        case atStart => exact ⟨0, D1, M1, d1, Nat.zero_le _, rfl, rfl, hd1, by rw [show outsS (t.outs.take 0) = [] from rfl, List.append_nil]; have := U1.out; simp only [List.append_assoc, List.nil_append, List.cons_append] at this ⊢; exact this⟩
        case round =>
          clear U1
          obtain ⟨j, A, N, c, hj, rfl, rfl, hc, oR⟩ := hrel
          have OR := Lib.hid oR
          have k2 := K2.out
          clear oR
          by_cases hlt : j < no
          · have t1 : decide ((j : Int) < (no : Int)) = true := decide_eq_true (by omega)
            obtain ⟨d, hi, htk, him⟩ := getL NO.out hlt
            have TK := Lib.hid (outsS_take htk)
            have okD := Lib.hid (okT.out.outs d him)
            have q1 := flat_take outS t.outs j
            have q2 := flat_mem outS him
            have q5 : (outsS (t.outs.take j)).length ≤ 900000000 := by
              have e1 : (outsS (t.outs.take j)).length ≤ (outsS t.outs).length := q1
              omega
            have q6 : d.s.length ≤ 900000000 := by
              have e1 : (outS d).length ≤ (outsS t.outs).length := q2
              have e2 : (outS d).length = 8 + (itemS d.s).length := by unfold outS; rw [List.length_append, low_len]
              have e3 := item_le d.s
              omega
            clear q1 q2
            obtain ⟨bo, oo, _, rfl, _⟩ := HT.out.outs.cel (by omega)
            have ad := add_at bo oo
            obtain ⟨hbo, V, hV, hr, As, ns, cs, rfl, hI⟩ := HT.out.outs.nth hi
            have HRg := Lib.hid (range_later hr hbo OR.out.bel)
            have HVl := Lib.hid hV
            have HSi := Lib.hid hI
            have z0 := zeroOut
            clear hi htk him hr hV hI hbo
            go_wp2_with (first | (refine wpList_load_part rfl (.tmp 65) rfl rfl rowOut HRg.out HVl.out ?_) | (refine wpList_store_ro rfl (.tmp 9) (.tmp 66) rfl rfl rfl rowOut (Ro.new wr 46 zOut) rfl HVl.out (outV_one _ _ _ _) ?_))
            intro x1 R1 g1
            have b1 := box_store g1
            have S1 := Lib.hid (side_new OR.out R1)
            have O1 := Lib.hid (OR.out.later b1)
            obtain ⟨q, hq⟩ : ∃ q, wr.heap.size = q := ⟨_, rfl⟩
            rw [hq] at S1 ⊢
            clear R1 g1 b1 OR HRg z0 hq
            have n1 := S1.out.ro.cell (k := 0) (v := .int .u64 (d.v : Int)) rfl
            have vbd := okD.out.v
            obtain ⟨xv, hxv⟩ : ∃ x, d.v = x := ⟨_, rfl⟩
            rw [hxv] at n1 vbd
            have HXV := Lib.hid hxv
            have CN := Lib.hid (putNumber_any xv vbd 8 (by decide) (by simp only [List.length_append, List.length_nil, List.length_cons, low_len]; omega) O1.out)
            clear hxv
            go_wp2_with fail
            refine CN.out.mono ?_
            rintro e x3 ⟨A3, N3, c3, rfl, hc3, o3, g3⟩
            have O3 := Lib.hid o3
            have S3 := Lib.hid (S1.out.grew g3)
            clear o3 g3 O1 S1 CN n1
            have n2 := S3.out.ro.cell (k := 1) (v := .slice As ns cs) rfl
            have CI := Lib.hid (putItem_any (d := cs) (Nat.le_trans HSi.out.s2 (by decide)) (by simp only [List.length_append, List.length_nil, List.length_cons, low_len]; omega) (by omega) O3.out (HSi.out.s.keep (Kept.of_below O3.out.bel)).bs (fun a ea hp => O3.out.old (bs_lt HSi.out.s.bs hp ea)))
            go_wp2_with fail
            refine CI.out.mono ?_
            rintro e x4 ⟨A4, N4, c4, rfl, hc4, o4, g4⟩
            have O4 := Lib.hid o4
            clear o4 g4 O3 S3 CI n2
            go_wp2_with fail
            exact ⟨⟨j + 1, A4, N4, c4, by omega, by go_num, rfl, hc4, by
              rw [TK.out]
              have := O4.out
              rw [← HXV.out] at this
              unfold outS
              simp only [List.append_assoc, List.nil_append, List.cons_append] at this ⊢
              exact this⟩, by simp [intOf]; omega⟩
          · have t1 : decide ((j : Int) < (no : Int)) = false := decide_eq_false (by omega)
            obtain rfl : j = no := by omega
            have TB := Lib.hid (show t.outs.take j = t.outs from List.take_of_length_le (by rw [NO.out]; exact Nat.le_refl _))
            rw [TB.out] at OR
            have e1 := (HTX.out _ OR.out.bel).cell (k := 3) (v := .int .u32 (lk : Int)) rfl
            have CC := Lib.hid (putNumber_any lk (by omega) 4 (by decide) (by simp only [List.length_append, List.length_nil, List.length_cons, low_len]; omega) OR.out)
            go_wp2_with fail
            refine CC.out.mono ?_
            rintro e y9 ⟨D9, M9, d9, rfl, hd9, u9, _⟩
            have U9 := Lib.hid (u9.weaken B0.out)
            clear u9 CC e1 OR
            go_wp2_with fail
            go_ret
            refine ⟨D9, M9, d9, rfl, hd9, ?_⟩
            have fin := U9.out
            rw [← HV.out, ← HLK.out, ← NI.out, ← NO.out] at fin
            unfold putB bareS bodyS
            simp only [List.append_assoc, List.nil_append, List.cons_append, if_true, if_false, Bool.false_eq_true] at fin ⊢
            exact fin
  | true =>
    have bl := (Below.refl w1.heap.size w1).alloc (Nat.le_refl _) (.cells #[.int .u8 0, .int .u8 1] 5)
    have OL := Lib.hid (O5.out.later bl)
    have BL := Lib.hid (Bs.lit w1 [0, 1] mark_byt)
    have hN : N3 ≤ 100 := by have := O5.out.len; simp [low_len] at this; omega
    clear bl
    go_wp2_with (at_builtin; refine wpList_appB rfl (.tmp 19) (.tmp 20) rfl rfl OL.out rfl BL.out (by omega) ?_)
    intro A2 N2 c2 w2 hc2 o2 g2
    have O2 := Lib.hid o2
    clear o2 g2 OL BL hN
    have ct14 := (HTX.out _ O2.out.bel).cell (k := 1) (v := .slice Ai ni ci) rfl
    have C15 := Lib.hid (putCount_any ni (by omega) (by simp [low_len]) O2.out)
    go_wp2_with fail
    refine C15.out.mono ?_
    rintro e w16 ⟨A17, N18, c19, rfl, hc19, oO20, gO20⟩
    have O20 := Lib.hid oO20
    have GO20 := Lib.hid gO20
    clear oO20 gO20 C15
    clear ct14
    have K1 := Lib.hid (countS_len ni)
    have ct21 := (HTX.out _ O20.out.bel).cell (k := 1) (v := .slice Ai ni ci) rfl
    go_wp2_with fail
    clear ct21
    go_loopw [5, 30] (fun v0 i wr => ∃ (k : Nat) (A : Option Addr) (N c : Nat), k ≤ ni ∧ i = .int .i64 (k : Nat) ∧ v0 = .slice A N c ∧ N ≤ c ∧ Own wb (.slice A N c) N (((([] ++ low 4 v) ++ [0, 1]) ++ countS ni) ++ insS (t.ins.take k)) wr) (fun _ i _ => ni - (intOf i).toNat)
    case atStart => exact ⟨0, A17, N18, c19, Nat.zero_le _, rfl, rfl, hc19, by rw [show insS (t.ins.take 0) = [] from rfl, List.append_nil]; exact O20.out⟩
    case round =>
      clear O20
      obtain ⟨k, A, N, c, hk, rfl, rfl, hc, oR⟩ := hrel
      have OR := Lib.hid oR
      clear oR
      by_cases hlt : k < ni
      · have t1 : decide ((k : Int) < (ni : Int)) = true := decide_eq_true (by omega)
        obtain ⟨i, hi, htk, him⟩ := getL NI.out hlt
        have HI := Lib.hid hi
        have TK := Lib.hid (insS_take htk)
        have okI := Lib.hid (okT.out.ins i him)
        have q1 := flat_take inS t.ins k
        have q2 := flat_mem inS him
        have q3 := inS_len okI.out
        have q4 := item_le i.s
        have q5 : (insS (t.ins.take k)).length ≤ 900000000 := by
          have e1 : (insS (t.ins.take k)).length ≤ (insS t.ins).length := q1
          omega
        have k1 := K1.out
        have q6 : i.s.length ≤ 900000000 := by
          have e1 : (inS i).length ≤ (insS t.ins).length := q2
          omega
        have q7 := itemS_len i.s
        clear q1 q2 q3 q4
        obtain ⟨bi, oi, _, rfl, _⟩ := HT.out.ins.cel (by omega)
        have ad := add_at bi oi
        obtain ⟨hbi, V, hV, hr, As, ns, cs, Aw, nw, cw, rfl, hI⟩ := HT.out.ins.nth hi
        have HRg := Lib.hid (range_later hr hbi OR.out.bel)
        have HVl := Lib.hid hV
        have HSi := Lib.hid hI
        have z0 := zeroIn
        clear hi htk him hr hV hI hbi
        go_wp2_with (first | (refine wpList_load_part rfl (.tmp 32) rfl rfl rowIn HRg.out HVl.out ?_) | (refine wpList_store_ro rfl (.tmp 7) (.tmp 33) rfl rfl rfl rowIn (Ro.new wr 56 zIn) zIn_len HVl.out (inV_one _ _ _ _ _ _ _ _ _) ?_))
        intro x1 R1 g1
        have b1 := box_store g1
        have S1 := Lib.hid (side_new OR.out R1)
        have O1 := Lib.hid (OR.out.later b1)
        obtain ⟨q, hq⟩ : ∃ q, wr.heap.size = q := ⟨_, rfl⟩
        rw [hq] at S1 ⊢
        clear R1 g1 b1 OR HRg z0 hq
        have BH := Lib.hid (S1.out.hash okI.out.h okI.out.hb)
        have LN := O1.out.len
        simp only [List.length_append, List.length_nil, List.length_cons, low_len] at LN
        have hN : N ≤ 900001000 := by omega
        clear LN
        go_wp2_with (at_builtin; refine wpList_appB rfl (.tmp 34) (.tmp 37) rfl rfl O1.out rfl BH.out (by omega) ?_)
        intro A2 N2 c2 x2 hc2 o2 g2
        have O2 := Lib.hid o2
        have S2 := Lib.hid (S1.out.grew g2)
        clear o2 g2 O1 S1 BH hN
        have n1 := S2.out.ro.cell (inV_at i.h okI.out.h i.n As ns cs i.q Aw nw cw).1
        have nb := okI.out.n
        obtain ⟨xn, hxn⟩ : ∃ x, i.n = x := ⟨_, rfl⟩
        rw [hxn] at n1 nb
        have HXN := Lib.hid hxn
        have CN := Lib.hid (putNumber_any xn (by omega) 4 (by decide) (by simp only [List.length_append, List.length_nil, List.length_cons, low_len, okI.out.h]; omega) O2.out)
        clear hxn
        go_wp2_with fail
        refine CN.out.mono ?_
        rintro e x3 ⟨A3, N3, c3, rfl, hc3, o3, g3⟩
        have O3 := Lib.hid o3
        have S3 := Lib.hid (S2.out.grew g3)
        clear o3 g3 O2 S2 CN n1
        have n2 := S3.out.ro.cell (inV_at i.h okI.out.h i.n As ns cs i.q Aw nw cw).2.1
        have CI := Lib.hid (putItem_any (d := cs) (Nat.le_trans HSi.out.s2 (by decide)) (by simp only [List.length_append, List.length_nil, List.length_cons, low_len, okI.out.h]; omega) (by omega) O3.out (HSi.out.s.keep (Kept.of_below O3.out.bel)).bs (fun a ea hp => O3.out.old (bs_lt HSi.out.s.bs hp ea)))
        go_wp2_with fail
        refine CI.out.mono ?_
        rintro e x4 ⟨A4, N4, c4, rfl, hc4, o4, g4⟩
        have O4 := Lib.hid o4
        have S4 := Lib.hid (S3.out.grew g4)
        clear o4 g4 O3 S3 CI n2
        have n3 := S4.out.ro.cell (inV_at i.h okI.out.h i.n As ns cs i.q Aw nw cw).2.2.1
        have qb := okI.out.q
        obtain ⟨xq, hxq⟩ : ∃ x, i.q = x := ⟨_, rfl⟩
        rw [hxq] at n3 qb
        have HXQ := Lib.hid hxq
        have CN := Lib.hid (putNumber_any xq (by omega) 4 (by decide) (by simp only [List.length_append, List.length_nil, List.length_cons, low_len, okI.out.h]; have := q7; omega) O4.out)
        clear hxq
        go_wp2_with fail
        refine CN.out.mono ?_
        rintro e x5 ⟨A5, N5, c5, rfl, hc5, o5, g5⟩
        have O5 := Lib.hid o5
        clear o5 g5 O4 S4 CN n3
        go_wp2_with fail
        exact ⟨⟨k + 1, A5, N5, c5, by omega, by go_num, rfl, hc5, by
          rw [TK.out]
          have := O5.out
          rw [← HXN.out, ← HXQ.out] at this
          unfold inS
          simp only [List.append_assoc, List.nil_append, List.cons_append] at this ⊢
          exact this⟩, by simp [intOf]; omega⟩
      · have t1 : decide ((k : Int) < (ni : Int)) = false := decide_eq_false (by omega)
        obtain rfl : k = ni := by omega
        have TA := Lib.hid (show t.ins.take k = t.ins from List.take_of_length_le (by rw [NI.out]; exact Nat.le_refl _))
        rw [TA.out] at OR
        have k1 := K1.out
        have e1 := (HTX.out _ OR.out.bel).cell (k := 2) (v := .slice Ao no co) rfl
        have CC := Lib.hid (putCount_any no (by omega) (by simp only [List.length_append, List.length_nil, List.length_cons, low_len]; omega) OR.out)
        go_wp2_with fail
        refine CC.out.mono ?_
        rintro e y1 ⟨D1, M1, d1, rfl, hd1, u1, _⟩
        have U1 := Lib.hid u1
        have K2 := Lib.hid (countS_len no)
        clear u1 CC e1 OR
        have e1 := (HTX.out _ U1.out.bel).cell (k := 2) (v := .slice Ao no co) rfl
        go_wp2_with fail
        clear e1 t1 hk hlt hc
        go_loopw [5, 63] (fun v0 i wr => ∃ (j : Nat) (A : Option Addr) (N c : Nat), j ≤ no ∧ i = .int .i64 (j : Nat) ∧ v0 = .slice A N c ∧ N ≤ c ∧ Own wb (.slice A N c) N ((((([] ++ low 4 v) ++ [0, 1]) ++ countS k) ++ insS t.ins ++ countS no) ++ outsS (t.outs.take j)) wr) (fun _ i _ => no - (intOf i).toNat)
        case atStart => exact ⟨0, D1, M1, d1, Nat.zero_le _, rfl, rfl, hd1, by rw [show outsS (t.outs.take 0) = [] from rfl, List.append_nil]; have := U1.out; simp only [List.append_assoc, List.nil_append, List.cons_append] at this ⊢; exact this⟩
        case round =>
          clear U1
          obtain ⟨j, A, N, c, hj, rfl, rfl, hc, oR⟩ := hrel
          have OR := Lib.hid oR
          have k2 := K2.out
          clear oR
          by_cases hlt : j < no
          · have t1 : decide ((j : Int) < (no : Int)) = true := decide_eq_true (by omega)
            obtain ⟨d, hi, htk, him⟩ := getL NO.out hlt
            have TK := Lib.hid (outsS_take htk)
            have okD := Lib.hid (okT.out.outs d him)
            have q1 := flat_take outS t.outs j
            have q2 := flat_mem outS him
            have q5 : (outsS (t.outs.take j)).length ≤ 900000000 := by
              have e1 : (outsS (t.outs.take j)).length ≤ (outsS t.outs).length := q1
              omega
            have q6 : d.s.length ≤ 900000000 := by
              have e1 : (outS d).length ≤ (outsS t.outs).length := q2
              have e2 : (outS d).length = 8 + (itemS d.s).length := by unfold outS; rw [List.length_append, low_len]
              have e3 := item_le d.s
              omega
            clear q1 q2
            obtain ⟨bo, oo, _, rfl, _⟩ := HT.out.outs.cel (by omega)
            have ad := add_at bo oo
            obtain ⟨hbo, V, hV, hr, As, ns, cs, rfl, hI⟩ := HT.out.outs.nth hi
            have HRg := Lib.hid (range_later hr hbo OR.out.bel)
            have HVl := Lib.hid hV
            have HSi := Lib.hid hI
            have z0 := zeroOut
            clear hi htk him hr hV hI hbo
            go_wp2_with (first | (refine wpList_load_part rfl (.tmp 65) rfl rfl rowOut HRg.out HVl.out ?_) | (refine wpList_store_ro rfl (.tmp 9) (.tmp 66) rfl rfl rfl rowOut (Ro.new wr 46 zOut) rfl HVl.out (outV_one _ _ _ _) ?_))
            intro x1 R1 g1
            have b1 := box_store g1
            have S1 := Lib.hid (side_new OR.out R1)
            have O1 := Lib.hid (OR.out.later b1)
            obtain ⟨q, hq⟩ : ∃ q, wr.heap.size = q := ⟨_, rfl⟩
            rw [hq] at S1 ⊢
            clear R1 g1 b1 OR HRg z0 hq
            have n1 := S1.out.ro.cell (k := 0) (v := .int .u64 (d.v : Int)) rfl
            have vbd := okD.out.v
            obtain ⟨xv, hxv⟩ : ∃ x, d.v = x := ⟨_, rfl⟩
            rw [hxv] at n1 vbd
            have HXV := Lib.hid hxv
            have CN := Lib.hid (putNumber_any xv vbd 8 (by decide) (by simp only [List.length_append, List.length_nil, List.length_cons, low_len]; omega) O1.out)
            clear hxv
            go_wp2_with fail
            refine CN.out.mono ?_
            rintro e x3 ⟨A3, N3, c3, rfl, hc3, o3, g3⟩
            have O3 := Lib.hid o3
            have S3 := Lib.hid (S1.out.grew g3)
            clear o3 g3 O1 S1 CN n1
            have n2 := S3.out.ro.cell (k := 1) (v := .slice As ns cs) rfl
            have CI := Lib.hid (putItem_any (d := cs) (Nat.le_trans HSi.out.s2 (by decide)) (by simp only [List.length_append, List.length_nil, List.length_cons, low_len]; omega) (by omega) O3.out (HSi.out.s.keep (Kept.of_below O3.out.bel)).bs (fun a ea hp => O3.out.old (bs_lt HSi.out.s.bs hp ea)))
            go_wp2_with fail
            refine CI.out.mono ?_
            rintro e x4 ⟨A4, N4, c4, rfl, hc4, o4, g4⟩
            have O4 := Lib.hid o4
            clear o4 g4 O3 S3 CI n2
            go_wp2_with fail
            exact ⟨⟨j + 1, A4, N4, c4, by omega, by go_num, rfl, hc4, by
              rw [TK.out]
              have := O4.out
              rw [← HXV.out] at this
              unfold outS
              simp only [List.append_assoc, List.nil_append, List.cons_append] at this ⊢
              exact this⟩, by simp [intOf]; omega⟩
          · have t1 : decide ((j : Int) < (no : Int)) = false := decide_eq_false (by omega)
            obtain rfl : j = no := by omega
            have TB := Lib.hid (show t.outs.take j = t.outs from List.take_of_length_le (by rw [NO.out]; exact Nat.le_refl _))
            rw [TB.out] at OR
            have e1 := (HTX.out _ OR.out.bel).cell (k := 1) (v := .slice Ai k ci) rfl
            have OS := Lib.hid OR.out
            go_wp2_with fail
            clear e1 t1 hj hlt hc OR
            go_loopw [5, 80] (fun v0 i wr => ∃ (m : Nat) (A : Option Addr) (N c : Nat), m ≤ k ∧ i = .int .i64 (m : Nat) ∧ v0 = .slice A N c ∧ N ≤ c ∧ Own wb (.slice A N c) N (((((([] ++ low 4 v) ++ [0, 1]) ++ countS k) ++ insS t.ins ++ countS j) ++ outsS t.outs) ++ witS (t.ins.take m)) wr) (fun _ i _ => k - (intOf i).toNat)
            case atStart =>
              obtain ⟨A', c', e, hc'⟩ := OS.out.shape
              injection e with f1 f2 f3
              exact ⟨0, A, N, c, Nat.zero_le _, rfl, rfl, by omega, by rw [show witS (t.ins.take 0) = [] from rfl, List.append_nil]; exact OS.out⟩
            case round =>
              clear OS
              obtain ⟨m, A, N, c, hm, rfl, rfl, hc, oR⟩ := hrel
              have OR := Lib.hid oR
              clear oR
              by_cases hlt : m < k
              · have t1 : decide ((m : Int) < (k : Int)) = true := decide_eq_true (by omega)
                obtain ⟨d, hi, htk, him⟩ := getL NI.out hlt
                have TK := Lib.hid (witS_take htk)
                have okI := Lib.hid (okT.out.ins d him)
                have q1 := flat_take witS1 t.ins m
                have q2 := flat_mem witS1 him
                have q5 : (witS (t.ins.take m)).length ≤ 900000000 := by
                  have e1 : (witS (t.ins.take m)).length ≤ (witS t.ins).length := q1
                  omega
                have q6 : (itemsS d.w).length ≤ 900000000 := by
                  have e1 : (witS1 d).length ≤ (witS t.ins).length := q2
                  have e2 : (witS1 d).length = (countS d.w.length).length + (itemsS d.w).length := by unfold witS1; rw [List.length_append]
                  omega
                clear q1 q2
                obtain ⟨bi, oi, _, rfl, _⟩ := HT.out.ins.cel (by omega)
                have ad := add_at bi oi
                obtain ⟨hbi, V, hV, hr, As, ns, cs, Aw, nw, cw, rfl, hI⟩ := HT.out.ins.nth hi
                have HRg := Lib.hid (range_later hr hbi OR.out.bel)
                have HVl := Lib.hid hV
                have HSi := Lib.hid hI
                have NW := Lib.hid hI.w.len
                have hnw := hI.w2
                have z0 := zeroIn
                clear hi htk him hr hV hI hbi
                go_wp2_with (first | (refine wpList_load_part rfl (.tmp 82) rfl rfl rowIn HRg.out HVl.out ?_) | (refine wpList_store_ro rfl (.tmp 11) (.tmp 83) rfl rfl rfl rowIn (Ro.new wr 56 zIn) zIn_len HVl.out (inV_one _ _ _ _ _ _ _ _ _) ?_))
                intro x1 R1 g1
                have b1 := box_store g1
                have S1 := Lib.hid (side_new OR.out R1)
                have O1 := Lib.hid (OR.out.later b1)
                obtain ⟨q, hq⟩ : ∃ q, wr.heap.size = q := ⟨_, rfl⟩
                rw [hq] at S1 ⊢
                clear R1 g1 b1 OR HRg z0 hq
                have n1 := S1.out.ro.cell (inV_at d.h okI.out.h d.n As ns cs d.q Aw nw cw).2.2.2
                have CC := Lib.hid (putCount_any nw (by omega) (by simp only [List.length_append, List.length_nil, List.length_cons, low_len]; omega) O1.out)
                go_wp2_with fail
                refine CC.out.mono ?_
                rintro e x3 ⟨A3, N3, c3, rfl, hc3, o3, g3⟩
                have O3 := Lib.hid o3
                have S3 := Lib.hid (S1.out.grew g3)
                have k3 := countS_len nw
                clear o3 g3 O1 S1 CC n1
                have n1 := S3.out.ro.cell (inV_at d.h okI.out.h d.n As ns cs d.q Aw nw cw).2.2.2
                go_wp2_with fail
                clear n1 t1 S3
                go_loopw [5, 92] (fun v0 i wr => ∃ (p : Nat) (A : Option Addr) (N c : Nat), p ≤ nw ∧ i = .int .i64 (p : Nat) ∧ v0 = .slice A N c ∧ N ≤ c ∧ Own wb (.slice A N c) N ((((((([] ++ low 4 v) ++ [0, 1]) ++ countS k) ++ insS t.ins ++ countS j) ++ outsS t.outs) ++ witS (t.ins.take m) ++ countS nw) ++ itemsS (d.w.take p)) wr) (fun _ i _ => nw - (intOf i).toNat)
                case atStart => exact ⟨0, A3, N3, c3, Nat.zero_le _, rfl, rfl, hc3, by rw [show itemsS (d.w.take 0) = [] from rfl, List.append_nil]; have := O3.out; simp only [List.append_assoc, List.nil_append, List.cons_append] at this ⊢; exact this⟩
                case round =>
                  clear O3
                  obtain ⟨p, A4, N4, c4, hp, rfl, rfl, hc4, oR⟩ := hrel
                  have OR := Lib.hid oR
                  clear oR
                  by_cases hlp : p < nw
                  · have t2 : decide ((p : Int) < (nw : Int)) = true := decide_eq_true (by omega)
                    obtain ⟨x, hx, hxk, hxm⟩ := getL NW.out hlp
                    have TX2 := Lib.hid (itemsS_take hxk)
                    have r1 := flat_take itemS d.w p
                    have r2 := flat_mem itemS hxm
                    have r5 : (itemsS (d.w.take p)).length ≤ 900000000 := by
                      have e1 : (itemsS (d.w.take p)).length ≤ (itemsS d.w).length := r1
                      omega
                    have r6 : x.length ≤ 900000000 := by
                      have e1 : (itemS x).length ≤ (itemsS d.w).length := r2
                      have e3 := item_le x
                      omega
                    clear r1 r2
                    obtain ⟨bx2, ox2, _, rfl, _⟩ := HSi.out.w.cel (by omega)
                    have ad2 := add_at bx2 ox2
                    obtain ⟨hbx2, V, hV, hr, Bx, mx, cx, rfl, hm1, hm2, hBs⟩ := HSi.out.w.nth hx
                    have n3 : wr.cell? ⟨bx2, ox2 + p, none⟩ = some (.slice Bx mx cx) := by
                      have := range_later hr hbx2 OR.out.bel 0 _ rfl
                      rwa [Nat.mul_one, Nat.add_zero] at this
                    have HBs := Lib.hid hBs
                    have CI := Lib.hid (putItem_any (d := cx) (Nat.le_trans hm2 (by decide)) (by simp only [List.length_append, List.length_nil, List.length_cons, low_len]; omega) (by omega) OR.out (hBs.keep (Kept.of_below OR.out.bel)).bs (fun a ea hp => OR.out.old (bs_lt HBs.out.bs hp ea)))
                    clear hx hxk hxm hr hV hBs hbx2
                    go_wp2_with fail
                    refine CI.out.mono ?_
                    rintro e x6 ⟨A6, N6, c6, rfl, hc6, o6, g6⟩
                    have O6 := Lib.hid o6
                    clear o6 g6 CI n3 OR
                    go_wp2_with fail
                    exact ⟨⟨p + 1, A6, N6, c6, by omega, by go_num, rfl, hc6, by
                      rw [TX2.out]
                      have := O6.out
                      simp only [List.append_assoc, List.nil_append, List.cons_append] at this ⊢
                      exact this⟩, by simp [intOf]; omega⟩
                  · have t2 : decide ((p : Int) < (nw : Int)) = false := decide_eq_false (by omega)
                    obtain rfl : p = nw := by omega
                    have TB2 := Lib.hid (show d.w.take p = d.w from List.take_of_length_le (by rw [NW.out]; exact Nat.le_refl _))
                    rw [TB2.out] at OR
                    go_wp2_with fail
                    exact ⟨⟨m + 1, A4, N4, c4, by omega, by go_num, rfl, hc4, by
                      rw [TK.out]
                      have := OR.out
                      unfold witS1
                      rw [NW.out]
                      simp only [List.append_assoc, List.nil_append, List.cons_append] at this ⊢
                      exact this⟩, by simp [intOf]; omega⟩
              · have t1 : decide ((m : Int) < (k : Int)) = false := decide_eq_false (by omega)
                obtain rfl : m = k := by omega
                rw [TA.out] at OR
                have e1 := (HTX.out _ OR.out.bel).cell (k := 3) (v := .int .u32 (lk : Int)) rfl
                have CC := Lib.hid (putNumber_any lk (by omega) 4 (by decide) (by simp only [List.length_append, List.length_nil, List.length_cons, low_len]; omega) OR.out)
                go_wp2_with fail
                refine CC.out.mono ?_
                rintro e y9 ⟨D9, M9, d9, rfl, hd9, u9, _⟩
                have U9 := Lib.hid (u9.weaken B0.out)
                clear u9 CC e1 OR
                go_wp2_with fail
                go_ret
                refine ⟨D9, M9, d9, rfl, hd9, ?_⟩
                have fin := U9.out
                rw [← HV.out, ← HLK.out, ← NI.out, ← NO.out] at fin
                unfold putB bareS bodyS
                simp only [List.append_assoc, List.nil_append, List.cons_append, if_true, if_false, Bool.false_eq_true] at fin ⊢
                exact fin
end Go.Proofs.YtbdjcbdnhaddoaaDoor
