/- Whether a transaction may be, as the reference says it; whether it is a mint. No condition but a bound on its weight. -/
import Derived.Test.YtbdjcbdnhaddoaaDoorMay
import Derived.Test.YtbdjcbdnhaddoaaDoorRefP
import Derived.Test.YtbdjcbdnhaddoaaDoorSameB
namespace Go.Proofs.YtbdjcbdnhaddoaaDoor
open Go.RowKit

theorem sum_split (l : List OutD) (k : Nat) : moneyS l = moneyS (l.take k) + moneyS (l.drop k) := by
  unfold moneyS
  rw [← List.sum_append, ← List.map_append, List.take_append_drop]

set_option maxRecDepth 100000 in
set_option maxHeartbeats 8000000 in
theorem refMay_any {t : TxD} {Ai : Option Addr} {ni ci : Nat} {Ao : Option Addr} {no co : Nat} (w : World) (hw : weigh t ≤ 100000000) (hT : TxR w t Ai ni ci Ao no co) :
    Calls Tryd.prog 20 #[.agg (txV t.ver Ai ni ci Ao no co t.lock).toArray] w fun e w' => e = .returned (.bool (decide (May t))) ∧ Below w.heap.size w w' := by
  have NI := Lib.hid hT.ins.len
  have NO := Lib.hid hT.outs.len
  have okT := Lib.hid hT.ok
  have hni := hT.i2
  have hno := hT.o2
  have b0 := (Below.refl w.heap.size w).alloc (Nat.le_refl _) (.cells (txV t.ver Ai ni ci Ao no co t.lock).toArray 26)
  have r0 := Ro.new w 26 (txV t.ver Ai ni ci Ao no co t.lock)
  have hT1 := hT.later b0
  obtain ⟨wb, hwb⟩ : ∃ wb, w.alloc (.cells (txV t.ver Ai ni ci Ao no co t.lock).toArray 26) = wb := ⟨_, rfl⟩
  rw [hwb] at b0 r0 hT1
  obtain ⟨bx, hbx⟩ : ∃ q, w.heap.size = q := ⟨_, rfl⟩
  rw [hbx] at r0
  have B0 := Lib.hid b0
  have HTX : Hid (∀ u, Below wb.heap.size wb u → Ro u bx 26 (txV t.ver Ai ni ci Ao no co t.lock)) := Lib.hid (fun u g => r0.later g)
  have lT := Lib.hid (txV_len t.ver Ai ni ci Ao no co t.lock)
  have HT := Lib.hid hT1
  have CP : Hid (∀ u, Below wb.heap.size wb u → Calls Tryd.prog 14 #[.agg (txV t.ver Ai ni ci Ao no co t.lock).toArray] u (GivesB u (putS t))) := Lib.hid (fun u g => refPut_any u hw (hT1.later g))
  have a1 := (HTX.out wb (Below.refl _ _)).cell (k := 1) (v := .slice Ai ni ci) rfl
  have a2 := (HTX.out wb (Below.refl _ _)).cell (k := 2) (v := .slice Ao no co) rfl
  obtain ⟨v, hv⟩ : ∃ v, t.ver = v := ⟨_, rfl⟩
  obtain ⟨lk, hlk⟩ : ∃ v, t.lock = v := ⟨_, rfl⟩
  rw [hv] at hwb HTX lT CP
  rw [hlk] at hwb HTX lT CP
  rw [hv, hlk]
  clear hT hT1 b0 r0 hv hlk
  go_enter Tryd.func20, Tryd.ntmps20
  by_cases h1 : ni = 0
  · have t0 : ((ni : Int) == 0) = true := by rw [beq_iff_eq]; omega
    have N := Lib.hid (show ¬ May t from fun m => m.ins (List.eq_nil_of_length_eq_zero (by rw [NI.out]; exact h1)))
    clear h1
    go_wp2_with fail
    go_ret
    exact ⟨by rw [decide_eq_false N.out]; rfl, B0.out⟩
  have t0 : ((ni : Int) == 0) = false := by rw [beq_eq_false_iff_ne]; omega
  by_cases h2 : no = 0
  · have t1 : ((no : Int) == 0) = true := by rw [beq_iff_eq]; omega
    have N := Lib.hid (show ¬ May t from fun m => m.outs (List.eq_nil_of_length_eq_zero (by rw [NO.out]; exact h2)))
    clear h2
    go_wp2_with fail
    go_ret
    exact ⟨by rw [decide_eq_false N.out]; rfl, B0.out⟩
  have t1 : ((no : Int) == 0) = false := by rw [beq_eq_false_iff_ne]; omega
  have IN := Lib.hid (show t.ins ≠ [] from fun e => h1 (by rw [← NI.out, e]; rfl))
  have ON := Lib.hid (show t.outs ≠ [] from fun e => h2 (by rw [← NO.out, e]; rfl))
  have RX := Lib.hid (HTX.out wb (Below.refl _ _))
  have CC := Lib.hid (CP.out wb (Below.refl _ _))
  go_wp2_with (refine BigFrame.wpList_want (by rfl) fun K hK => wp_load_ro (.tmp 1) rfl rfl rowTx RX.out lT.out (hK _ _ ?_))
  refine CC.out.mono ?_
  rintro e w1 ⟨A, N, c, rfl, hc, O⟩
  have LN := Lib.hid O.len
  have BW := Lib.hid O.bel
  clear O CC RX a1 a2 hwb hbx t0 t1
  by_cases h3 : 16384 < N
  · have t2 : decide ((16384 : Int) < (N : Int)) = true := decide_eq_true (by omega)
    have N' := Lib.hid (show ¬ May t from fun m => by have := m.size; rw [LN.out] at this; omega)
    go_wp2_with fail
    go_ret
    exact ⟨by rw [decide_eq_false N'.out]; rfl, B0.out.trans (BW.out.mono B0.out.size)⟩
  have t2 : decide ((16384 : Int) < (N : Int)) = false := decide_eq_false (by omega)
  have SZ := Lib.hid (show (putS t).length ≤ 16384 by rw [LN.out]; omega)
  go_wp2_with fail
  clear t2
  go_loopw [3] (fun i wr => ∃ k : Nat, k ≤ ni ∧ i = .int .i64 (k : Nat) ∧ ((t.ins.take k).map fun i => (i.h, i.n)).Nodup ∧ Below wb.heap.size wb wr) (fun i _ => ni - (intOf i).toNat)
  case atStart => exact ⟨0, Nat.zero_le _, rfl, List.nodup_nil, BW.out⟩
  case round =>
    clear BW
    obtain ⟨k, hk, rfl, hnd, bel⟩ := hrel
    have ND := Lib.hid hnd
    have BW := Lib.hid bel
    clear hnd bel
    have a1 := (HTX.out wr BW.out).cell (k := 1) (v := .slice Ai ni ci) rfl
    by_cases hlt : k < ni
    · have t2 : decide ((k : Int) < (ni : Int)) = true := decide_eq_true (by omega)
      obtain ⟨i, hi, htk, him⟩ := getL NI.out hlt
      have TK := Lib.hid (froms_take htk)
      have okI := Lib.hid (okT.out.ins i him)
      obtain ⟨b1, o1, _, rfl, _⟩ := HT.out.ins.cel (by omega)
      have ad1 := add_at b1 o1
      obtain ⟨hb1, V1, hV1, hr1, As, ns, cs, Aw, nw, cw, rfl, hI⟩ := HT.out.ins.nth hi
      have R1 : Hid (∀ u, Below wb.heap.size wb u → u.rangeAt b1 (o1 + k * 36) (fromV i.h i.n)) := Lib.hid (fun u g => from_range (range_later hr1 hb1 g))
      have l1 := Lib.hid (fromV_len okI.out.h i.n)
      clear hi htk him hV1 hr1 hb1 hI
      go_wp2_with fail
      clear t2 a1
      go_loopw [4] (fun i2 wr2 => ∃ p : Nat, p ≤ k ∧ i2 = .int .i64 (p : Nat) ∧ (i.h, i.n) ∉ ((t.ins.take p).map fun i => (i.h, i.n)) ∧ Below wb.heap.size wb wr2) (fun i _ => k - (intOf i).toNat)
      case atStart => exact ⟨0, Nat.zero_le _, rfl, (fun h => by cases h), BW.out⟩
      case round =>
        clear BW
        obtain ⟨p, hp, rfl, hno2, bel⟩ := hrel
        have NM := Lib.hid hno2
        have BW := Lib.hid bel
        clear hno2 bel
        by_cases hlp : p < k
        · have t3 : decide ((p : Int) < (k : Int)) = true := decide_eq_true (by omega)
          obtain ⟨j, hj, hjk, hjm⟩ := getL NI.out (show p < ni by omega)
          have TJ := Lib.hid (froms_take hjk)
          have okJ := Lib.hid (okT.out.ins j hjm)
          obtain ⟨hb2, V2, hV2, hr2, As2, ns2, cs2, Aw2, nw2, cw2, rfl, hI2⟩ := HT.out.ins.nth hj
          have R2 : Hid (∀ u, Below wb.heap.size wb u → u.rangeAt b1 (o1 + p * 36) (fromV j.h j.n)) := Lib.hid (fun u g => from_range (range_later hr2 hb2 g))
          have l2 := Lib.hid (fromV_len okJ.out.h j.n)
          have EQ := eq_place (n := i.n) (m := j.n) okI.out.h okJ.out.h
          obtain ⟨q, hq⟩ : ∃ q, decide ((i.h, i.n) = (j.h, j.n)) = q := ⟨_, rfl⟩
          rw [hq] at EQ
          have HQ := Lib.hid hq
          have PM : Hid ((j.h, j.n) ∈ (t.ins.take k).map fun i => (i.h, i.n)) := Lib.hid (by
            refine List.mem_map.2 ⟨j, ?_, rfl⟩
            obtain ⟨h5, h6⟩ := List.getElem?_eq_some_iff.1 hj
            rw [← h6]
            exact List.mem_take_iff_getElem.2 ⟨p, by omega, rfl⟩)
          obtain ⟨F1, hF1⟩ : ∃ F, fromV i.h i.n = F := ⟨_, rfl⟩
          obtain ⟨F2, hF2⟩ : ∃ F, fromV j.h j.n = F := ⟨_, rfl⟩
          have S1 : Hid (∀ u, Below wb.heap.size wb u → u.rangeAt b1 (o1 + k * 36) F1) := Lib.hid (by rw [← hF1]; exact R1.out)
          have m1 := l1
          rw [hF1] at EQ m1
          rw [hF2] at EQ R2 l2
          have HU : Hid (∀ u : After wr, Below wb.heap.size wb u.w) := Lib.hid (fun u => BW.out.trans (u.below.mono BW.out.size))
          have a1u : ∀ u : After wr, u.w.cell? ⟨bx, 1, none⟩ = some (.slice (some ⟨b1, o1, none⟩) ni ci) := fun u => (HTX.out u.w (HU.out u)).cell (k := 1) rfl
          clear hj hjk hjm hb2 hV2 hr2 hI2 hq hF1 hF2
          go_wp2_with fail
          refine wp_region_after (by kernel_rfl) (by kernel_rfl) ?_
          repeat (go_big_quiet_step (fail))
          go_big_quiet_want
          refine quiet_load_part (.tmp 39) rfl rfl rowPlace (fun w9 h9 => by obtain ⟨u, rfl⟩ := h9; exact S1.out u.w (HU.out u)) m1.out ?_
          simp only [Act.put, List.setIfInBounds_toArray, List.set_cons_succ, List.set_cons_zero]
          go_big_quiet_on
          repeat (go_big_quiet_step (fail))
          go_big_quiet_want
          refine quiet_load_part (.tmp 45) rfl rfl rowPlace (fun w9 h9 => by obtain ⟨u, rfl⟩ := h9; exact R2.out u.w (HU.out u)) l2.out ?_
          simp only [Act.put, List.setIfInBounds_toArray, List.set_cons_succ, List.set_cons_zero]
          go_big_quiet_on
          repeat (go_big_quiet_step (fail))
          refine wpQuiet_nil ?_
          rintro wz ⟨u, rfl⟩
          have Bz := Lib.hid (HU.out u)
          clear a1u BW HU EQ
          cases q with
          | true =>
            have N' := Lib.hid (show ¬ May t from fun m => by
              have h5 := froms_sub t.ins (k + 1) m.apart
              rw [TK.out] at h5
              exact (nodup_snoc.1 h5).2 (by rw [of_decide_eq_true HQ.out]; exact PM.out))
            go_wp2_with fail
            go_ret
            exact ⟨by rw [decide_eq_false N'.out]; rfl, B0.out.trans (Bz.out.mono B0.out.size)⟩
          | false =>
            have X := Lib.hid (show (i.h, i.n) ∉ ((t.ins.take (p + 1)).map fun i => (i.h, i.n)) by
              rw [TJ.out, List.mem_append, List.mem_singleton]
              rintro (h | h)
              · exact NM.out h
              · exact of_decide_eq_false HQ.out h)
            go_wp2_with fail
            exact ⟨⟨p + 1, by omega, by go_num, X.out, Bz.out⟩, by simp [intOf]; omega⟩
        · have t3 : decide ((p : Int) < (k : Int)) = false := decide_eq_false (by omega)
          obtain rfl : p = k := by omega
          have X := Lib.hid (show ((t.ins.take (p + 1)).map fun i => (i.h, i.n)).Nodup by rw [TK.out]; exact nodup_snoc.2 ⟨ND.out, NM.out⟩)
          go_wp2_with fail
          exact ⟨⟨p + 1, by omega, by go_num, X.out, BW.out⟩, by simp [intOf]; omega⟩
    · have t2 : decide ((k : Int) < (ni : Int)) = false := decide_eq_false (by omega)
      obtain rfl : k = ni := by omega
      have ND2 := Lib.hid (show (froms t).Nodup by
        have := ND.out
        rw [List.take_of_length_le (by rw [NI.out]; exact Nat.le_refl _)] at this
        exact this)
      clear ND
      go_wp2_with fail
      clear t2 a1
      go_loopw [5, 6] (fun sv i wr => ∃ j : Nat, j ≤ no ∧ i = .int .i64 (j : Nat) ∧ sv = .int .u64 (moneyS (t.outs.take j) : Nat) ∧ moneyS (t.outs.take j) ≤ 2100000000000000 ∧ Below wb.heap.size wb wr) (fun _ i _ => no - (intOf i).toNat)
      case atStart => exact ⟨0, Nat.zero_le _, rfl, rfl, Nat.zero_le _, BW.out⟩
      case round =>
        clear BW
        obtain ⟨j, hj, rfl, rfl, hm, bel⟩ := hrel
        have BW := Lib.hid bel
        clear bel
        obtain ⟨S, hS⟩ : ∃ S, moneyS (t.outs.take j) = S := ⟨_, rfl⟩
        rw [hS] at hm ⊢
        have HS := Lib.hid hS
        clear hS
        have a2 := (HTX.out wr BW.out).cell (k := 2) (v := .slice Ao no co) rfl
        by_cases hlt : j < no
        · have t2 : decide ((j : Int) < (no : Int)) = true := decide_eq_true (by omega)
          obtain ⟨d, hi, htk, him⟩ := getL NO.out hlt
          have TK := Lib.hid (money_take htk)
          have okD := okT.out.outs d him
          obtain ⟨b1, o1, _, rfl, _⟩ := HT.out.outs.cel (by omega)
          have ad1 := add_at b1 o1
          obtain ⟨hb1, V1, hV1, hr1, As, ns, cs, rfl, hI⟩ := HT.out.outs.nth hi
          have c0 : wr.cell? ⟨b1, o1 + j * 2, none⟩ = some (.int .u64 (d.v : Int)) := range_later hr1 hb1 BW.out 0 _ rfl
          have vb := okD.v
          obtain ⟨xv, hxv⟩ : ∃ z, d.v = z := ⟨_, rfl⟩
          rw [hxv] at c0 vb TK
          rw [HS.out] at TK
          clear hi htk him hV1 hr1 hb1 hI okD hxv
          by_cases hg : 2100000000000000 < xv
          · have t3 : decide ((2100000000000000 : Int) < (xv : Int)) = true := decide_eq_true (by omega)
            have N' := Lib.hid (show ¬ May t from fun m => by
              have h1 := m.money
              have h2 := sum_take t.outs (j + 1)
              rw [TK.out] at h2
              omega)
            go_wp2_with fail
            go_ret
            exact ⟨by rw [decide_eq_false N'.out]; rfl, B0.out.trans (BW.out.mono B0.out.size)⟩
          have t3 : decide ((2100000000000000 : Int) < (xv : Int)) = false := decide_eq_false (by omega)
          have y2 : IntKind.u64.wrap ((S : Int) + (xv : Int)) = (S : Int) + (xv : Int) := by rw [IntKind.wrap_u64]; omega
          have y4 : ((S : Int) + (xv : Int)) % 18446744073709551616 = (S : Int) + (xv : Int) := by omega
          by_cases hk2 : 2100000000000000 < S + xv
          · have t4 : decide ((2100000000000000 : Int) < (S : Int) + (xv : Int)) = true := decide_eq_true (by omega)
            have N' := Lib.hid (show ¬ May t from fun m => by
              have h1 := m.money
              have h2 := sum_take t.outs (j + 1)
              rw [TK.out] at h2
              omega)
            go_wp2_with fail
            go_ret
            exact ⟨by rw [decide_eq_false N'.out]; rfl, B0.out.trans (BW.out.mono B0.out.size)⟩
          · have t4 : decide ((2100000000000000 : Int) < (S : Int) + (xv : Int)) = false := decide_eq_false (by omega)
            go_wp2_with fail
            exact ⟨⟨j + 1, by omega, by go_num, by rw [TK.out]; simp, by rw [TK.out]; omega, BW.out⟩, by simp [intOf]; omega⟩
        · have t2 : decide ((j : Int) < (no : Int)) = false := decide_eq_false (by omega)
          obtain rfl : j = no := by omega
          have MM := Lib.hid (show moneyS t.outs ≤ 2100000000000000 by
            have := HS.out
            rw [List.take_of_length_le (by rw [NO.out]; exact Nat.le_refl _)] at this
            omega)
          go_wp2_with fail
          go_ret
          exact ⟨by rw [decide_eq_true (show May t from ⟨IN.out, ON.out, ND2.out, MM.out, SZ.out⟩)]; rfl, B0.out.trans (BW.out.mono B0.out.size)⟩

/-! ### mints -/
def mintS (t : TxD) : Bool := decide (froms t = [(List.replicate 32 0, 4294967295)])
set_option maxRecDepth 100000 in
theorem build_from (w : World) : (Instr.build 53 #[(1, .int .u32 4294967295)]).run Tryd.prog w = .ok (.agg (fromV (List.replicate 32 0) 4294967295).toArray) w := by kernel_rfl
theorem mint_no {t : TxD} {ni : Nat} (h : t.ins.length = ni) (k : ni ≠ 1) : mintS t = false := decide_eq_false fun e => k (by
  have := congrArg List.length e
  simp [froms] at this
  omega)
theorem mint_one {t : TxD} {i : InD} (h : t.ins = [i]) : mintS t = decide ((i.h, i.n) = (List.replicate 32 0, 4294967295)) := by
  unfold mintS froms
  rw [h, decide_eq_decide]
  simp
end Go.Proofs.YtbdjcbdnhaddoaaDoor
