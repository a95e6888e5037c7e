/- Whether a transaction may be, as the program says it. No condition but a bound on its weight. -/
import Derived.Test.YtbdjcbdnhaddoaaDoorGs
import Derived.Test.YtbdjcbdnhaddoaaDoorPutW
namespace Go.Proofs.YtbdjcbdnhaddoaaDoor
open Go.RowKit

theorem froms_take {l : List InD} {k : Nat} {i : InD} (h : l.take (k + 1) = l.take k ++ [i]) : (l.take (k + 1)).map (fun i => (i.h, i.n)) = (l.take k).map (fun i => (i.h, i.n)) ++ [(i.h, i.n)] := by rw [h, List.map_append]; rfl
theorem nodup_snoc {α : Type} {l : List α} {x : α} : (l ++ [x]).Nodup ↔ l.Nodup ∧ x ∉ l := by
  rw [List.nodup_append]
  constructor
  · rintro ⟨a, b, c⟩
    exact ⟨a, fun h => c x h x (by simp) rfl⟩
  · rintro ⟨a, b⟩
    exact ⟨a, by simp, fun y hy z hz => by rw [List.mem_singleton] at hz; subst hz; exact fun e => b (e ▸ hy)⟩
theorem froms_sub (l : List InD) (k : Nat) (h : (l.map fun i => (i.h, i.n)).Nodup) : ((l.take k).map fun i => (i.h, i.n)).Nodup := h.sublist ((List.take_sublist k l).map _)
theorem money_take {l : List OutD} {k : Nat} {o : OutD} (h : l.take (k + 1) = l.take k ++ [o]) : moneyS (l.take (k + 1)) = moneyS (l.take k) + o.v := by
  rw [h]
  simp [moneyS]
theorem sum_take (l : List OutD) (k : Nat) : moneyS (l.take k) ≤ moneyS l := by
  have : moneyS l = moneyS (l.take k) + moneyS (l.drop k) := by
    unfold moneyS
    rw [← List.sum_append, ← List.map_append, List.take_append_drop]
  omega

set_option maxRecDepth 100000 in
set_option maxHeartbeats 8000000 in
theorem txMay_any {t : TxD} {Ai : Option Addr} {ni ci : Nat} {Ao : Option Addr} {no co : Nat} (w : World) (hw : weigh t ≤ 100000000) (hT : TxR w t Ai ni ci Ao no co) :
    Calls Tryd.prog 19 #[.agg (txV t.ver Ai ni ci Ao no co t.lock).toArray] w fun e w' => e = .returned (.bool (decide (May t))) ∧ Below w.heap.size w w' := by
  have NI := Lib.hid hT.ins.len
  have NO := Lib.hid hT.outs.len
  have okT := Lib.hid hT.ok
  have hni := hT.i2
  have hno := hT.o2
  have b0 := (Below.refl w.heap.size w).alloc (Nat.le_refl _) (.cells (txV t.ver Ai ni ci Ao no co t.lock).toArray 26)
  have r0 := Ro.new w 26 (txV t.ver Ai ni ci Ao no co t.lock)
  have hT1 := hT.later b0
  obtain ⟨wb, hwb⟩ : ∃ wb, w.alloc (.cells (txV t.ver Ai ni ci Ao no co t.lock).toArray 26) = wb := ⟨_, rfl⟩
  rw [hwb] at b0 r0 hT1
  obtain ⟨bx, hbx⟩ : ∃ q, w.heap.size = q := ⟨_, rfl⟩
  rw [hbx] at r0
  have B0 := Lib.hid b0
  have HTX : Hid (∀ u, Below wb.heap.size wb u → Ro u bx 26 (txV t.ver Ai ni ci Ao no co t.lock)) := Lib.hid (fun u g => r0.later g)
  have lT := Lib.hid (txV_len t.ver Ai ni ci Ao no co t.lock)
  have HT := Lib.hid hT1
  have CP : Hid (∀ u, Below wb.heap.size wb u → Calls Tryd.prog 13 #[.agg (txV t.ver Ai ni ci Ao no co t.lock).toArray] u (GivesB u (putS t))) := Lib.hid (fun u g => txPut_any u hw (hT1.later g))
  have hmm := @run_makeMap Tryd.prog
  have M0 := Lib.hid (MP.made wb)
  have BM := Lib.hid ((Below.refl wb.heap.size wb).alloc (Nat.le_refl _) (.map #[] 0))
  have a1 := (HTX.out wb (Below.refl _ _)).cell (k := 1) (v := .slice Ai ni ci) rfl
  have a2 := (HTX.out wb (Below.refl _ _)).cell (k := 2) (v := .slice Ao no co) rfl
  obtain ⟨v, hv⟩ : ∃ v, t.ver = v := ⟨_, rfl⟩
  obtain ⟨lk, hlk⟩ : ∃ v, t.lock = v := ⟨_, rfl⟩
  rw [hv] at hwb HTX lT CP
  rw [hlk] at hwb HTX lT CP
  rw [hv, hlk]
  clear hT hT1 b0 r0 hv hlk
  go_enter Tryd.func19, Tryd.ntmps19
  by_cases h1 : ni = 0
  · have t0 : ((ni : Int) == 0) = true := by rw [beq_iff_eq]; omega
    have N := Lib.hid (show ¬ May t from fun m => m.ins (List.eq_nil_of_length_eq_zero (by rw [NI.out]; exact h1)))
    clear h1
    go_wp2_with fail
    go_ret
    exact ⟨by rw [decide_eq_false N.out]; rfl, B0.out⟩
  have t0 : ((ni : Int) == 0) = false := by rw [beq_eq_false_iff_ne]; omega
  by_cases h2 : no = 0
  · have t1 : ((no : Int) == 0) = true := by rw [beq_iff_eq]; omega
    have N := Lib.hid (show ¬ May t from fun m => m.outs (List.eq_nil_of_length_eq_zero (by rw [NO.out]; exact h2)))
    clear h2
    go_wp2_with fail
    go_ret
    exact ⟨by rw [decide_eq_false N.out]; rfl, B0.out⟩
  have t1 : ((no : Int) == 0) = false := by rw [beq_eq_false_iff_ne]; omega
  obtain ⟨bm, hbm⟩ : ∃ q, wb.heap.size = q := ⟨_, rfl⟩
  have HBM := Lib.hid hbm
  have a3 : (wb.alloc (.map #[] 0)).cell? ⟨bx, 1, none⟩ = some (.slice Ai ni ci) := (HTX.out _ BM.out).cell (k := 1) rfl
  rw [hbm] at M0
  go_wp2_with fail
  clear hmm t0 t1 a1 a2 a3 hwb hbx hbm
  go_loopw [23] (fun i wr => ∃ k : Nat, k ≤ ni ∧ i = .int .i64 (k : Nat) ∧ ((t.ins.take k).map fun i => (i.h, i.n)).Nodup ∧ MP wr bm k ((t.ins.take k).map fun i => (i.h, i.n)) ∧ Below wb.heap.size wb wr) (fun i _ => ni - (intOf i).toNat)
  case atStart => exact ⟨0, Nat.zero_le _, rfl, List.nodup_nil, M0.out, BM.out⟩
  case round =>
    clear M0 BM
    obtain ⟨k, hk, rfl, hnd, hM, bel⟩ := hrel
    have ND := Lib.hid hnd
    have HM := Lib.hid hM
    have BW := Lib.hid bel
    clear hnd hM bel
    by_cases hlt : k < ni
    · have t2 : decide ((k : Int) < (ni : Int)) = true := decide_eq_true (by omega)
      obtain ⟨i, hi, htk, him⟩ := getL NI.out hlt
      have TK := Lib.hid (froms_take htk)
      have okI := Lib.hid (okT.out.ins i him)
      have OP : Hid (OkP (i.h, i.n)) := Lib.hid ⟨okI.out.h, okI.out.hb, okI.out.n⟩
      obtain ⟨b1, o1, _, rfl, _⟩ := HT.out.ins.cel (by omega)
      have ad1 := add_at b1 o1
      obtain ⟨hb1, V1, hV1, hr1, As, ns, cs, Aw, nw, cw, rfl, hI⟩ := HT.out.ins.nth hi
      have R1 := Lib.hid (range_later hr1 hb1 BW.out)
      have W1 := Lib.hid hV1
      have z0 := zeroIn
      clear hi htk him hV1 hr1 hb1 hI
      go_wp2_with (first | (refine wpList_load_part rfl (.tmp 25) rfl rfl rowIn R1.out W1.out ?_) | (refine wpList_store_ro rfl (.tmp 5) (.tmp 26) rfl rfl rfl rowIn (Ro.new wr 56 zIn) zIn_len W1.out (inV_one _ _ _ _ _ _ _ _ _) ?_))
      intro w2 R2 g2
      have bb := box_store g2
      have HM2 := Lib.hid (HM.out.later bb)
      have BW2 := Lib.hid (BW.out.trans (bb.mono BW.out.size))
      have F2 := Lib.hid (from_range R2.whole)
      have l2 := Lib.hid (fromV_len okI.out.h i.n)
      have NEQ : Hid (wr.heap.size ≠ bm) := Lib.hid (by have := HM.out.lt; omega)
      obtain ⟨q, hq⟩ : ∃ q, wr.heap.size = q := ⟨_, rfl⟩
      rw [hq] at F2 NEQ
      rw [hq]
      have lk2 := HM2.out.look OP.out
      have GE : Hid (wb.heap.size ≤ bm) := Lib.hid (by rw [HBM.out]; exact Nat.le_refl _)
      clear R2 g2 bb HM BW R1 z0 hq
      obtain ⟨F, hF⟩ : ∃ F, fromV i.h i.n = F := ⟨_, rfl⟩
      have HF := Lib.hid hF
      have lk3 : (Instr.lookup 62 (.map (some bm)) (.agg F.toArray) false).run Tryd.prog w2 = .ok (.bool (decide ((i.h, i.n) ∈ (t.ins.take k).map fun i => (i.h, i.n)))) w2 := by rw [← hF]; exact lk2
      rw [hF] at F2 l2
      clear hF lk2
      by_cases hs : (i.h, i.n) ∈ (t.ins.take k).map fun i => (i.h, i.n)
      · rw [decide_eq_true hs] at lk3
        have N := Lib.hid (show ¬ May t from fun m => by
          have := froms_sub t.ins (k + 1) m.apart
          rw [TK.out] at this
          exact (nodup_snoc.1 this).2 hs)
        clear hs
        go_wp2_with (refine wpList_load_part rfl (.tmp 28) rfl rfl rowPlace F2.out l2.out ?_)
        go_ret
        exact ⟨by rw [decide_eq_false N.out]; rfl, B0.out.trans (BW2.out.mono B0.out.size)⟩
      · rw [decide_eq_false hs] at lk3
        have NX := Lib.hid (show ((t.ins.take (k + 1)).map fun i => (i.h, i.n)).Nodup by rw [TK.out]; exact nodup_snoc.2 ⟨ND.out, hs⟩)
        clear hs
        go_wp2_with (first | (refine wpList_load_part rfl (.tmp 28) rfl rfl rowPlace F2.out l2.out ?_) | (refine wpList_load_part rfl (.tmp 32) rfl rfl rowPlace F2.out l2.out ?_) | (refine wpList_putP rfl (.tmp 31) (.tmp 33) rfl rfl (by rw [HF.out]; rfl) HM2.out (by unfold maxLen; omega) OP.out ?_))
        intro w3 HM3 g3
        have M3 := Lib.hid HM3
        have B3 := Lib.hid (BW2.out.grown g3 BW2.out.size (fun q e => by injection e with e; rw [← e]; exact GE.out))
        clear HM3 g3 lk3
        go_wp2_with fail
        refine ⟨⟨k + 1, by omega, by go_num, NX.out, ?_, B3.out⟩, by simp [intOf]; omega⟩
        rw [TK.out]
        have := M3.out
        rw [← List.map_take] at this
        exact this
    · have t2 : decide ((k : Int) < (ni : Int)) = false := decide_eq_false (by omega)
      obtain rfl : k = ni := by omega
      have ND2 := Lib.hid (show (froms t).Nodup by
        have := ND.out
        rw [List.take_of_length_le (by rw [NI.out]; exact Nat.le_refl _)] at this
        exact this)
      have a2 := (HTX.out wr BW.out).cell (k := 2) (v := .slice Ao no co) rfl
      clear ND HM
      go_wp2_with fail
      clear t2 a2
      go_loopw [6, 38] (fun sv i wr => ∃ j : Nat, j ≤ no ∧ i = .int .i64 (j : Nat) ∧ sv = .int .u64 (moneyS (t.outs.take j) : Nat) ∧ moneyS (t.outs.take j) ≤ 2100000000000000 ∧ Below wb.heap.size wb wr) (fun _ i _ => no - (intOf i).toNat)
      case atStart => exact ⟨0, Nat.zero_le _, rfl, rfl, Nat.zero_le _, BW.out⟩
      case round =>
        clear BW
        obtain ⟨j, hj, rfl, rfl, hm, bel⟩ := hrel
        have BW := Lib.hid bel
        clear bel
        obtain ⟨S, hS⟩ : ∃ S, moneyS (t.outs.take j) = S := ⟨_, rfl⟩
        rw [hS] at hm ⊢
        have HS := Lib.hid hS
        clear hS
        by_cases hlt : j < no
        · have t2 : decide ((j : Int) < (no : Int)) = true := decide_eq_true (by omega)
          obtain ⟨d, hi, htk, him⟩ := getL NO.out hlt
          have TK := Lib.hid (money_take htk)
          have okD := okT.out.outs d him
          obtain ⟨b1, o1, _, rfl, _⟩ := HT.out.outs.cel (by omega)
          have ad1 := add_at b1 o1
          obtain ⟨hb1, V1, hV1, hr1, As, ns, cs, rfl, hI⟩ := HT.out.outs.nth hi
          have R1 := Lib.hid (range_later hr1 hb1 BW.out)
          have W1 := Lib.hid hV1
          have z0 := zeroOut
          have vb := okD.v
          obtain ⟨xv, hxv⟩ : ∃ z, d.v = z := ⟨_, rfl⟩
          rw [hxv] at R1 W1 vb TK
          rw [HS.out] at TK
          clear hi htk him hV1 hr1 hb1 hI okD hxv
          go_wp2_with (first | (refine wpList_load_part rfl (.tmp 40) rfl rfl rowOut R1.out W1.out ?_) | (refine wpList_store_ro rfl (.tmp 8) (.tmp 41) rfl rfl rfl rowOut (Ro.new wr 46 zOut) rfl W1.out (outV_one _ _ _ _) ?_))
          intro w2 R2 g2
          have bb := box_store g2
          have BW2 := Lib.hid (BW.out.trans (bb.mono BW.out.size))
          have c0 := R2.cell (k := 0) (v := .int .u64 (xv : Int)) rfl
          obtain ⟨q, hq⟩ : ∃ q, wr.heap.size = q := ⟨_, rfl⟩
          rw [hq] at c0
          rw [hq]
          have y1 : IntKind.u64.wrap (2100000000000000 - (S : Int)) = 2100000000000000 - (S : Int) := by rw [IntKind.wrap_u64]; omega
          have y3 : (2100000000000000 - (S : Int)) % 18446744073709551616 = 2100000000000000 - (S : Int) := by omega
          clear R2 g2 bb BW R1 z0 hq
          by_cases hg : (2100000000000000 - (S : Int)) < (xv : Int)
          · have t3 : decide ((2100000000000000 - (S : Int)) < (xv : Int)) = true := decide_eq_true hg
            have N := Lib.hid (show ¬ May t from fun m => by
              have h1 := m.money
              have h2 := sum_take t.outs (j + 1)
              rw [TK.out] at h2
              omega)
            go_wp2_with fail
            go_ret
            exact ⟨by rw [decide_eq_false N.out]; rfl, B0.out.trans (BW2.out.mono B0.out.size)⟩
          · have t3 : decide ((2100000000000000 - (S : Int)) < (xv : Int)) = false := decide_eq_false hg
            have y2 : IntKind.u64.wrap ((S : Int) + (xv : Int)) = (S : Int) + (xv : Int) := by rw [IntKind.wrap_u64]; omega
            have y4 : ((S : Int) + (xv : Int)) % 18446744073709551616 = (S : Int) + (xv : Int) := by omega
            go_wp2_with fail
            exact ⟨⟨j + 1, by omega, by go_num, by rw [TK.out]; simp, by rw [TK.out]; omega, BW2.out⟩, by simp [intOf]; omega⟩
        · have t2 : decide ((j : Int) < (no : Int)) = false := decide_eq_false (by omega)
          obtain rfl : j = no := by omega
          have MM := Lib.hid (show moneyS t.outs ≤ 2100000000000000 by
            have := HS.out
            rw [List.take_of_length_le (by rw [NO.out]; exact Nat.le_refl _)] at this
            omega)
          have RX := Lib.hid (HTX.out wr BW.out)
          have CC := Lib.hid (CP.out wr BW.out)
          have IN := Lib.hid (show t.ins ≠ [] from fun e => h1 (by rw [← NI.out, e]; rfl))
          have ON := Lib.hid (show t.outs ≠ [] from fun e => h2 (by rw [← NO.out, e]; rfl))
          go_wp2_with (refine wpList_load_ro rfl (.tmp 1) rfl rfl rowTx RX.out lT.out ?_)
          refine CC.out.mono ?_
          rintro e w3 ⟨A, N, c, rfl, hc, O⟩
          have LN := Lib.hid O.len
          have B3 := Lib.hid (B0.out.trans ((BW.out.trans (O.bel.mono BW.out.size)).mono B0.out.size))
          clear O CC
          go_wp2_with fail
          go_ret
          refine ⟨?_, B3.out⟩
          have : decide (May t) = decide (N ≤ 16384) := by
            rw [decide_eq_decide]
            exact ⟨fun m => by rw [← LN.out]; exact m.size, fun h => ⟨IN.out, ON.out, ND2.out, MM.out, by rw [LN.out]; exact h⟩⟩
          rw [this]
          simp
          omega
end Go.Proofs.YtbdjcbdnhaddoaaDoor
