/- Add, as the reference says it. No condition but bounds. -/
import Derived.Test.YtjcphpmlekfhdaaGreatDoorRvB
import Derived.Test.YtjcphpmlekfhdaaGreatDoorGk
import Derived.Test.YtjcphpmlekfhdaaGreatDoorGg
import Derived.BigQuiet
import Derived.BigRegion
import Derived.Deep.RegionLaw
namespace Go.Proofs.YtjcphpmlekfhdaaGreatDoor
open Go.RowKit
attribute [local go_sem] Oper.semAt_some
section
variable {w0 w : World} {r v file gen count k n c : Nat} {failed : Bool} {X : Nat → Prop} {S : Dk} {A : Option Addr} {l : List (List Nat)}
theorem rows_byt {P : Nat → Prop} (h : Rows w P 1 ByR A n l) : ∀ x ∈ l, AllB x := by
  intro x hx
  obtain ⟨i, hi, rfl⟩ := List.getElem_of_mem hx
  obtain ⟨b, o, rfl⟩ := rows_some h (by have := h.len; omega)
  obtain ⟨_, B1, cb, _, _, _, _, hbs⟩ := by_at h hi
  exact hbs.bs.byt
theorem framesS_byt {g : Nat} : ∀ {l : List (List Nat)} {k : Nat}, (∀ x ∈ l, AllB x) → AllB (framesS g k l)
  | [], _, _ => fun x hx => by cases hx
  | r :: l, k, h => by
    rw [framesS]
    refine allB_app ?_ (framesS_byt fun x hx => h x (List.mem_cons_of_mem _ hx))
    unfold frameS bodyS fchkS
    exact allB_app (allB_app (lw_byt _ _) (h r (List.mem_cons_self ..))) (chkS_byt _)
/-- What a call of the reference's vault leaves. -/
def RVtP (w0 : World) (r v : Nat) (X : Nat → Prop) (w : World) (x : Int) (S : Dk) (file gen count : Nat) (failed : Bool) (e : Ending) (W : World) : Prop :=
  e = .returned (.int .i64 x) ∧ Rp w0 r X S W ∧ Ro W v 78 (rvV r file gen count failed) ∧ Kept (fun b => X b ∧ b ≠ v) w W
set_option maxRecDepth 100000 in
set_option maxHeartbeats 1000000 in
theorem told_any (D : Rp w0 r X S w) (xv : X v) (lo : w0.heap.size ≤ v) (V : Ro w v 78 (rvV r file gen count failed)) (x : Int) {b : Bool} (hb : (x != 0) = b) :
    Calls Tryz.prog 66 #[.pointer (some ⟨v, 0, none⟩), .int .i64 x] w (RVtP w0 r v X w x S file gen count b) := by
  have x0 := V.cell (k := 0) rfl
  have x4 := V.cell (k := 4) rfl
  have y4 := V.free 4
  have FIN : Hid (RVtP w0 r v X w x S file gen count b (.returned (.int .i64 x)) (w.setCell ⟨v, 4, none⟩ (.bool b))) := Lib.hid ⟨rfl, D.keep ⟨Nat.le_of_eq (by simp), fun q hq _ => Below.heap_setCell _ ⟨v, 4, none⟩ _ q (fun e => hq (by rw [e]; exact xv))⟩ (D.bel.setCell (p := ⟨v, 4, none⟩) lo _), V.set 4 _, ⟨Nat.le_of_eq (by simp), fun q hq _ => Below.heap_setCell _ ⟨v, 4, none⟩ _ q hq.2⟩⟩
  clear D xv lo V
  go_enter Tryz.func66, Tryz.ntmps66
  go_wp2_with fail
  go_ret
  exact FIN.out
set_option maxRecDepth 100000 in
set_option maxHeartbeats 8000000 in
theorem radd_any (D : Rp w0 r X S w) (lt : Ltk k S) (hk : k ≤ 10) (xv : X v) (lo : w0.heap.size ≤ v) (V : Ro w v 78 (rvV r file gen count failed)) (hR : Rows w anyP 1 ByR A n l) (hn : n ≤ 16384) (hw : wideS l ≤ 1048576) (hg : gen < 18446744073709551616) (hc : count ≤ 4611686018427387904) :
    Calls Tryz.prog 28 #[.pointer (some ⟨v, 0, none⟩), .slice A n c] w (RVtP w0 r v X w (addT failed file gen count l S).1 (addT failed file gen count l S).2.1 file gen (addT failed file gen count l S).2.2.1 (addT failed file gen count l S).2.2.2) := by
  have x0 := V.cell (k := 0) rfl
  have x4 := V.cell (k := 4) rfl
  have HD := Lib.hid D
  have HV := Lib.hid V
  have HXV := Lib.hid xv
  have HLO := Lib.hid lo
  have HLT := Lib.hid lt
  have CL := Lib.hid (rlong_any (c := c) w (by omega) hR)
  have HR := Lib.hid hR
  have hln := hR.len
  clear D V xv lo lt hR
  obtain ⟨q, hq⟩ : ∃ q, addT failed file gen count l S = q := ⟨_, rfl⟩
  rw [hq]
  cases failed with
  | true =>
    have e : q = (3, S, count, true) := by rw [← hq]; unfold addT mayN; rw [if_pos rfl, if_neg (by decide)]
    subst e
    have FIN : Hid (RVtP w0 r v X w 3 S file gen count true (.returned (.int .i64 3)) w) := Lib.hid ⟨rfl, HD.out, HV.out, Kept.same _ _⟩
    clear hq CL
    go_enter Tryz.func28, Tryz.ntmps28
    go_wp2_with fail
    go_ret
    exact FIN.out
  | false =>
    cases hL : longS l with
    | true =>
      have e : q = (1, S, count, false) := by rw [← hq]; unfold addT mayN; rw [hL]; rfl
      subst e
      rw [hL] at CL
      have FIN : Hid (RVtP w0 r v X w 1 S file gen count false (.returned (.int .i64 1)) w) := Lib.hid ⟨rfl, HD.out, HV.out, Kept.same _ _⟩
      clear hq hL
      go_enter Tryz.func28, Tryz.ntmps28
      go_wp2_with fail
      refine (CL.out).mono ?_
      rintro e w1 ⟨rfl, hw⟩
      obtain rfl := hw
      go_wp2_with fail
      go_ret
      exact FIN.out
    | false =>
      rw [hL] at CL
      have hq2 : addS file gen count l S = q := by
        rw [← hq]
        unfold addT mayN
        rw [hL]
        rfl
      have HQ := Lib.hid hq2
      have hfb : AllB (framesS gen count l) := framesS_byt (rows_byt HR.out)
      have hfl := framesS_len gen count l
      have CFr' := fun u (b : Below w.heap.size w u) => rframes_any (g := gen) (k := count) (c := c) u hg hc (by omega) (Rows.later byM HR.out b)
      have RB := Lib.hid fun w => run_bytes hfb (by omega) w
      obtain ⟨F, hF⟩ : ∃ F, framesS gen count l = F := ⟨_, rfl⟩
      have HF := Lib.hid hF
      rw [hF] at CFr' RB hfl hfb
      have hsz : (strB F).size = wideS l := by rw [strB_size, hfl]
      obtain ⟨sf, hsf⟩ : ∃ s, strB F = s := ⟨_, rfl⟩
      unfold GivesS at CFr'
      rw [hsf] at CFr' RB hsz
      rw [hfl] at RB
      have CFr := Lib.hid CFr'
      obtain ⟨z, hz⟩ : ∃ z, wideS l = z := ⟨_, rfl⟩
      rw [hz] at hsz RB hw
      have HZ := Lib.hid hz
      clear hq hL CFr' hF hsf hz hq2 hfb hfl
      go_enter Tryz.func28, Tryz.ntmps28
      go_wp2_with fail
      refine (CL.out).mono ?_
      rintro e w1 ⟨rfl, hw⟩
      obtain rfl := hw
      clear CL
      go_wp2_with fail
      refine wp_region_seg (by kernel_rfl) fun wa ga => ?_
      refine wpK_seg 0 11 (f := 0) (by kernel_rfl) (fun _ _ _ _ _ h => h) (by kernel_rfl) (by kernel_rfl) (by kernel_rfl) (ga) ?_
      apply Exists.intro
      refine ⟨?_, ?_⟩
      · intro wg hg2
        simp only [List.drop_succ_cons, List.drop_zero, List.take_succ_cons, List.take_zero]
        have BG := Lib.hid hg2
        have z0 : ∀ u : After wg, u.w.cell? ⟨v, 0, none⟩ = some (.pointer (some ⟨r, 0, none⟩)) := fun u => ((HV.out.later BG.out).later u.below).cell (k := 0) rfl
        have z2 : ∀ u : After wg, u.w.cell? ⟨v, 2, none⟩ = some (.int .u64 (gen : Int)) := fun u => ((HV.out.later BG.out).later u.below).cell (k := 2) rfl
        have z3 : ∀ u : After wg, u.w.cell? ⟨v, 3, none⟩ = some (.int .i64 (count : Int)) := fun u => ((HV.out.later BG.out).later u.below).cell (k := 3) rfl
        have C1 : Hid (∀ u : After wg, Calls Tryz.prog 68 #[.int .u64 (gen : Int), .int .i64 (count : Int), .slice A n c] u.w fun e W => e = .returned (.string sf) ∧ Below u.w.heap.size u.w W) := Lib.hid fun u => CFr.out u.w (Below.trans BG.out (u.below.mono BG.out.size))
        repeat (go_big_quiet_step (first | (with_reducible exact after_call (C1.out _))))
        refine wpQuiet_nil ?_
        exact rfl
      refine wpK_end (by kernel_rfl) ?_
      intro wf gf
      have bf : Below w1.heap.size w1 wf := Grows.trans ga gf
      have HBF := Lib.hid bf
      clear bf gf ga CFr
      have CRm := Lib.hid (rroom_p (HD.out.later HBF.out) (HLT.out.lt (by omega)))
      have x0 := (HV.out.later HBF.out).cell (k := 0) rfl
      obtain ⟨rm, hrm⟩ : ∃ rm, S.room = rm := ⟨_, rfl⟩
      have HRM := Lib.hid hrm
      rw [hrm] at CRm
      clear hrm
      go_wp2_with fail
      refine (CRm.out).mono ?_
      rintro e w2 ⟨rfl, b2⟩
      have HB2 := Lib.hid (HBF.out.trans (b2.mono HBF.out.size))
      clear b2 CRm HBF
      by_cases h7 : rm < z
      · have e : q = (7, S, count, false) := by rw [← HQ.out]; unfold addS; rw [if_pos (by rw [HRM.out, HZ.out]; exact h7)]
        subst e
        have t7 : decide (rm < z) = true := decide_eq_true h7
        have FIN : Hid (RVtP w0 r v X w1 7 S file gen count false (.returned (.int .i64 7)) w2) := Lib.hid ⟨rfl, HD.out.later HB2.out, HV.out.later HB2.out, Kept.of_below HB2.out⟩
        clear h7
        go_wp2_with fail
        go_ret
        exact FIN.out
      have t7 : decide (rm < z) = false := decide_eq_false h7
      by_cases h0 : n = 0
      · subst h0
        have hl0 : l = [] := List.length_eq_zero_iff.1 hln
        have e : q = (0, S, count, false) := by rw [← HQ.out]; unfold addS; rw [if_neg (by rw [HRM.out, HZ.out]; exact h7), if_pos hl0]
        subst e
        have FIN : Hid (RVtP w0 r v X w1 0 S file gen count false (.returned (.int .i64 0)) w2) := Lib.hid ⟨rfl, HD.out.later HB2.out, HV.out.later HB2.out, Kept.of_below HB2.out⟩
        clear h7
        go_wp2_with fail
        go_ret
        exact FIN.out
      have t8 : ((n : Int) == 0) = false := by rw [beq_eq_false_iff_ne]; omega
      have hl0 : l ≠ [] := fun e => h0 (by rw [← hln, e]; rfl)
      obtain ⟨x1, S1, e1⟩ : ∃ x1 S1, S.write (file : Nat) F = (x1, S1) := ⟨_, _, rfl⟩
      obtain ⟨x2, S2, e2⟩ : ∃ x2 S2, S1.sync (file : Nat) = (x2, S2) := ⟨_, _, rfl⟩
      have L1 : Ltk (k + 1) S1 := by have := HLT.out.write (file : Nat) F; rw [e1] at this; exact this
      have hqq : (if x1 = 0 then (if x2 = 0 then ((0 : Int), S2, count + n, false) else (x2, S2, count, true)) else (x1, S1, count, true)) = q := by
        have e0 : addS file gen count l S = ((seqS [fun S => S.write (file : Nat) (framesS gen count l), fun S => S.sync (file : Nat)] S).1, (seqS [fun S => S.write (file : Nat) (framesS gen count l), fun S => S.sync (file : Nat)] S).2, if (seqS [fun S => S.write (file : Nat) (framesS gen count l), fun S => S.sync (file : Nat)] S).1 = 0 then count + l.length else count, (seqS [fun S => S.write (file : Nat) (framesS gen count l), fun S => S.sync (file : Nat)] S).1 != 0) := by
          unfold addS
          rw [if_neg (by rw [HRM.out, HZ.out]; exact h7), if_neg hl0]
        rw [← HQ.out, e0, HF.out, seq_cons _ _ (show (fun S : Dk => S.write (file : Nat) F) S = _ from e1), seq_cons _ _ (show (fun S : Dk => S.sync (file : Nat)) S1 = _ from e2), hln]
        by_cases hx1 : x1 = 0
        · rw [if_pos hx1, if_pos hx1]
          by_cases hx2 : x2 = 0
          · rw [if_pos hx2, if_pos hx2]
            rfl
          · rw [if_neg hx2, if_neg hx2]
            dsimp only
            rw [if_neg hx2]
            have : (x2 != 0) = true := by rw [bne_iff_ne]; exact hx2
            rw [this]
        · rw [if_neg hx1, if_neg hx1]
          dsimp only
          rw [if_neg hx1]
          have : (x1 != 0) = true := by rw [bne_iff_ne]; exact hx1
          rw [this]
      have HQQ := Lib.hid hqq
      obtain ⟨c4, w4, r4, k4, m4, z4, B4, b4⟩ := RB.out w2.drew
      have b24 : Below w2.heap.size w2 w4 := (Below.refl _ _).drew.trans b4
      have D2 := HD.out.later HB2.out
      have V2 := HV.out.later HB2.out
      have D4 : Rp w0 r (fun b => X b ∨ (w2.heap.size ≤ b ∧ b < w4.heap.size)) S w4 := D2.wide (Kept.of_below b24) (D2.bel.trans (b24.mono D2.bel.size)) fun b hb => hb
      have CW : Hid (Calls Tryz.prog 64 #[.pointer (some ⟨r, 0, none⟩), .int .i64 (file : Int), .slice (some ⟨w2.heap.size, 0, none⟩) z c4] w4 (RStep w0 r (fun b => X b ∨ (w2.heap.size ≤ b ∧ b < w4.heap.size)) w4 x1 S1)) := Lib.hid (rwrite_p (c := c4) D4 (HLT.out.lt (by omega)) (file : Nat) B4 (fun a e => by injection e with e; subst e; exact .inr ⟨Nat.le_refl _, z4⟩) (x := x1) (S' := S1) (congrArg Prod.fst e1) (congrArg Prod.snd e1))
      have x0 := V2.cell (k := 0) rfl
      have x1' := V2.cell (k := 1) rfl
      have x0d : w2.drew.cell? ⟨v, 0, none⟩ = some (.pointer (some ⟨r, 0, none⟩)) := x0
      have x1d : w2.drew.cell? ⟨v, 1, none⟩ = some (.int .i64 (file : Nat)) := x1'
      have x04 := (V2.later b24).cell (k := 0) rfl
      have x14 := (V2.later b24).cell (k := 1) rfl
      have HB4 := Lib.hid (HB2.out.trans (b24.mono HB2.out.size))
      have H1e := Lib.hid e1
      have H2e := Lib.hid e2
      have HL1 := Lib.hid L1
      clear hqq e1 e2 L1 h7 k4 m4 z4 B4 b4 b24 D2 V2 D4 RB h0 hl0 HB2
      go_wp2_with fail
      go_region_law (first | (go_simp; (with_reducible refine (CW.out).mono ?_); rintro e w5 ⟨rfl, D5', K5'⟩; have D5 := Lib.hid D5'; have K5 := Lib.hid K5'; clear D5' K5'; go_simp))
      all_goals
        have HD5 : Hid (Rp w0 r X S1 w5) := Lib.hid (D5.out.narrow fun b hb => .inl hb)
        have HK5 : Hid (Kept X w1 w5) := Lib.hid ((Kept.of_below HB4.out).trans' (K5.out.narrow fun b hb => .inl hb))
        have HV5 : Hid (Ro w5 v 78 (rvV r file gen count false)) := Lib.hid ((HK5.out.blk v HXV.out HV.out.lt).trans HV.out)
        clear D5 K5 CW
        by_cases hx1 : ¬ x1 = 0
        · obtain rfl : (x1, S1, count, true) = q := by rw [← HQQ.out]; simp [hx1]
          have t1 : (x1 == 0) = false := beq_eq_false_iff_ne.2 hx1
          have CT := Lib.hid (told_any HD5.out HXV.out HLO.out HV5.out x1 (b := true) (by rw [bne_iff_ne]; exact hx1))
          clear hx1
          go_wp2_with fail
          refine (CT.out).mono ?_
          rintro e w6 ⟨rfl, D6, V6, K6⟩
          have FIN : Hid (RVtP w0 r v X w1 x1 S1 file gen count true (.returned (.int .i64 x1)) w6) := Lib.hid ⟨rfl, D6, V6, (HK5.out.narrow fun b hb => hb.1).trans' K6⟩
          clear D6 V6 K6
          go_wp2_with fail
          go_ret
          exact FIN.out
        obtain rfl := Classical.not_not.1 hx1
        have HQA : Hid (¬ x2 = 0 → (x2, S2, count, true) = q) := Lib.hid fun h => by rw [← HQQ.out]; simp [h]
        have HQB : Hid (x2 = 0 → ((0 : Int), S2, count + n, false) = q) := Lib.hid fun h => by rw [← HQQ.out]; simp [h]
        clear hx1 HQQ HQ x0 x1' x0d x1d x04 x14 r4
        have x0 := HV5.out.cell (k := 0) rfl
        have x1'' := HV5.out.cell (k := 1) rfl
        have x0d : w5.drew.cell? ⟨v, 0, none⟩ = some (.pointer (some ⟨r, 0, none⟩)) := x0
        have x1d : w5.drew.cell? ⟨v, 1, none⟩ = some (.int .i64 (file : Nat)) := x1''
        have CY := Lib.hid (rsync_p (HD5.out.later (Below.refl w5.heap.size w5).drew) (HL1.out.lt (by omega)) (file : Nat) (congrArg Prod.fst H2e.out) (congrArg Prod.snd H2e.out))
        go_wp2_with fail
        go_region_law (first | (go_simp; (with_reducible refine (CY.out).mono ?_); rintro e w6 ⟨rfl, D6', K6'⟩; have D6 := Lib.hid D6'; have K6 := Lib.hid K6'; clear D6' K6'; go_simp))
        all_goals
          have HK6 : Hid (Kept X w1 w6) := Lib.hid (HK5.out.trans' ((Kept.of_below (Below.refl w5.heap.size w5).drew).trans' K6.out))
          have HV6 : Hid (Ro w6 v 78 (rvV r file gen count false)) := Lib.hid ((HK6.out.blk v HXV.out HV.out.lt).trans HV.out)
          clear K6 CY
          by_cases hx2 : ¬ x2 = 0
          · obtain rfl := HQA.out hx2
            have t1 : (x2 == 0) = false := beq_eq_false_iff_ne.2 hx2
            have CT := Lib.hid (told_any D6.out HXV.out HLO.out HV6.out x2 (b := true) (by rw [bne_iff_ne]; exact hx2))
            clear hx2
            go_wp2_with fail
            refine (CT.out).mono ?_
            rintro e w7 ⟨rfl, D7, V7, K7⟩
            have FIN : Hid (RVtP w0 r v X w1 x2 S2 file gen count true (.returned (.int .i64 x2)) w7) := Lib.hid ⟨rfl, D7, V7, (HK6.out.narrow fun b hb => hb.1).trans' K7⟩
            clear D7 V7 K7
            go_wp2_with fail
            go_ret
            exact FIN.out
          obtain rfl := Classical.not_not.1 hx2
          clear hx2
          obtain rfl := HQB.out rfl
          have x0 := HV6.out.cell (k := 0) rfl
          have x3 := HV6.out.cell (k := 3) rfl
          have y3 := HV6.out.free 3
          have W1 : IntKind.i64.wrap ((count : Int) + (n : Int)) = ((count + n : Nat) : Int) := by rw [IntWalk.i64_in _ (by omega)]; omega
          obtain ⟨w7, hw7⟩ : ∃ w7, w6.setCell ⟨v, 3, none⟩ (.int .i64 ((count : Int) + (n : Int))) = w7 := ⟨_, rfl⟩
          have HD7 : Hid (Rp w0 r X S2 w7) := Lib.hid (by rw [← hw7]; exact D6.out.keep ⟨Nat.le_of_eq (by simp), fun q hq _ => Below.heap_setCell _ ⟨v, 3, none⟩ _ q (fun e => hq (by rw [e]; exact HXV.out))⟩ (D6.out.bel.setCell (p := ⟨v, 3, none⟩) HLO.out _))
          have HV7 : Hid (Ro w7 v 78 (rvV r file gen (count + n) false)) := Lib.hid (by rw [← hw7, ← Int.natCast_add]; exact HV6.out.set 3 _)
          have HK7 : Hid (Kept (fun b => X b ∧ b ≠ v) w1 w7) := Lib.hid ((HK6.out.narrow fun b hb => hb.1).trans' (by rw [← hw7]; exact ⟨Nat.le_of_eq (by simp), fun q hq _ => Below.heap_setCell _ ⟨v, 3, none⟩ _ q hq.2⟩))
          have CT := Lib.hid (told_any HD7.out HXV.out HLO.out HV7.out 0 (b := false) rfl)
          go_wp2_with fail
          refine (CT.out).mono ?_
          rintro e w8 ⟨rfl, D8, V8, K8⟩
          have FIN : Hid (RVtP w0 r v X w1 0 S2 file gen (count + n) false (.returned (.int .i64 0)) w8) := Lib.hid ⟨rfl, D8, V8, HK7.out.trans' K8⟩
          clear D8 V8 K8 hw7 CT
          go_wp2_with fail
          go_ret
          exact FIN.out
end
end Go.Proofs.YtjcphpmlekfhdaaGreatDoor
