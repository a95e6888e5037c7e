/- Compact, as the reference says it. No condition but bounds. -/
import Derived.Test.YtjcphpmlekfhdaaGreatDoorRvC
namespace Go.Proofs.YtjcphpmlekfhdaaGreatDoor
open Go.RowKit
attribute [local go_sem] Oper.semAt_some
section
variable {w0 w : World} {r v file gen count k n c : Nat} {failed : Bool} {X : Nat → Prop} {S : Dk} {A : Option Addr} {l : List (List Nat)}
set_option maxRecDepth 100000 in
set_option maxHeartbeats 8000000 in
theorem rcompact_any (D : Rp w0 r X S w) (lt : Ltk k S) (hk : k ≤ 10) (xv : X v) (lo : w0.heap.size ≤ v) (V : Ro w v 78 (rvV r file gen count failed)) (hR : Rows w anyP 1 ByR A n l) (hn : n ≤ 16384) (hw : wideS l ≤ 1048576) (hg : gen < 18446744073709551616) (hf : file ≤ 1) :
    Calls Tryz.prog 27 #[.pointer (some ⟨v, 0, none⟩), .slice A n c] w (RVtP w0 r v X w (compactT failed file gen count l S).1 (compactT failed file gen count l S).2.1 (compactT failed file gen count l S).2.2.1 (compactT failed file gen count l S).2.2.2.1 (compactT failed file gen count l S).2.2.2.2.1 (compactT failed file gen count l S).2.2.2.2.2) := by
  have x0 := V.cell (k := 0) rfl
  have x1 := V.cell (k := 1) rfl
  have x2 := V.cell (k := 2) rfl
  have x4 := V.cell (k := 4) rfl
  have HD := Lib.hid D
  have HV := Lib.hid V
  have HXV := Lib.hid xv
  have HLO := Lib.hid lo
  have HLT := Lib.hid lt
  have CL := Lib.hid (rlong_any (c := c) w (by omega) hR)
  have HR := Lib.hid hR
  have hln := hR.len
  clear D V xv lo lt hR
  obtain ⟨q, hq⟩ : ∃ q, compactT failed file gen count l S = q := ⟨_, rfl⟩
  rw [hq]
  obtain ⟨gi, hgi⟩ : ∃ gi : Int, (gen : Int) = gi := ⟨_, rfl⟩
  cases failed with
  | true =>
    have e : q = (3, S, file, gen, count, true) := by rw [← hq]; unfold compactT mayN; rw [if_pos rfl, if_neg (by decide)]
    subst e
    have FIN : Hid (RVtP w0 r v X w 3 S file gen count true (.returned (.int .i64 3)) w) := Lib.hid ⟨rfl, HD.out, HV.out, Kept.same _ _⟩
    clear hq CL hgi
    go_enter Tryz.func27, Tryz.ntmps27
    go_wp2_with fail
    go_ret
    exact FIN.out
  | false =>
    cases hL : longS l with
    | true =>
      have e : q = (1, S, file, gen, count, false) := by rw [← hq]; unfold compactT mayN; rw [hL]; rfl
      subst e
      rw [hL] at CL
      have FIN : Hid (RVtP w0 r v X w 1 S file gen count false (.returned (.int .i64 1)) w) := Lib.hid ⟨rfl, HD.out, HV.out, Kept.same _ _⟩
      clear hq hL hgi
      go_enter Tryz.func27, Tryz.ntmps27
      go_wp2_with fail
      refine (CL.out).mono ?_
      rintro e w1 ⟨rfl, hw⟩
      obtain rfl := hw
      go_wp2_with fail
      go_ret
      exact FIN.out
    | false =>
      rw [hL] at CL
      have hq2 : compactS file gen count l S = q := by
        rw [← hq]
        unfold compactT mayN
        rw [hL]
        rfl
      have HQ := Lib.hid hq2
      have HL := Lib.hid hL
      have HGI := Lib.hid hgi
      clear hq hL hq2
      rw [hgi] at x2
      have hgi0 : 0 ≤ gi := by omega
      clear hgi
      by_cases h6 : 4611686018427387904 ≤ gen
      · have t6 : decide (4611686018427387904 ≤ gi) = true := decide_eq_true (by have := HGI.out; omega)
        have e : q = (6, S, file, gen, count, false) := by rw [← HQ.out]; unfold compactS; rw [if_pos h6]
        subst e
        have FIN : Hid (RVtP w0 r v X w 6 S file gen count false (.returned (.int .i64 6)) w) := Lib.hid ⟨rfl, HD.out, HV.out, Kept.same _ _⟩
        clear h6
        go_enter Tryz.func27, Tryz.ntmps27
        go_wp2_with fail
        refine (CL.out).mono ?_
        rintro e w1 ⟨rfl, hw⟩
        obtain rfl := hw
        go_wp2_with fail
        go_ret
        exact FIN.out
      have t6 : decide (4611686018427387904 ≤ gi) = false := decide_eq_false (by have := HGI.out; omega)
      have H6 := Lib.hid h6
      clear h6
      obtain ⟨o, hoo⟩ : ∃ o, 1 - file = o := ⟨_, rfl⟩
      have ho1 : o ≤ 1 := by omega
      have hof : o ≠ file := by omega
      have ho : (1 : Int) - (file : Int) = (o : Int) := by omega
      have HOO := Lib.hid hoo
      clear hoo
      have CR := Lib.hid (rread_p HD.out (HLT.out.lt (by omega)) (o : Nat))
      obtain ⟨Lo, xr, hrd⟩ : ∃ Lo xr, S.read (o : Nat) = (Lo, xr) := ⟨_, _, rfl⟩
      rw [hrd] at CR
      have HRD := Lib.hid hrd
      clear hrd
      go_enter Tryz.func27, Tryz.ntmps27
      go_wp2_with fail
      refine (CL.out).mono ?_
      rintro e w1 ⟨rfl, hw⟩
      obtain rfl := hw
      clear CL
      go_wp2_with fail
      refine (CR.out).mono ?_
      rintro e w2 ⟨Ar, nr, cr, rfl, Br, b2⟩
      have hnr := Br.len
      have HB2 := Lib.hid b2
      have x0 := (HV.out.later b2).cell (k := 0) rfl
      clear b2 Br CR
      by_cases hx : ¬ xr = 0
      · have t1 : (xr == 0) = false := beq_eq_false_iff_ne.2 hx
        have t2 : (xr != 0) = true := by rw [bne_iff_ne]; exact hx
        have e : q = (xr, S, file, gen, count, true) := by rw [← HQ.out]; unfold compactS; rw [if_neg H6.out, HOO.out, HRD.out, if_pos hx]
        subst e
        have CT := Lib.hid (told_any (HD.out.later HB2.out) HXV.out HLO.out (HV.out.later HB2.out) xr (b := true) t2)
        clear hx
        go_wp2_with fail
        refine (CT.out).mono ?_
        rintro e w3 ⟨rfl, D3, V3, K3⟩
        have FIN : Hid (RVtP w0 r v X w1 xr S file gen count true (.returned (.int .i64 xr)) w3) := Lib.hid ⟨rfl, D3, V3, (Kept.of_below HB2.out).trans' K3⟩
        clear D3 V3 K3
        go_wp2_with fail
        go_ret
        exact FIN.out
      obtain rfl := Classical.not_not.1 hx
      clear hx
      obtain ⟨g1, hg1e⟩ : ∃ g1, gen + 1 = g1 := ⟨_, rfl⟩
      have HG1 := Lib.hid hg1e
      have hgl : g1 < 18446744073709551616 := by have := H6.out; omega
      have hfb : AllB (frontS g1 l.length ++ framesS g1 0 l) := by
        refine allB_app ?_ (framesS_byt (rows_byt HR.out))
        unfold frontS
        exact allB_app (allB_app (lw_byt _ _) (lw_byt _ _)) (chkS_byt _)
      have hfl : (frontS g1 l.length ++ framesS g1 0 l).length = 44 + wideS l := by rw [List.length_append, frontS_len, framesS_len]
      have CFo' := fun u => rfront_any (g := g1) (n := l.length) hgl (by omega) u
      have CFr' := fun u (b : Below w1.heap.size w1 u) => rframes_any (g := g1) (k := 0) (c := c) u hgl (Nat.zero_le _) (by omega) (Rows.later byM HR.out b)
      obtain ⟨sa, hsa⟩ : ∃ s, strB (frontS g1 l.length) = s := ⟨_, rfl⟩
      obtain ⟨sb, hsb⟩ : ∃ s, strB (framesS g1 0 l) = s := ⟨_, rfl⟩
      have za : sa.size = 44 := by rw [← hsa, strB_size, frontS_len]
      obtain ⟨z, hz⟩ : ∃ z, wideS l = z := ⟨_, rfl⟩
      have zb : sb.size = z := by rw [← hsb, strB_size, framesS_len, hz]
      obtain ⟨F, hF⟩ : ∃ F, frontS g1 l.length ++ framesS g1 0 l = F := ⟨_, rfl⟩
      have HF := Lib.hid hF
      have RB := Lib.hid fun w => run_bytes hfb (by omega) w
      rw [hF] at RB hfl hfb
      obtain ⟨sf, hsf⟩ : ∃ s, strB F = s := ⟨_, rfl⟩
      have E1 : sa ++ sb = sf := by rw [← hsa, ← hsb, ← hsf, ← hF, strB_app]
      have zf : sf.size = 44 + z := by rw [← hsf, strB_size, hfl, hz]
      unfold GivesS at CFo' CFr'
      rw [hsa, hln] at CFo'
      rw [hsb] at CFr'
      rw [hsf, hfl, hz] at RB
      rw [hz] at hw
      have CFo := Lib.hid CFo'
      have CFr := Lib.hid CFr'
      have HZ := Lib.hid hz
      have HFL : Hid (F.length = 44 + z) := Lib.hid (by rw [hfl, hz])
      have q1 : (9223372036854775807 < 44 + z) = False := eq_false (by omega)
      have hg1 : IntKind.u64.wrap (gi + 1) = (g1 : Int) := by rw [IntWalk.u64_in _ (by have := HGI.out; have := HG1.out; omega)]; have := HGI.out; have := HG1.out; omega
      clear hg1e CFo' CFr' hF hsf hsa hsb hz hfb hfl
      go_wp2_with fail
      refine wp_region_seg (by kernel_rfl) fun wa ga => ?_
      refine wpK_seg 0 17 (f := 0) (by kernel_rfl) (fun _ _ _ _ _ h => h) (by kernel_rfl) (by kernel_rfl) (by kernel_rfl) (ga) ?_
      apply Exists.intro
      refine ⟨?_, ?_⟩
      · intro wg hg2
        simp only [List.drop_succ_cons, List.drop_zero, List.take_succ_cons, List.take_zero]
        have BG := Lib.hid (HB2.out.trans (Below.mono hg2 HB2.out.size))
        have z0 : ∀ u : After wg, u.w.cell? ⟨v, 0, none⟩ = some (.pointer (some ⟨r, 0, none⟩)) := fun u => ((HV.out.later BG.out).later u.below).cell (k := 0) rfl
        have z2 : ∀ u : After wg, u.w.cell? ⟨v, 2, none⟩ = some (.int .u64 gi) := fun u => by rw [← HGI.out]; exact ((HV.out.later BG.out).later u.below).cell (k := 2) rfl
        have C1 : Hid (∀ u : After wg, Calls Tryz.prog 68 #[.int .u64 (g1 : Int), .int .i64 0, .slice A n c] u.w fun e W => e = .returned (.string sb) ∧ Below u.w.heap.size u.w W) := Lib.hid fun u => CFr.out u.w (Below.trans BG.out (u.below.mono BG.out.size))
        have C2 : Hid (∀ u : After wg, Calls Tryz.prog 67 #[.int .u64 (g1 : Int), .int .i64 (n : Int)] u.w fun e W => e = .returned (.string sa) ∧ Below u.w.heap.size u.w W) := Lib.hid fun u => CFo.out u.w
        repeat (go_big_quiet_step (first | (with_reducible exact after_call (C1.out _)) | (with_reducible exact after_call (C2.out _))))
        refine wpQuiet_nil ?_
        exact rfl
      refine wpK_end (by kernel_rfl) ?_
      intro wf gf
      have bf : Below w2.heap.size w2 wf := Grows.trans ga gf
      have HBF := Lib.hid (HB2.out.trans (bf.mono HB2.out.size))
      clear bf gf ga CFr CFo HB2
      have CRm := Lib.hid (rroom_p (HD.out.later HBF.out) (HLT.out.lt (by omega)))
      have x0 := (HV.out.later HBF.out).cell (k := 0) rfl
      obtain ⟨rm, hrm⟩ : ∃ rm, S.room = rm := ⟨_, rfl⟩
      have HRM := Lib.hid hrm
      have hrmb : rm ≤ 4194304 := by rw [← hrm]; have := HLT.out.most; unfold Dk.room; omega
      have hnrb : nr ≤ 4194304 := by
        have h1 := at_len HD.out.ok o
        have h2 := congrArg (fun p => p.1.length) HRD.out
        dsimp only at h2
        unfold Dk.read at h2
        split at h2
        · rw [← hnr, ← h2]; exact Nat.zero_le _
        · rw [← hnr, ← h2]; exact h1
      rw [hrm] at CRm
      clear hrm
      go_wp2_with fail
      refine (CRm.out).mono ?_
      rintro e w3 ⟨rfl, b3⟩
      have HB3 := Lib.hid (HBF.out.trans (b3.mono HBF.out.size))
      clear b3 CRm HBF
      have HLO2 : Hid ((S.at o).at = Lo) := Lib.hid (by
        have h := HRD.out
        unfold Dk.read at h
        split at h
        · rename_i ha
          exact absurd (congrArg Prod.snd h) ha
        · exact congrArg Prod.fst h)
      have x0 := (HV.out.later HB3.out).cell (k := 0) rfl
      by_cases h7 : rm + nr < 44 + z
      · have e : q = (7, S, file, gen, count, false) := by
          rw [← HQ.out]
          unfold compactS
          rw [if_neg H6.out, HOO.out, HRD.out, if_neg (by intro h; exact h rfl), HG1.out, HF.out, HRM.out, if_pos (by rw [HFL.out]; show rm + Lo.length < _; omega)]
        subst e
        have t7 : decide ((rm : Int) + (nr : Int) < 44 + (z : Int)) = true := decide_eq_true (by omega)
        have t7' : decide (rm + nr < 44 + z) = true := decide_eq_true h7
        have FIN : Hid (RVtP w0 r v X w1 7 S file gen count false (.returned (.int .i64 7)) w3) := Lib.hid ⟨rfl, HD.out.later HB3.out, HV.out.later HB3.out, Kept.of_below HB3.out⟩
        clear h7
        go_wp2_with fail
        go_ret
        exact FIN.out
      have t7 : decide ((rm : Int) + (nr : Int) < 44 + (z : Int)) = false := decide_eq_false (by omega)
      have t7' : decide (rm + nr < 44 + z) = false := decide_eq_false h7
      obtain ⟨x1, S1, e1⟩ : ∃ x1 S1, S.cutTo (o : Nat) (S.at o).at.length 0 = (x1, S1) := ⟨_, _, rfl⟩
      obtain ⟨x2, S2, e2⟩ : ∃ x2 S2, S1.write (o : Nat) F = (x2, S2) := ⟨_, _, rfl⟩
      obtain ⟨x3, S3, e3⟩ : ∃ x3 S3, S2.sync (o : Nat) = (x3, S3) := ⟨_, _, rfl⟩
      obtain ⟨x4, S4, e4⟩ : ∃ x4 S4, S3.cut (file : Nat) 0 = (x4, S4) := ⟨_, _, rfl⟩
      have L1 : Ltk (k + 1) S1 := by have := HLT.out.cutTo (o : Nat) (S.at o).at.length 0; rw [e1] at this; exact this
      have L2 : Ltk (k + 2) S2 := by have := L1.write (o : Nat) F; rw [e2] at this; exact this
      have L3 : Ltk (k + 3) S3 := by have := L2.sync (o : Nat); rw [e3] at this; exact this
      have hqq : (if x1 = 0 then (if x2 = 0 then (if x3 = 0 then (if x4 = 0 then ((0 : Int), S4, o, g1, n, false) else (x4, S4, file, gen, count, true)) else (x3, S3, file, gen, count, true)) else (x2, S2, file, gen, count, true)) else (x1, S1, file, gen, count, true)) = q := by
        have hsq : seqS (compactL file o Lo.length F) S = if x1 = 0 then (if x2 = 0 then (if x3 = 0 then (if x4 = 0 then (0, S4) else (x4, S4)) else (x3, S3)) else (x2, S2)) else (x1, S1) := by
          unfold compactL
          rw [← HLO2.out, seq_cons _ _ (show (fun S : Dk => S.cutTo (o : Nat) _ 0) S = _ from e1), seq_cons _ _ (show (fun S : Dk => S.write (o : Nat) F) S1 = _ from e2), seq_cons _ _ (show (fun S : Dk => S.sync (o : Nat)) S2 = _ from e3), seq_cons _ _ (show (fun S : Dk => S.cut (file : Nat) 0) S3 = _ from e4)]
          rfl
        have e0 : compactS file gen count l S = if (seqS (compactL file o Lo.length F) S).1 = 0 then (0, (seqS (compactL file o Lo.length F) S).2, o, g1, n, false) else ((seqS (compactL file o Lo.length F) S).1, (seqS (compactL file o Lo.length F) S).2, file, gen, count, true) := by
          unfold compactS
          rw [if_neg H6.out, HOO.out, HRD.out, if_neg (by intro h; exact h rfl), HG1.out, HF.out, HRM.out, if_neg (by rw [HFL.out]; show ¬ rm + Lo.length < _; omega), hln]
        rw [← HQ.out, e0, hsq]
        by_cases y1 : x1 = 0
        · rw [if_pos y1, if_pos y1]
          by_cases y2 : x2 = 0
          · rw [if_pos y2, if_pos y2]
            by_cases y3 : x3 = 0
            · rw [if_pos y3, if_pos y3]
              by_cases y4 : x4 = 0
              · rw [if_pos y4, if_pos y4]; rfl
              · rw [if_neg y4, if_neg y4, if_neg y4]
            · rw [if_neg y3, if_neg y3, if_neg y3]
          · rw [if_neg y2, if_neg y2, if_neg y2]
        · rw [if_neg y1, if_neg y1, if_neg y1]
      have HQQ := Lib.hid hqq
      have C1 := Lib.hid (rcutTo_p (HD.out.later HB3.out) (HLT.out.lt (by omega)) (i := o) ho1 0 (congrArg Prod.fst e1) (congrArg Prod.snd e1))
      have C3 : Hid (∀ w', Rp w0 r X S2 w' → Calls Tryz.prog 57 #[.pointer (some ⟨r, 0, none⟩), .int .i64 (o : Int)] w' (RStep w0 r X w' x3 S3)) := Lib.hid fun w' D' => rsync_p D' (L2.lt (by omega)) (o : Nat) (congrArg Prod.fst e3) (congrArg Prod.snd e3)
      have C4 : Hid (∀ w', Rp w0 r X S3 w' → Calls Tryz.prog 60 #[.pointer (some ⟨r, 0, none⟩), .int .i64 (file : Int), .int .i64 0] w'.drew (RStep w0 r X w'.drew x4 S4)) := Lib.hid fun w' D' => rcut_p (D'.later (Below.refl _ _).drew) (L3.lt (by omega)) (file : Nat) 0 (congrArg Prod.fst e4) (congrArg Prod.snd e4)
      have H2e := Lib.hid e2
      have HL1 := Lib.hid L1
      clear hqq e1 e2 e3 e4 L1 L2 L3 h7 HQ HRM
      go_wp2_with fail
      refine (C1.out).mono ?_
      rintro e w4 ⟨rfl, D4, K4⟩
      have HD4 := Lib.hid D4
      have HK4 : Hid (Kept X w1 w4) := Lib.hid ((Kept.of_below HB3.out).trans' K4)
      have HV4 : Hid (Ro w4 v 78 (rvV r file gen count false)) := Lib.hid ((HK4.out.blk v HXV.out HV.out.lt).trans HV.out)
      clear D4 K4 C1 HB3
      by_cases hx : ¬ x1 = 0
      · obtain rfl : (x1, S1, file, gen, count, true) = q := by rw [← HQQ.out]; simp [hx]
        have t1 : (x1 == 0) = false := beq_eq_false_iff_ne.2 hx
        have CT := Lib.hid (told_any HD4.out HXV.out HLO.out HV4.out x1 (b := true) (by rw [bne_iff_ne]; exact hx))
        have x0 := HV4.out.cell (k := 0) rfl
        clear hx
        go_wp2_with fail
        refine (CT.out).mono ?_
        rintro e w9 ⟨rfl, D9, V9, K9⟩
        have FIN : Hid (RVtP w0 r v X w1 x1 S1 file gen count true (.returned (.int .i64 x1)) w9) := Lib.hid ⟨rfl, D9, V9, (HK4.out.narrow fun b hb => hb.1).trans' K9⟩
        clear D9 V9 K9
        go_wp2_with fail
        go_ret
        exact FIN.out
      obtain rfl := Classical.not_not.1 hx
      clear hx
      have x0 := HV4.out.cell (k := 0) rfl
      obtain ⟨c5, w5, r5, k5, m5, z5, B5, b5⟩ := RB.out w4
      have D5 : Rp w0 r (fun b => X b ∨ (w4.heap.size ≤ b ∧ b < w5.heap.size)) S1 w5 := HD4.out.wide (Kept.of_below b5) (HD4.out.bel.trans (b5.mono HD4.out.bel.size)) fun b hb => hb
      have CW : Hid (Calls Tryz.prog 64 #[.pointer (some ⟨r, 0, none⟩), .int .i64 (o : Int), .slice (some ⟨w4.heap.size, 0, none⟩) (44 + z) c5] w5 (RStep w0 r (fun b => X b ∨ (w4.heap.size ≤ b ∧ b < w5.heap.size)) w5 x2 S2)) := Lib.hid (rwrite_p (c := c5) D5 (HL1.out.lt (by omega)) (o : Nat) B5 (fun a e => by injection e with e; subst e; exact .inr ⟨Nat.le_refl _, z5⟩) (congrArg Prod.fst H2e.out) (congrArg Prod.snd H2e.out))
      have HK5 := Lib.hid (HK4.out.trans' (Kept.of_below b5))
      clear k5 m5 z5 B5 b5 D5 RB
      go_wp2_with fail
      refine (CW.out).mono ?_
      rintro e w6 ⟨rfl, D6, K6⟩
      have HD6 : Hid (Rp w0 r X S2 w6) := Lib.hid (D6.narrow fun b hb => .inl hb)
      have HK6 : Hid (Kept X w1 w6) := Lib.hid (HK5.out.trans' (K6.narrow fun b hb => .inl hb))
      have HV6 : Hid (Ro w6 v 78 (rvV r file gen count false)) := Lib.hid ((HK6.out.blk v HXV.out HV.out.lt).trans HV.out)
      clear D6 K6 CW r5 HK5
      by_cases hx : ¬ x2 = 0
      · obtain rfl : (x2, S2, file, gen, count, true) = q := by rw [← HQQ.out]; simp [hx]
        have t1 : (x2 == 0) = false := beq_eq_false_iff_ne.2 hx
        have CT := Lib.hid (told_any HD6.out HXV.out HLO.out HV6.out x2 (b := true) (by rw [bne_iff_ne]; exact hx))
        have x0 := HV6.out.cell (k := 0) rfl
        clear hx
        go_wp2_with fail
        refine (CT.out).mono ?_
        rintro e w9 ⟨rfl, D9, V9, K9⟩
        have FIN : Hid (RVtP w0 r v X w1 x2 S2 file gen count true (.returned (.int .i64 x2)) w9) := Lib.hid ⟨rfl, D9, V9, (HK6.out.narrow fun b hb => hb.1).trans' K9⟩
        clear D9 V9 K9
        go_wp2_with fail
        go_ret
        exact FIN.out
      obtain rfl := Classical.not_not.1 hx
      clear hx
      have x0 := HV6.out.cell (k := 0) rfl
      go_wp2_with fail
      refine (C3.out _ HD6.out).mono ?_
      rintro e w7 ⟨rfl, D7, K7⟩
      have HD7 := Lib.hid D7
      have HK7 : Hid (Kept X w1 w7) := Lib.hid (HK6.out.trans' K7)
      have HV7 : Hid (Ro w7 v 78 (rvV r file gen count false)) := Lib.hid ((HK7.out.blk v HXV.out HV.out.lt).trans HV.out)
      clear D7 K7 C3
      by_cases hx : ¬ x3 = 0
      · obtain rfl : (x3, S3, file, gen, count, true) = q := by rw [← HQQ.out]; simp [hx]
        have t1 : (x3 == 0) = false := beq_eq_false_iff_ne.2 hx
        have CT := Lib.hid (told_any HD7.out HXV.out HLO.out HV7.out x3 (b := true) (by rw [bne_iff_ne]; exact hx))
        have x0 := HV7.out.cell (k := 0) rfl
        clear hx
        go_wp2_with fail
        refine (CT.out).mono ?_
        rintro e w9 ⟨rfl, D9, V9, K9⟩
        have FIN : Hid (RVtP w0 r v X w1 x3 S3 file gen count true (.returned (.int .i64 x3)) w9) := Lib.hid ⟨rfl, D9, V9, (HK7.out.narrow fun b hb => hb.1).trans' K9⟩
        clear D9 V9 K9
        go_wp2_with fail
        go_ret
        exact FIN.out
      obtain rfl := Classical.not_not.1 hx
      clear hx
      have HQA : Hid (¬ x4 = 0 → (x4, S4, file, gen, count, true) = q) := Lib.hid fun h => by rw [← HQQ.out]; simp [h]
      have HQB : Hid (x4 = 0 → ((0 : Int), S4, o, g1, n, false) = q) := Lib.hid fun h => by rw [← HQQ.out]; simp [h]
      clear HQQ
      have x0 := HV7.out.cell (k := 0) rfl
      have x1' := HV7.out.cell (k := 1) rfl
      have x0d : w7.drew.cell? ⟨v, 0, none⟩ = some (.pointer (some ⟨r, 0, none⟩)) := x0
      have x1d : w7.drew.cell? ⟨v, 1, none⟩ = some (.int .i64 (file : Nat)) := x1'
      have CC := Lib.hid (C4.out _ HD7.out)
      go_wp2_with fail
      go_region_law (first | (go_simp; (with_reducible refine (CC.out).mono ?_); rintro e w8 ⟨rfl, D8', K8'⟩; have D8 := Lib.hid D8'; have K8 := Lib.hid K8'; clear D8' K8'; go_simp))
      all_goals
        have HK8 : Hid (Kept X w1 w8) := Lib.hid (HK7.out.trans' ((Kept.of_below (Below.refl w7.heap.size w7).drew).trans' K8.out))
        have HV8 : Hid (Ro w8 v 78 (rvV r file gen count false)) := Lib.hid ((HK8.out.blk v HXV.out HV.out.lt).trans HV.out)
        clear K8 CC
        by_cases hx4 : ¬ x4 = 0
        · obtain rfl := HQA.out hx4
          have t1 : (x4 == 0) = false := beq_eq_false_iff_ne.2 hx4
          have CT := Lib.hid (told_any D8.out HXV.out HLO.out HV8.out x4 (b := true) (by rw [bne_iff_ne]; exact hx4))
          clear hx4
          go_wp2_with fail
          refine (CT.out).mono ?_
          rintro e w9 ⟨rfl, D9, V9, K9⟩
          have FIN : Hid (RVtP w0 r v X w1 x4 S4 file gen count true (.returned (.int .i64 x4)) w9) := Lib.hid ⟨rfl, D9, V9, (HK8.out.narrow fun b hb => hb.1).trans' K9⟩
          clear D9 V9 K9
          go_wp2_with fail
          go_ret
          exact FIN.out
        obtain rfl := Classical.not_not.1 hx4
        clear hx4
        obtain rfl := HQB.out rfl
        have x0 := HV8.out.cell (k := 0) rfl
        have x1' := HV8.out.cell (k := 1) rfl
        have x2' := HV8.out.cell (k := 2) rfl
        have x3' := HV8.out.cell (k := 3) rfl
        have y1 := HV8.out.free 1
        have y2 := HV8.out.free 2
        have y3 := HV8.out.free 3
        rw [HGI.out] at x2'
        obtain ⟨w9, hw9⟩ : ∃ w9, ((w8.setCell ⟨v, 1, none⟩ (.int .i64 (o : Int))).setCell ⟨v, 2, none⟩ (.int .u64 (g1 : Int))).setCell ⟨v, 3, none⟩ (.int .i64 (n : Int)) = w9 := ⟨_, rfl⟩
        have hkp : Kept (fun b => b ≠ v) w8 w9 := by
          rw [← hw9]
          exact ⟨Nat.le_of_eq (by simp), fun q hq _ => (Below.heap_setCell _ ⟨v, 3, none⟩ _ q hq).trans ((Below.heap_setCell _ ⟨v, 2, none⟩ _ q hq).trans (Below.heap_setCell _ ⟨v, 1, none⟩ _ q hq))⟩
        have HD9 : Hid (Rp w0 r X S4 w9) := Lib.hid (D8.out.keep (hkp.narrow fun q hq e => hq (by rw [e]; exact HXV.out)) (by rw [← hw9]; exact ((D8.out.bel.setCell (p := ⟨v, 1, none⟩) HLO.out _).setCell (p := ⟨v, 2, none⟩) HLO.out _).setCell (p := ⟨v, 3, none⟩) HLO.out _))
        have HV9 : Hid (Ro w9 v 78 (rvV r o g1 n false)) := Lib.hid (by rw [← hw9]; exact ((HV8.out.set 1 _).set 2 _).set 3 _)
        have HK9 : Hid (Kept (fun b => X b ∧ b ≠ v) w1 w9) := Lib.hid ((HK8.out.narrow fun b hb => hb.1).trans' (hkp.narrow fun b hb => hb.2))
        have CT := Lib.hid (told_any HD9.out HXV.out HLO.out HV9.out 0 (b := false) rfl)
        clear hkp
        go_wp2_with fail
        refine (CT.out).mono ?_
        rintro e w10 ⟨rfl, D10, V10, K10⟩
        have FIN : Hid (RVtP w0 r v X w1 0 S4 o g1 n false (.returned (.int .i64 0)) w10) := Lib.hid ⟨rfl, D10, V10, HK9.out.trans' K10⟩
        clear D10 V10 K10 CT
        go_wp2_with fail
        go_ret
        exact FIN.out
end
end Go.Proofs.YtjcphpmlekfhdaaGreatDoor
