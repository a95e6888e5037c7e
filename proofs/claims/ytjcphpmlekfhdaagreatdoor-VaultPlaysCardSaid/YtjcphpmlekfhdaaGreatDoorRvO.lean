/- Open, as the reference says it. No condition but bounds. -/
import Derived.Test.YtjcphpmlekfhdaaGreatDoorRvB
import Derived.Test.YtjcphpmlekfhdaaGreatDoorGi
namespace Go.Proofs.YtjcphpmlekfhdaaGreatDoor
open Go.RowKit

def ROpenQ (w0 : World) (r : Nat) (X : Nat → Prop) (w : World) (x : Int) (S : Dk) (file gen : Nat) (recs : List (List Nat)) (e : Ending) (W : World) : Prop :=
  (x ≠ 0 ∧ e = .returned (.tuple #[.pointer none, .slice none 0 0, .int .i64 x]) ∧ Rp w0 r X S W ∧ Kept X w W) ∨
  (x = 0 ∧ ∃ v A c, e = .returned (.tuple #[.pointer (some ⟨v, 0, none⟩), .slice A recs.length c, .int .i64 0]) ∧ w.heap.size ≤ v ∧ Ro W v 78 (rvV r file gen recs.length false) ∧ Rows W (fun b => w.heap.size ≤ b) 1 ByR A recs.length recs ∧ Rp w0 r (fun b => X b ∨ b = v) S W ∧ Kept X w W)
theorem SndQ.get {w W : World} {f : Nat} {L : List Nat} {e : Ending} (h : SndQ w (soundS f L) e W) : ∃ (g : Nat) (l : List (List Nat)) (A : Option Addr) (c gd : Nat), e = .returned (.tuple #[.int .u64 (g : Nat), .slice A l.length c, .int .i64 (gd : Nat)]) ∧ Rows W (fun b => w.heap.size ≤ b) 1 ByR A l.length l ∧ Below w.heap.size w W ∧ ((soundS f L = none ∧ g = 0) ∨ (soundS f L = some (g, l, gd) ∧ 1 ≤ g)) := by
  obtain ⟨h, b⟩ := h
  cases hs : soundS f L with
  | none =>
    rw [hs] at h
    exact ⟨0, [], none, 0, 0, h, Rows.nil _ _ _ _ _, b, .inl ⟨rfl, rfl⟩⟩
  | some y =>
    rw [hs] at h
    obtain ⟨A, c, he, _, hR⟩ := h
    obtain ⟨g, l, gd⟩ := y
    exact ⟨g, l, A, c, gd, he, hR, b, .inr ⟨rfl, (soundS_gen hs).1⟩⟩
theorem at_most {S : Dk} (O : S.Ok) (i : Nat) : (S.at i).at.length ≤ S.most := (O.at_ i).len
section
variable {w0 w : World} {r k : Nat} {X : Nat → Prop} {S : Dk}
set_option maxRecDepth 100000 in
set_option maxHeartbeats 8000000 in
theorem ropen_any (D : Rp w0 r X S w) (lt : Ltk k S) (hk : k ≤ 10) (hm : S.most ≤ 1048576) :
    Calls Tryz.prog 22 #[.pointer (some ⟨r, 0, none⟩)] w (ROpenQ w0 r X w (openS S).1 (openS S).2.1 (openS S).2.2.1 (openS S).2.2.2.1 (openS S).2.2.2.2) := by
  have CR := Lib.hid (rread_p D (lt.lt (by omega)) 0)
  have HD := Lib.hid D
  have HLT := Lib.hid lt
  by_cases ho : S.off = true
  · have e : openS S = (8, S, 0, 0, []) := by unfold openS; rw [if_pos ho]
    have er : S.read 0 = ([], 8) := by unfold Dk.read Dk.ask; rw [if_pos (by rw [if_pos ho]; decide), if_pos ho]
    rw [e]
    rw [er] at CR
    clear e er D lt ho
    go_enter Tryz.func22, Tryz.ntmps22
    go_wp2_with fail
    refine (CR.out).mono ?_
    rintro e w1 ⟨A, n, c, rfl, B, b⟩
    have HB := Lib.hid b
    clear B b
    go_wp2_with fail
    refine bodyPost_ret (results_tmp3 rfl _ _ _) rfl ?_
    exact .inl ⟨by decide, rfl, HD.out.later HB.out, Kept.of_below HB.out⟩
  have on : S.off = false := by simpa using ho
  have er : S.read 0 = ((S.at 0).at, 0) := by unfold Dk.read; rw [if_neg (fun q => q (by unfold Dk.ask; rw [if_neg (by simp [on])]; rfl))]; rfl
  rw [er] at CR
  obtain ⟨q, hq⟩ : ∃ q, openS S = q := ⟨_, rfl⟩
  have HQ := Lib.hid hq
  rw [hq]
  have HON := Lib.hid on
  have l0 := at_most D.ok 0
  have l1 := at_most D.ok 1
  have b0 : AllB (S.at 0).at := allB_appl (D.ok.at_ 0).b.1 (D.ok.at_ 0).b.2
  have b1 : AllB (S.at 1).at := allB_appl (D.ok.at_ 1).b.1 (D.ok.at_ 1).b.2
  have CS0 : Hid (∀ w', Rp w0 r X S w' → _) := Lib.hid fun w' (D' : Rp w0 r X S w') => rstands_p D' (lt.lt (by omega)) (i := 0) (by decide)
  have CS1 : Hid (∀ w', Rp w0 r X S w' → _) := Lib.hid fun w' (D' : Rp w0 r X S w') => rstands_p D' (lt.lt (by omega)) (i := 1) (by decide)
  have CN0 := Lib.hid fun w' => rsound_any (f := 0) (L := (S.at 0).at) (by decide) (by omega) b0 w'
  have CN1 := Lib.hid fun w' => rsound_any (f := 1) (L := (S.at 1).at) (by decide) (by omega) b1 w'
  obtain ⟨F0, hF0⟩ : ∃ F, (S.at 0).at = F := ⟨_, rfl⟩
  obtain ⟨F1, hF1⟩ : ∃ F, (S.at 1).at = F := ⟨_, rfl⟩
  obtain ⟨s0, hs0⟩ : ∃ s, strB F0 = s := ⟨_, rfl⟩
  obtain ⟨s1, hs1⟩ : ∃ s, strB F1 = s := ⟨_, rfl⟩
  have HF0 := Lib.hid hF0
  have HF1 := Lib.hid hF1
  rw [hF0] at CR CS0 CN0
  rw [hF1] at CS1 CN1
  rw [hs0] at CS0 CN0
  rw [hs1] at CS1 CN1
  clear hF0 hF1 hs0 hs1 l0 l1 b0 b1 on ho er hq D lt
  go_enter Tryz.func22, Tryz.ntmps22
  go_wp2_with fail
  refine (CR.out).mono ?_
  rintro e w1 ⟨A, n, c, rfl, B, b⟩
  have HB := Lib.hid b
  clear B b CR
  go_wp2_with fail
  refine (CS0.out w1 (HD.out.later HB.out)).mono ?_
  rintro e w2 ⟨rfl, b⟩
  have HB2 := Lib.hid (HB.out.trans (b.mono HB.out.size))
  clear b HB
  go_wp2_with fail
  refine (CN0.out w2).mono ?_
  rintro e w3 h
  obtain ⟨g0, l0, A0, c0, d0, rfl, R0, b, h0⟩ := h.get
  have HB3 := Lib.hid (HB2.out.trans (b.mono HB2.out.size))
  have HR0 : Hid (Rows w3 (fun b => w.heap.size ≤ b) 1 ByR A0 l0.length l0) := Lib.hid (Rows.weak byM R0 fun b hb _ => Nat.le_trans HB2.out.size hb)
  clear h b R0 HB2
  go_wp2_with fail
  refine (CS1.out w3 (HD.out.later HB3.out)).mono ?_
  rintro e w4 ⟨rfl, b⟩
  have HR04 := Lib.hid (Rows.later byM HR0.out b)
  have HB4 := Lib.hid (HB3.out.trans (b.mono HB3.out.size))
  clear b HB3 HR0
  go_wp2_with fail
  refine (CN1.out w4).mono ?_
  rintro e w5 h
  obtain ⟨g1, l1, A1, c1, d1, rfl, R1, b, h1⟩ := h.get
  have HB5 := Lib.hid (HB4.out.trans (b.mono HB4.out.size))
  have HR1 : Hid (Rows w5 (fun b => w.heap.size ≤ b) 1 ByR A1 l1.length l1) := Lib.hid (Rows.weak byM R1 fun b hb _ => Nat.le_trans HB4.out.size hb)
  have HR0 := Lib.hid (Rows.later byM HR04.out b)
  have HD5 : Hid (Rp w0 r (fun b => X b ∨ (w.heap.size ≤ b ∧ b < w5.heap.size)) S w5) := Lib.hid (HD.out.wide (Kept.of_below HB5.out) (HD.out.bel.trans (HB5.out.mono HD.out.bel.size)) fun b hb => hb)
  have H0 := Lib.hid h0
  have H1 := Lib.hid h1
  clear h b R1 HB4 HR04 h0 h1 CS0 CS1 CN0 CN1
  by_cases hz : g0 = 0 ∧ g1 = 0
  · obtain ⟨rfl, rfl⟩ := hz
    have hb2 : bestS (fun i => (S.at i).at) 2 = none := by
      have e0 : soundS 0 (S.at 0).at = none := by
        rw [HF0.out]
        rcases H0.out with h | h
        · exact h.1
        · omega
      have e1 : soundS 1 (S.at 1).at = none := by
        rw [HF1.out]
        rcases H1.out with h | h
        · exact h.1
        · omega
      rw [bestS_none (i := 1) e1, bestS_none (i := 0) e0]
      rfl
    have CB := rbegin_any HD5.out HLT.out (by omega)
    obtain ⟨y, hy⟩ : ∃ y, seqS (beginL (S.at 1).at.length (S.at 0).at.length) S = y := ⟨_, rfl⟩
    rw [hy] at CB
    obtain rfl : (y.1, y.2, 1, 1, []) = q := by
      rw [← HQ.out]
      unfold openS
      rw [if_neg (by rw [HON.out]; decide), hb2]
      show _ = ((seqS (beginL (S.at 1).at.length (S.at 0).at.length) S).1, (seqS (beginL (S.at 1).at.length (S.at 0).at.length) S).2, 1, 1, [])
      rw [hy]
    have HCB := Lib.hid CB
    clear CB hy hb2
    go_wp2_with fail
    refine (HCB.out).mono ?_
    rintro e w6 h
    rcases h with ⟨hx, rfl, D6, K6⟩ | ⟨hx, v, rfl, hv, V, D6, K6⟩
    · have FIN : Hid (ROpenQ w0 r X w y.1 y.2 1 1 [] (.returned (.tuple #[.pointer none, .slice none 0 0, .int .i64 y.1])) w6) := Lib.hid (.inl ⟨hx, rfl, D6.narrow fun b hb => .inl hb, (Kept.of_below HB5.out).trans' (K6.narrow fun b hb => .inl hb)⟩)
      clear D6 K6 hx
      go_wp2_with fail
      refine bodyPost_ret (results_tmp3 rfl _ _ _) rfl ?_
      exact FIN.out
    · have FIN : Hid (ROpenQ w0 r X w y.1 y.2 1 1 [] (.returned (.tuple #[.pointer (some ⟨v, 0, none⟩), .slice none 0 0, .int .i64 0])) w6) := Lib.hid (.inr ⟨hx, v, none, 0, rfl, Nat.le_trans HB5.out.size hv, V, Rows.nil _ _ _ _ _, D6.narrow fun b hb => hb.elim (fun h => .inl (.inl h)) .inr, (Kept.of_below HB5.out).trans' (K6.narrow fun b hb => .inl hb)⟩)
      clear D6 K6 hx V
      go_wp2_with fail
      refine bodyPost_ret (results_tmp3 rfl _ _ _) rfl ?_
      exact FIN.out
  have HZ := Lib.hid hz
  clear hz
  by_cases hlt : g0 < g1
  · have hs1 : soundS 1 F1 = some (g1, l1, d1) := by
      rcases H1.out with h | h
      · omega
      · exact h.1
    have hb2 : bestS (fun i => (S.at i).at) 2 = some (1, g1, l1, d1) := by
      refine bestS_less (i := 1) (by rw [HF1.out]; exact hs1) ?_
      have e0 : genB (bestS (fun i => (S.at i).at) 1) = g0 := by
        rcases H0.out with h | h
        · rw [bestS_none (i := 0) (by rw [HF0.out]; exact h.1), h.2]
          rfl
        · rw [bestS_less (Ls := fun i => (S.at i).at) (i := 0) (x := (g0, l0, d0)) (by show soundS 0 (S.at 0).at = _; rw [HF0.out]; exact h.1) (by show 0 < g0; exact h.2)]
          rfl
      rw [e0]
      exact hlt
    clear hs1
    have C1' : ∀ {x1 S1}, S.cutTo 1 (S.at 1).at.length d1 = (x1, S1) → Calls Tryz.prog 56 #[.pointer (some ⟨r, 0, none⟩), .int .i64 1, .int .i64 (d1 : Nat)] w5 (RStep w0 r (fun b => X b ∨ (w.heap.size ≤ b ∧ b < w5.heap.size)) w5 x1 S1) := fun e => rcutTo_p HD5.out (HLT.out.lt (by omega)) (i := 1) (by decide) d1 (congrArg Prod.fst e) (congrArg Prod.snd e)
    obtain ⟨x1, S1, e1⟩ : ∃ x1 S1, S.cutTo 1 (S.at 1).at.length d1 = (x1, S1) := ⟨_, _, rfl⟩
    obtain ⟨x2, S2, e2⟩ : ∃ x2 S2, S1.sync 1 = (x2, S2) := ⟨_, _, rfl⟩
    obtain ⟨x3, S3, e3⟩ : ∃ x3 S3, S2.cutTo 0 (S.at 0).at.length 0 = (x3, S3) := ⟨_, _, rfl⟩
    have L1 : Ltk (k + 1) S1 := by have := HLT.out.cutTo 1 (S.at 1).at.length d1; rw [e1] at this; exact this
    have L2 : Ltk (k + 2) S2 := by have := L1.sync 1; rw [e2] at this; exact this
    have a1 : (S1.at 0).at.length = (S.at 0).at.length := by
      have := cutTo_at S (i := 1) (j := 0) (S.at 1).at.length d1 (by decide) (by decide) (by decide)
      have h2 : (S.cutTo ((1 : Nat) : Int) (S.at 1).at.length d1).2 = S1 := congrArg Prod.snd e1
      rw [h2] at this
      rw [this]
    have a2 : (S2.at 0).at.length = (S.at 0).at.length := by
      have := sync_at S1 (i := 1) (j := 0) (by decide) (by decide) (by decide)
      have h2 : (S1.sync ((1 : Nat) : Int)).2 = S2 := congrArg Prod.snd e2
      rw [h2] at this
      rw [this, a1]
    have hsq : seqS (openL 1 (S.at 1).at.length (S.at 0).at.length d1) S = if x1 = 0 then (if x2 = 0 then (if x3 = 0 then (0, S3) else (x3, S3)) else (x2, S2)) else (x1, S1) := by
      unfold openL
      rw [seq_cons _ _ (show (fun S : Dk => S.cutTo ((1 : Nat) : Int) _ _) S = _ from e1), seq_cons _ _ (show (fun S : Dk => S.sync ((1 : Nat) : Int)) S1 = _ from e2), seq_cons _ _ (show (fun S : Dk => S.cutTo ((1 : Int) - ((1 : Nat) : Int)) _ _) S2 = _ from e3)]
      rfl
    have hqq : ((if x1 = 0 then (if x2 = 0 then (if x3 = 0 then ((0 : Int), S3) else (x3, S3)) else (x2, S2)) else (x1, S1)).1, (if x1 = 0 then (if x2 = 0 then (if x3 = 0 then ((0 : Int), S3) else (x3, S3)) else (x2, S2)) else (x1, S1)).2, 1, g1, l1) = q := by
      rw [← HQ.out, ← hsq]
      unfold openS
      rw [if_neg (by rw [HON.out]; decide), hb2]
      rfl
    have HQQ := Lib.hid hqq
    have C1 := Lib.hid (C1' e1)
    have C2 : Hid (∀ w', Rp w0 r (fun b => X b ∨ (w.heap.size ≤ b ∧ b < w5.heap.size)) S1 w' → Calls Tryz.prog 57 #[.pointer (some ⟨r, 0, none⟩), .int .i64 1] w' (RStep w0 r (fun b => X b ∨ (w.heap.size ≤ b ∧ b < w5.heap.size)) w' x2 S2)) := Lib.hid fun w' D' => rsync_p D' (L1.lt (by omega)) 1 (congrArg Prod.fst e2) (congrArg Prod.snd e2)
    have C3 : Hid (∀ w', Rp w0 r (fun b => X b ∨ (w.heap.size ≤ b ∧ b < w5.heap.size)) S2 w' → Calls Tryz.prog 56 #[.pointer (some ⟨r, 0, none⟩), .int .i64 0, .int .i64 0] w' (RStep w0 r (fun b => X b ∨ (w.heap.size ≤ b ∧ b < w5.heap.size)) w' x3 S3)) := Lib.hid fun w' D' => rcutTo_p D' (L2.lt (by omega)) (i := 0) (by decide) 0 (by rw [a2]; exact congrArg Prod.fst e3) (by rw [a2]; exact congrArg Prod.snd e3)
    obtain ⟨X5, hX5⟩ : ∃ X5 : Nat → Prop, (fun b => X b ∨ (w.heap.size ≤ b ∧ b < w5.heap.size)) = X5 := ⟨_, rfl⟩
    rw [hX5] at C1 C2 C3
    have HXX : Hid ((∀ b, X b → X5 b) ∧ ∀ b, w.heap.size ≤ b → b < w5.heap.size → X5 b) := Lib.hid (by rw [← hX5]; exact ⟨fun b h => .inl h, fun b h1 h2 => .inr ⟨h1, h2⟩⟩)
    clear hsq hqq C1' e1 e2 e3 L1 L2 a1 a2 hb2 hX5
    have t5 : ((g1 : Int) == 0) = false := by rw [beq_eq_false_iff_ne]; omega
    have t6 : decide ((g0 : Int) < (g1 : Int)) = true := decide_eq_true (by omega)
    have t4 : ((g0 : Int) == 0) = true ∨ ((g0 : Int) == 0) = false := by cases ((g0 : Int) == 0) <;> simp
    rcases t4 with t4 | t4
    all_goals
      go_wp2_with fail
      refine (C1.out).mono ?_
      rintro e w6 ⟨rfl, D6, K6⟩
      have HD6 := Lib.hid D6
      have HK6 := Lib.hid K6
      clear D6 K6
      by_cases h1 : ¬ x1 = 0
      · obtain rfl : (x1, S1, 1, g1, l1) = q := by rw [← HQQ.out]; simp [h1]
        have t1 : (x1 == 0) = false := beq_eq_false_iff_ne.2 h1
        have t2 : (x1 != 0) = true := by rw [bne_iff_ne]; exact h1
        have FIN : Hid (ROpenQ w0 r X w x1 S1 1 g1 l1 (.returned (.tuple #[.pointer none, .slice none 0 0, .int .i64 x1])) w6) := Lib.hid (.inl ⟨h1, rfl, HD6.out.narrow HXX.out.1, (Kept.of_below HB5.out).trans' (HK6.out.narrow HXX.out.1)⟩)
        clear h1
        go_wp2_with fail
        refine bodyPost_ret (results_tmp3 rfl _ _ _) rfl ?_
        exact FIN.out
      obtain rfl := Classical.not_not.1 h1
      clear h1
      go_wp2_with fail
      refine (C2.out _ HD6.out).mono ?_
      rintro e w7 ⟨rfl, D7, K7⟩
      have HD7 := Lib.hid D7
      have HK7 := Lib.hid (HK6.out.trans' K7)
      clear D7 K7
      by_cases h1 : ¬ x2 = 0
      · obtain rfl : (x2, S2, 1, g1, l1) = q := by rw [← HQQ.out]; simp [h1]
        have t1 : (x2 == 0) = false := beq_eq_false_iff_ne.2 h1
        have t2 : (x2 != 0) = true := by rw [bne_iff_ne]; exact h1
        have FIN : Hid (ROpenQ w0 r X w x2 S2 1 g1 l1 (.returned (.tuple #[.pointer none, .slice none 0 0, .int .i64 x2])) w7) := Lib.hid (.inl ⟨h1, rfl, HD7.out.narrow HXX.out.1, (Kept.of_below HB5.out).trans' (HK7.out.narrow HXX.out.1)⟩)
        clear h1
        go_wp2_with fail
        refine bodyPost_ret (results_tmp3 rfl _ _ _) rfl ?_
        exact FIN.out
      obtain rfl := Classical.not_not.1 h1
      clear h1
      go_wp2_with fail
      refine (C3.out _ HD7.out).mono ?_
      rintro e w8 ⟨rfl, D8, K8⟩
      have HD8 := Lib.hid D8
      have HK8 := Lib.hid (HK7.out.trans' K8)
      clear D8 K8
      by_cases h1 : ¬ x3 = 0
      · obtain rfl : (x3, S3, 1, g1, l1) = q := by rw [← HQQ.out]; simp [h1]
        have t1 : (x3 == 0) = false := beq_eq_false_iff_ne.2 h1
        have t2 : (x3 != 0) = true := by rw [bne_iff_ne]; exact h1
        have FIN : Hid (ROpenQ w0 r X w x3 S3 1 g1 l1 (.returned (.tuple #[.pointer none, .slice none 0 0, .int .i64 x3])) w8) := Lib.hid (.inl ⟨h1, rfl, HD8.out.narrow HXX.out.1, (Kept.of_below HB5.out).trans' (HK8.out.narrow HXX.out.1)⟩)
        clear h1
        go_wp2_with fail
        refine bodyPost_ret (results_tmp3 rfl _ _ _) rfl ?_
        exact FIN.out
      obtain rfl := Classical.not_not.1 h1
      clear h1
      obtain rfl : ((0 : Int), S3, 1, g1, l1) = q := by rw [← HQQ.out]; simp
      have b9 : Below w8.heap.size w8 (w8.alloc (.cells (rvV r 1 g1 l1.length false).toArray 78)) := (Below.refl _ _).alloc (Nat.le_refl _) _
      have FIN : Hid (ROpenQ w0 r X w 0 S3 1 g1 l1 (.returned (.tuple #[.pointer (some ⟨w8.heap.size, 0, none⟩), .slice A1 l1.length c1, .int .i64 0])) (w8.alloc (.cells (rvV r 1 g1 l1.length false).toArray 78))) := Lib.hid (.inr ⟨rfl, w8.heap.size, A1, c1, rfl, Nat.le_trans HB5.out.size HK8.out.size, Ro.new _ _ _, Rows.weak byM (Rows.later byM (Rows.keep byM (Rows.weak (Q := fun b => X5 b ∧ w.heap.size ≤ b) byM HR1.out fun b hb hl => ⟨HXX.out.2 b hb hl, hb⟩) (HK8.out.narrow fun b h => h.1)) b9) fun b h _ => h.2, HD8.out.wide (Kept.of_below b9) (HD8.out.bel.trans (b9.mono HD8.out.bel.size)) fun b hb => hb.elim (fun h => .inl (HXX.out.1 b h)) fun e => .inr ⟨by omega, by rw [World.size_alloc]; omega⟩, ((Kept.of_below HB5.out).trans' (HK8.out.narrow HXX.out.1)).trans' (Kept.of_below b9)⟩)
      clear b9
      go_wp2_with fail
      refine bodyPost_ret (results_tmp3 rfl _ _ _) rfl ?_
      exact FIN.out
  · have hg0 : g0 ≠ 0 := by have := HZ.out; omega
    have hs0 : soundS 0 F0 = some (g0, l0, d0) := by
      rcases H0.out with h | h
      · exact absurd h.2 hg0
      · exact h.1
    have hb1 : bestS (fun i => (S.at i).at) 1 = some (0, g0, l0, d0) := bestS_less (i := 0) (by rw [HF0.out]; exact hs0) (by show 0 < g0; omega)
    have hb2 : bestS (fun i => (S.at i).at) 2 = some (0, g0, l0, d0) := by
      rcases H1.out with h | h
      · rw [bestS_none (i := 1) (by rw [HF1.out]; exact h.1)]
        exact hb1
      · rw [bestS_more (i := 1) (by rw [HF1.out]; exact h.1) (by rw [hb1]; show ¬ g0 < g1; exact hlt)]
        exact hb1
    clear hs0 hb1
    have C1' : ∀ {x1 S1}, S.cutTo 0 (S.at 0).at.length d0 = (x1, S1) → Calls Tryz.prog 56 #[.pointer (some ⟨r, 0, none⟩), .int .i64 0, .int .i64 (d0 : Nat)] w5 (RStep w0 r (fun b => X b ∨ (w.heap.size ≤ b ∧ b < w5.heap.size)) w5 x1 S1) := fun e => rcutTo_p HD5.out (HLT.out.lt (by omega)) (i := 0) (by decide) d0 (congrArg Prod.fst e) (congrArg Prod.snd e)
    obtain ⟨x1, S1, e1⟩ : ∃ x1 S1, S.cutTo 0 (S.at 0).at.length d0 = (x1, S1) := ⟨_, _, rfl⟩
    obtain ⟨x2, S2, e2⟩ : ∃ x2 S2, S1.sync 0 = (x2, S2) := ⟨_, _, rfl⟩
    obtain ⟨x3, S3, e3⟩ : ∃ x3 S3, S2.cutTo 1 (S.at 1).at.length 0 = (x3, S3) := ⟨_, _, rfl⟩
    have L1 : Ltk (k + 1) S1 := by have := HLT.out.cutTo 0 (S.at 0).at.length d0; rw [e1] at this; exact this
    have L2 : Ltk (k + 2) S2 := by have := L1.sync 0; rw [e2] at this; exact this
    have a1 : (S1.at 1).at.length = (S.at 1).at.length := by
      have := cutTo_at S (i := 0) (j := 1) (S.at 0).at.length d0 (by decide) (by decide) (by decide)
      have h2 : (S.cutTo ((0 : Nat) : Int) (S.at 0).at.length d0).2 = S1 := congrArg Prod.snd e1
      rw [h2] at this
      rw [this]
    have a2 : (S2.at 1).at.length = (S.at 1).at.length := by
      have := sync_at S1 (i := 0) (j := 1) (by decide) (by decide) (by decide)
      have h2 : (S1.sync ((0 : Nat) : Int)).2 = S2 := congrArg Prod.snd e2
      rw [h2] at this
      rw [this, a1]
    have hsq : seqS (openL 0 (S.at 0).at.length (S.at 1).at.length d0) S = if x1 = 0 then (if x2 = 0 then (if x3 = 0 then (0, S3) else (x3, S3)) else (x2, S2)) else (x1, S1) := by
      unfold openL
      rw [seq_cons _ _ (show (fun S : Dk => S.cutTo ((0 : Nat) : Int) _ _) S = _ from e1), seq_cons _ _ (show (fun S : Dk => S.sync ((0 : Nat) : Int)) S1 = _ from e2), seq_cons _ _ (show (fun S : Dk => S.cutTo ((1 : Int) - ((0 : Nat) : Int)) _ _) S2 = _ from e3)]
      rfl
    have hqq : ((if x1 = 0 then (if x2 = 0 then (if x3 = 0 then ((0 : Int), S3) else (x3, S3)) else (x2, S2)) else (x1, S1)).1, (if x1 = 0 then (if x2 = 0 then (if x3 = 0 then ((0 : Int), S3) else (x3, S3)) else (x2, S2)) else (x1, S1)).2, 0, g0, l0) = q := by
      rw [← HQ.out, ← hsq]
      unfold openS
      rw [if_neg (by rw [HON.out]; decide), hb2]
      rfl
    have HQQ := Lib.hid hqq
    have C1 := Lib.hid (C1' e1)
    have C2 : Hid (∀ w', Rp w0 r (fun b => X b ∨ (w.heap.size ≤ b ∧ b < w5.heap.size)) S1 w' → Calls Tryz.prog 57 #[.pointer (some ⟨r, 0, none⟩), .int .i64 0] w' (RStep w0 r (fun b => X b ∨ (w.heap.size ≤ b ∧ b < w5.heap.size)) w' x2 S2)) := Lib.hid fun w' D' => rsync_p D' (L1.lt (by omega)) 0 (congrArg Prod.fst e2) (congrArg Prod.snd e2)
    have C3 : Hid (∀ w', Rp w0 r (fun b => X b ∨ (w.heap.size ≤ b ∧ b < w5.heap.size)) S2 w' → Calls Tryz.prog 56 #[.pointer (some ⟨r, 0, none⟩), .int .i64 1, .int .i64 0] w' (RStep w0 r (fun b => X b ∨ (w.heap.size ≤ b ∧ b < w5.heap.size)) w' x3 S3)) := Lib.hid fun w' D' => rcutTo_p D' (L2.lt (by omega)) (i := 1) (by decide) 0 (by rw [a2]; exact congrArg Prod.fst e3) (by rw [a2]; exact congrArg Prod.snd e3)
    obtain ⟨X5, hX5⟩ : ∃ X5 : Nat → Prop, (fun b => X b ∨ (w.heap.size ≤ b ∧ b < w5.heap.size)) = X5 := ⟨_, rfl⟩
    rw [hX5] at C1 C2 C3
    have HXX : Hid ((∀ b, X b → X5 b) ∧ ∀ b, w.heap.size ≤ b → b < w5.heap.size → X5 b) := Lib.hid (by rw [← hX5]; exact ⟨fun b h => .inl h, fun b h1 h2 => .inr ⟨h1, h2⟩⟩)
    clear hsq hqq C1' e1 e2 e3 L1 L2 a1 a2 hb2 hX5
    have t5 : ((g0 : Int) == 0) = false := by rw [beq_eq_false_iff_ne]; omega
    have t6 : decide ((g0 : Int) < (g1 : Int)) = false := decide_eq_false (by omega)
    go_wp2_with fail
    refine (C1.out).mono ?_
    rintro e w6 ⟨rfl, D6, K6⟩
    have HD6 := Lib.hid D6
    have HK6 := Lib.hid K6
    clear D6 K6
    by_cases h1 : ¬ x1 = 0
    · obtain rfl : (x1, S1, 0, g0, l0) = q := by rw [← HQQ.out]; simp [h1]
      have t1 : (x1 == 0) = false := beq_eq_false_iff_ne.2 h1
      have t2 : (x1 != 0) = true := by rw [bne_iff_ne]; exact h1
      have FIN : Hid (ROpenQ w0 r X w x1 S1 0 g0 l0 (.returned (.tuple #[.pointer none, .slice none 0 0, .int .i64 x1])) w6) := Lib.hid (.inl ⟨h1, rfl, HD6.out.narrow HXX.out.1, (Kept.of_below HB5.out).trans' (HK6.out.narrow HXX.out.1)⟩)
      clear h1
      go_wp2_with fail
      refine bodyPost_ret (results_tmp3 rfl _ _ _) rfl ?_
      exact FIN.out
    obtain rfl := Classical.not_not.1 h1
    clear h1
    go_wp2_with fail
    refine (C2.out _ HD6.out).mono ?_
    rintro e w7 ⟨rfl, D7, K7⟩
    have HD7 := Lib.hid D7
    have HK7 := Lib.hid (HK6.out.trans' K7)
    clear D7 K7
    by_cases h1 : ¬ x2 = 0
    · obtain rfl : (x2, S2, 0, g0, l0) = q := by rw [← HQQ.out]; simp [h1]
      have t1 : (x2 == 0) = false := beq_eq_false_iff_ne.2 h1
      have t2 : (x2 != 0) = true := by rw [bne_iff_ne]; exact h1
      have FIN : Hid (ROpenQ w0 r X w x2 S2 0 g0 l0 (.returned (.tuple #[.pointer none, .slice none 0 0, .int .i64 x2])) w7) := Lib.hid (.inl ⟨h1, rfl, HD7.out.narrow HXX.out.1, (Kept.of_below HB5.out).trans' (HK7.out.narrow HXX.out.1)⟩)
      clear h1
      go_wp2_with fail
      refine bodyPost_ret (results_tmp3 rfl _ _ _) rfl ?_
      exact FIN.out
    obtain rfl := Classical.not_not.1 h1
    clear h1
    go_wp2_with fail
    refine (C3.out _ HD7.out).mono ?_
    rintro e w8 ⟨rfl, D8, K8⟩
    have HD8 := Lib.hid D8
    have HK8 := Lib.hid (HK7.out.trans' K8)
    clear D8 K8
    by_cases h1 : ¬ x3 = 0
    · obtain rfl : (x3, S3, 0, g0, l0) = q := by rw [← HQQ.out]; simp [h1]
      have t1 : (x3 == 0) = false := beq_eq_false_iff_ne.2 h1
      have t2 : (x3 != 0) = true := by rw [bne_iff_ne]; exact h1
      have FIN : Hid (ROpenQ w0 r X w x3 S3 0 g0 l0 (.returned (.tuple #[.pointer none, .slice none 0 0, .int .i64 x3])) w8) := Lib.hid (.inl ⟨h1, rfl, HD8.out.narrow HXX.out.1, (Kept.of_below HB5.out).trans' (HK8.out.narrow HXX.out.1)⟩)
      clear h1
      go_wp2_with fail
      refine bodyPost_ret (results_tmp3 rfl _ _ _) rfl ?_
      exact FIN.out
    obtain rfl := Classical.not_not.1 h1
    clear h1
    obtain rfl : ((0 : Int), S3, 0, g0, l0) = q := by rw [← HQQ.out]; simp
    have b9 : Below w8.heap.size w8 (w8.alloc (.cells (rvV r 0 g0 l0.length false).toArray 78)) := (Below.refl _ _).alloc (Nat.le_refl _) _
    have FIN : Hid (ROpenQ w0 r X w 0 S3 0 g0 l0 (.returned (.tuple #[.pointer (some ⟨w8.heap.size, 0, none⟩), .slice A0 l0.length c0, .int .i64 0])) (w8.alloc (.cells (rvV r 0 g0 l0.length false).toArray 78))) := Lib.hid (.inr ⟨rfl, w8.heap.size, A0, c0, rfl, Nat.le_trans HB5.out.size HK8.out.size, Ro.new _ _ _, Rows.weak byM (Rows.later byM (Rows.keep byM (Rows.weak (Q := fun b => X5 b ∧ w.heap.size ≤ b) byM HR0.out fun b hb hl => ⟨HXX.out.2 b hb hl, hb⟩) (HK8.out.narrow fun b h => h.1)) b9) fun b h _ => h.2, HD8.out.wide (Kept.of_below b9) (HD8.out.bel.trans (b9.mono HD8.out.bel.size)) fun b hb => hb.elim (fun h => .inl (HXX.out.1 b h)) fun e => .inr ⟨by omega, by rw [World.size_alloc]; omega⟩, ((Kept.of_below HB5.out).trans' (HK8.out.narrow HXX.out.1)).trans' (Kept.of_below b9)⟩)
    clear b9
    go_wp2_with fail
    refine bodyPost_ret (results_tmp3 rfl _ _ _) rfl ?_
    exact FIN.out
end
end Go.Proofs.YtjcphpmlekfhdaaGreatDoor
