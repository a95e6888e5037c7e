/- contentOf: what stands in a file. No condition but bounds on the lengths. -/
import Derived.Test.YtjcphpmlekfhdaaGreatDoorGf
import Derived.Test.YtjcphpmlekfhdaaGreatDoorWhs
import Derived.Deep.RegionHeld3
import Derived.Test.YtjcphpmlekfhdaaGreatDoorGg
import Derived.BigQuiet
namespace Go.Proofs.YtjcphpmlekfhdaaGreatDoor
open Go.RowKit Go.Shelf
attribute [local go_sem] Oper.semAt_some

set_option maxRecDepth 100000 in
set_option maxHeartbeats 4000000 in
theorem content_in {A : Option Addr} {n c f : Nat} {L : List Nat} (w : World) (hLd : Laid w) (hf : f ≤ 1) (h44 : 44 ≤ n) (hn : n ≤ 1073741824) (hnc : n ≤ c) (hc : c ≤ 9223372036854775807) (hL : Bs w A n L) :
    CallsIn Fence.wide 3 Tryz.prog 29 #[.slice A n c, .int .i64 (f : Nat)] w (ContP w f L) := by
  have HL := Lib.hid hL
  have HN := Lib.hid hL.len
  have HD := Lib.hid hLd
  have t1 : decide ((n : Int) < 44) = false := decide_eq_false (by omega)
  have c8 : ¬ c = 8 := by omega
  have c12 : ¬ c = 12 := by omega
  have c12' : 12 ≤ c := by omega
  have c44' : 44 ≤ c := by omega
  have i8 : (8 : Int) ≤ (c : Int) := by omega
  have i12 : (12 : Int) ≤ (c : Int) := by omega
  have i44 : (44 : Int) ≤ (c : Int) := by omega
  obtain ⟨w1, hw1⟩ : ∃ w1, w1 = w.alloc (.cells #[.int .u64 0, .slice none 0 0, .int .i64 0] 83) := ⟨_, rfl⟩
  have b1 : Below w.heap.size w w1 := by rw [hw1]; exact (Below.refl _ _).alloc (Nat.le_refl _) _
  have X1 : Ro w1 w.heap.size 83 [.int .u64 0, .slice none 0 0, .int .i64 0] := by rw [hw1]; exact Ro.new w _ _
  have z1 : w1.heap.size = w.heap.size + 1 := by rw [hw1]; simp
  have R8 : Bs w A 8 (L.take 8) := (show Bs w A n (L.take 8 ++ L.drop 8) by rw [List.take_append_drop]; exact HL.out).head (by rw [List.length_take]; have := HN.out; omega)
  have R12 : Bs w A 12 (L.take 12) := (show Bs w A n (L.take 12 ++ L.drop 12) by rw [List.take_append_drop]; exact HL.out).head (by rw [List.length_take]; have := HN.out; omega)
  have R4 : Bs w (A.map fun a => ⟨a.block, a.off + 8, none⟩) 4 ((L.drop 8).take 4) := by
    have := HL.out.cut (k := 8) (m := 4) (c := c) (by omega) hnc
    rw [if_neg (by omega)] at this
    exact this
  have R32 : Bs w (A.map fun a => ⟨a.block, a.off + 12, none⟩) 32 ((L.drop 12).take 32) := by
    have := HL.out.cut (k := 12) (m := 32) (c := c) (by omega) hnc
    rw [if_neg (by omega)] at this
    exact this
  have hlt : ∀ {A' : Option Addr} {m : Nat} {M : List Nat}, 0 < m → Bs w A' m M → ∀ w', Below w1.heap.size w1 w' → ∀ a, A' = some a → a.block < w'.heap.size := fun hm h w' b a e => by
    obtain ⟨a', e', hb, _⟩ := h.cel hm
    rw [e] at e'
    injection e' with e'
    subst e'
    have := b.size
    omega
  have N8 := Lib.hid (fun w' (b : Below w1.heap.size w1 w') => numberOf_any (c := c) w' (by decide) (R8.later (Below.both b1 b)) (hlt (by decide) R8 w' b))
  have N4 := Lib.hid (fun w' (b : Below w1.heap.size w1 w') => numberOf_any (c := c - 8) w' (by decide) (R4.later (Below.both b1 b)) (hlt (by decide) R4 w' b))
  have CH := Lib.hid (fun w' (b : Below w1.heap.size w1 w') => check_any (c := c) w' (HD.out.later HD.out.lt (Below.both b1 b)) (R12.later (Below.both b1 b)) (by decide) c12')
  have HR32 := Lib.hid (fun w' (b : Below w1.heap.size w1 w') => R32.later (Below.both b1 b))
  have hg8 : num (L.take 8) < 18446744073709551616 := by
    have := num_lt (L := L.take 8) (fun x hx => HL.out.byt x (List.mem_of_mem_take hx))
    rw [List.length_take, show min 8 L.length = 8 by have := HN.out; omega] at this
    exact this
  obtain ⟨g, hg⟩ : ∃ g, num (L.take 8) = g := ⟨_, rfl⟩
  obtain ⟨k, hk⟩ : ∃ k, num ((L.drop 8).take 4) = k := ⟨_, rfl⟩
  rw [hg] at N8 hg8
  rw [hk] at N4
  obtain ⟨G, hGG⟩ : ∃ G : Int, (g : Int) = G := ⟨_, rfl⟩
  have hG0 : 0 ≤ G := by omega
  have hG1 : G < 18446744073709551616 := by omega
  simp only [hGG] at N8
  have HGG := Lib.hid hGG
  have HG := Lib.hid hg
  have HKK := Lib.hid hk
  have HB1 := Lib.hid b1
  have HX1 := Lib.hid X1
  have HZ1 := Lib.hid z1
  clear hGG hL hLd R8 R12 R4 R32 hlt hg hk b1 X1 z1
  refine callsIn_of_wp_marks Tryz.func29 rfl trivial ?_ rfl
  simp only [Tryz.ntmps29, List.size_toArray, List.length_cons, List.length_nil, Nat.reduceAdd, Nat.reduceSub, Array.replicate_succ, Array.replicate_zero, List.push_toArray, List.append_toArray, List.nil_append, List.cons_append]
  refine wpIn_wide.2 (Code.wp_mono NoPanic.imp ?_)
  go_wp2_with fail
  rw [← hw1]
  clear hw1
  go_region_with (first
    | (go_at_call_of 69 (Value.slice A 8 c); refine (N8.out _ (by first | exact (Below.refl _ _).drew | assumption)).mono ?_; rintro e w2 ⟨rfl, b2⟩; have b2' := Below.both (w := w1) (by first | exact (Below.refl _ _).drew | assumption) b2; clear b2)
    | (go_at_call 69; refine (N4.out _ (by first | exact (Below.refl _ _).drew | assumption)).mono ?_; rintro e w2 ⟨rfl, b2⟩; have b2' := Below.both (w := w1) (by first | exact (Below.refl _ _).drew | assumption) b2; clear b2))
  go_wp2_with fail
  obtain ⟨w4, hw4⟩ : ∃ w4, w4 = w2.alloc (.cells #[.int .u64 G, .slice none 0 0, .int .i64 44] 83) := ⟨_, rfl⟩
  have b4 : Below w1.heap.size w1 w4 := by rw [hw4]; exact b2'.alloc b2'.size _
  have X4 : Ro w4 w2.heap.size 83 [.int .u64 G, .slice none 0 0, .int .i64 44] := by rw [hw4]; exact Ro.new w2 _ _
  have z4 : w4.heap.size = w2.heap.size + 1 := by rw [hw4]; simp
  have z21 : w1.heap.size ≤ w2.heap.size := b2'.size
  rw [← hw4]
  obtain ⟨Cb, hCb⟩ : ∃ Cb, w2.heap.size = Cb := ⟨_, rfl⟩
  rw [hCb] at X4 z4 z21 ⊢
  have B4 := Lib.hid b4
  have HX4 := Lib.hid X4
  have HZ4 := Lib.hid (show w4.heap.size = Cb + 1 ∧ w1.heap.size ≤ Cb from ⟨z4, z21⟩)
  have b4d : Below w1.heap.size w1 w4.drew := b4.drew
  clear hw4 X4 z4 z21 hCb b4 b2' N8 N4
  obtain ⟨E, hE⟩ : ∃ E, chkS (L.take 12) = E := ⟨_, rfl⟩
  obtain ⟨M, hM⟩ : ∃ M, (L.drop 12).take 32 = M := ⟨_, rfl⟩
  rw [hE] at CH
  rw [hM] at HR32
  have HE := Lib.hid hE
  have HM := Lib.hid hM
  clear hE hM
  have h44L : Hid (¬ L.length < 44) := Lib.hid (by rw [HN.out]; omega)
  by_cases heq : ¬ E = M
  · have hs : Hid (soundS f L = none) := Lib.hid (by unfold soundS; rw [if_neg h44L.out, HE.out, HM.out, if_pos heq])
    have hd : decide (E = M) = false := decide_eq_false heq
    clear heq
    refine wp_region_seg (W := w4) (by kernel_rfl) fun wa ga => ?_
    refine wpK_seg 0 2 (f := 20) (by kernel_rfl) (fun _ _ _ _ _ h => h) (by kernel_rfl) (by kernel_rfl) (by kernel_rfl) (ga) ?_
    apply Exists.intro
    refine ⟨?_, ?_⟩
    · intro wg hg
      simp only [List.drop_succ_cons, List.drop_zero, List.take_succ_cons, List.take_zero]
      repeat (go_big_quiet_step (fail))
      refine wpQuiet_nil ?_
      exact rfl
    refine wpK_seg 3 2 (f := 18) (by kernel_rfl) (fun _ _ _ _ _ h => h) (by kernel_rfl) (by kernel_rfl) (by kernel_rfl) (ga) ?_
    apply Exists.intro
    refine ⟨?_, ?_⟩
    · intro wg hg
      simp only [List.drop_succ_cons, List.drop_zero, List.take_succ_cons, List.take_zero]
      repeat (go_big_quiet_step (fail))
      refine wpQuiet_nil ?_
      exact rfl
    refine wpK_call (f := 17) (i := 2) (by kernel_rfl) rfl rfl ga ?_
    intro wb gb K hK
    go_simp
    have gb' : Below w4.heap.size w4 wb := gb
    with_reducible refine (CH.out wb (Below.both B4.out gb')).mono ?_
    clear gb'
    rintro e wc ⟨Ac, nc, cc, rfl, hcc, hcm, rc, bc⟩
    refine hK _ _ bc ?_
    have Yc := Lib.hid (Grows.trans gb bc)
    have Xc := Lib.hid rc
    clear hK K gb rc bc
    refine wpK_from Yc.out _ _ _ _ ?_
    refine wpK_seg 5 17 (f := 0) (by kernel_rfl) (fun _ _ _ _ _ h => h) (by kernel_rfl) (by kernel_rfl) (by kernel_rfl) (Grows.refl wc) ?_
    apply Exists.intro
    refine ⟨?_, ?_⟩
    · intro wg hg
      simp only [List.drop_succ_cons, List.drop_zero, List.take_succ_cons, List.take_zero]
      have CQ : Hid (∀ u : After wg, Calls Tryz.prog 70 #[.slice Ac nc cc, .slice (A.map fun a => ⟨a.block, a.off + 12, none⟩) 32 (c - 12)] u.w fun e w' => e = .returned (.bool (decide (E = M))) ∧ Below u.w.heap.size u.w w') := Lib.hid (fun u => (bytesEqual_any u.w ((Xc.out.later hg).later u.below) (HR32.out _ (Below.both (Below.both (Below.both B4.out Yc.out) hg) u.below))).mono fun e w' q => ⟨q.1, by rw [q.2]; exact Below.refl _ _⟩)
      rw [hd] at CQ
      repeat (go_big_quiet_step (exact after_call (CQ.out _)))
      refine wpQuiet_nil ?_
      exact rfl
    refine wpK_end (by kernel_rfl) ?_
    intro wf gf
    have bf : Below w1.heap.size w1 wf := Below.both (Below.both B4.out Yc.out) gf
    have bfc := Lib.hid (Grows.trans Yc.out gf)
    clear Xc Yc gf ga
    have Rf := HX1.out.later bf
    have x0 := Rf.cell (k := 0) rfl
    have x1 := Rf.cell (k := 1) rfl
    have x2 := Rf.cell (k := 2) rfl
    have y0 := Rf.free 0
    have y1 := Rf.free 1
    have y2 := Rf.free 2
    have BF := Lib.hid (Below.both HB1.out bf)
    have RS := Lib.hid (((Rf.set 0 (.int .u64 0)).set 1 (.slice none 0 0)).set 2 (.int .i64 0))
    clear Rf bf
    go_wp2_with fail
    refine ⟨.tuple #[contV 0 (.slice none 0 0) 0, .bool false], ?_, ContP.none_ (((BF.out.setCell (p := ⟨w.heap.size, 0, none⟩) (Nat.le_refl _) _).setCell (p := ⟨w.heap.size, 1, none⟩) (Nat.le_refl _) _).setCell (p := ⟨w.heap.size, 2, none⟩) (Nat.le_refl _) _) hs.out⟩
    exact results_content rfl RS.out rfl
  have heq2 : E = M := Decidable.not_not.1 heq
  have hd : decide (E = M) = true := decide_eq_true heq2
  have hns : ¬ (E ≠ M) := fun q => q heq2
  by_cases hg1 : G < 1
  · have g1 : decide (G < 1) = true := decide_eq_true hg1
    have hs : Hid (soundS f L = none) := Lib.hid (by unfold soundS; rw [if_neg h44L.out, HE.out, HM.out, if_neg hns, HG.out, if_pos (.inl (by have := HGG.out; omega))])
    clear heq heq2 hns hg1
    refine wp_region_seg (W := w4) (by kernel_rfl) fun wa ga => ?_
    refine wpK_seg 0 2 (f := 20) (by kernel_rfl) (fun _ _ _ _ _ h => h) (by kernel_rfl) (by kernel_rfl) (by kernel_rfl) (ga) ?_
    apply Exists.intro
    refine ⟨?_, ?_⟩
    · intro wg hg
      simp only [List.drop_succ_cons, List.drop_zero, List.take_succ_cons, List.take_zero]
      repeat (go_big_quiet_step (fail))
      refine wpQuiet_nil ?_
      exact rfl
    refine wpK_seg 3 2 (f := 18) (by kernel_rfl) (fun _ _ _ _ _ h => h) (by kernel_rfl) (by kernel_rfl) (by kernel_rfl) (ga) ?_
    apply Exists.intro
    refine ⟨?_, ?_⟩
    · intro wg hg
      simp only [List.drop_succ_cons, List.drop_zero, List.take_succ_cons, List.take_zero]
      repeat (go_big_quiet_step (fail))
      refine wpQuiet_nil ?_
      exact rfl
    refine wpK_call (f := 17) (i := 2) (by kernel_rfl) rfl rfl ga ?_
    intro wb gb K hK
    go_simp
    have gb' : Below w4.heap.size w4 wb := gb
    with_reducible refine (CH.out wb (Below.both B4.out gb')).mono ?_
    clear gb'
    rintro e wc ⟨Ac, nc, cc, rfl, hcc, hcm, rc, bc⟩
    refine hK _ _ bc ?_
    have Yc := Lib.hid (Grows.trans gb bc)
    have Xc := Lib.hid rc
    clear hK K gb rc bc
    refine wpK_from Yc.out _ _ _ _ ?_
    refine wpK_seg 5 17 (f := 0) (by kernel_rfl) (fun _ _ _ _ _ h => h) (by kernel_rfl) (by kernel_rfl) (by kernel_rfl) (Grows.refl wc) ?_
    apply Exists.intro
    refine ⟨?_, ?_⟩
    · intro wg hg
      simp only [List.drop_succ_cons, List.drop_zero, List.take_succ_cons, List.take_zero]
      have CQ : Hid (∀ u : After wg, Calls Tryz.prog 70 #[.slice Ac nc cc, .slice (A.map fun a => ⟨a.block, a.off + 12, none⟩) 32 (c - 12)] u.w fun e w' => e = .returned (.bool (decide (E = M))) ∧ Below u.w.heap.size u.w w') := Lib.hid (fun u => (bytesEqual_any u.w ((Xc.out.later hg).later u.below) (HR32.out _ (Below.both (Below.both (Below.both B4.out Yc.out) hg) u.below))).mono fun e w' q => ⟨q.1, by rw [q.2]; exact Below.refl _ _⟩)
      rw [hd] at CQ
      repeat (go_big_quiet_step (exact after_call (CQ.out _)))
      refine wpQuiet_nil ?_
      exact rfl
    refine wpK_end (by kernel_rfl) ?_
    intro wf gf
    have bf : Below w1.heap.size w1 wf := Below.both (Below.both B4.out Yc.out) gf
    have bfc := Lib.hid (Grows.trans Yc.out gf)
    clear Xc Yc gf ga
    have Rf := HX1.out.later bf
    have x0 := Rf.cell (k := 0) rfl
    have x1 := Rf.cell (k := 1) rfl
    have x2 := Rf.cell (k := 2) rfl
    have y0 := Rf.free 0
    have y1 := Rf.free 1
    have y2 := Rf.free 2
    have BF := Lib.hid (Below.both HB1.out bf)
    have RS := Lib.hid (((Rf.set 0 (.int .u64 0)).set 1 (.slice none 0 0)).set 2 (.int .i64 0))
    clear Rf bf
    go_wp2_with fail
    refine ⟨.tuple #[contV 0 (.slice none 0 0) 0, .bool false], ?_, ContP.none_ (((BF.out.setCell (p := ⟨w.heap.size, 0, none⟩) (Nat.le_refl _) _).setCell (p := ⟨w.heap.size, 1, none⟩) (Nat.le_refl _) _).setCell (p := ⟨w.heap.size, 2, none⟩) (Nat.le_refl _) _) hs.out⟩
    exact results_content rfl RS.out rfl
  have g1 : decide (G < 1) = false := decide_eq_false hg1
  by_cases hg2 : 4611686018427387904 < G
  · have g2 : decide (4611686018427387904 < G) = true := decide_eq_true hg2
    have hs : Hid (soundS f L = none) := Lib.hid (by unfold soundS; rw [if_neg h44L.out, HE.out, HM.out, if_neg hns, HG.out, if_pos (.inr (.inl (by have := HGG.out; omega)))])
    clear heq heq2 hns hg1 hg2
    refine wp_region_seg (W := w4) (by kernel_rfl) fun wa ga => ?_
    refine wpK_seg 0 2 (f := 20) (by kernel_rfl) (fun _ _ _ _ _ h => h) (by kernel_rfl) (by kernel_rfl) (by kernel_rfl) (ga) ?_
    apply Exists.intro
    refine ⟨?_, ?_⟩
    · intro wg hg
      simp only [List.drop_succ_cons, List.drop_zero, List.take_succ_cons, List.take_zero]
      repeat (go_big_quiet_step (fail))
      refine wpQuiet_nil ?_
      exact rfl
    refine wpK_seg 3 2 (f := 18) (by kernel_rfl) (fun _ _ _ _ _ h => h) (by kernel_rfl) (by kernel_rfl) (by kernel_rfl) (ga) ?_
    apply Exists.intro
    refine ⟨?_, ?_⟩
    · intro wg hg
      simp only [List.drop_succ_cons, List.drop_zero, List.take_succ_cons, List.take_zero]
      repeat (go_big_quiet_step (fail))
      refine wpQuiet_nil ?_
      exact rfl
    refine wpK_call (f := 17) (i := 2) (by kernel_rfl) rfl rfl ga ?_
    intro wb gb K hK
    go_simp
    have gb' : Below w4.heap.size w4 wb := gb
    with_reducible refine (CH.out wb (Below.both B4.out gb')).mono ?_
    clear gb'
    rintro e wc ⟨Ac, nc, cc, rfl, hcc, hcm, rc, bc⟩
    refine hK _ _ bc ?_
    have Yc := Lib.hid (Grows.trans gb bc)
    have Xc := Lib.hid rc
    clear hK K gb rc bc
    refine wpK_from Yc.out _ _ _ _ ?_
    refine wpK_seg 5 17 (f := 0) (by kernel_rfl) (fun _ _ _ _ _ h => h) (by kernel_rfl) (by kernel_rfl) (by kernel_rfl) (Grows.refl wc) ?_
    apply Exists.intro
    refine ⟨?_, ?_⟩
    · intro wg hg
      simp only [List.drop_succ_cons, List.drop_zero, List.take_succ_cons, List.take_zero]
      have CQ : Hid (∀ u : After wg, Calls Tryz.prog 70 #[.slice Ac nc cc, .slice (A.map fun a => ⟨a.block, a.off + 12, none⟩) 32 (c - 12)] u.w fun e w' => e = .returned (.bool (decide (E = M))) ∧ Below u.w.heap.size u.w w') := Lib.hid (fun u => (bytesEqual_any u.w ((Xc.out.later hg).later u.below) (HR32.out _ (Below.both (Below.both (Below.both B4.out Yc.out) hg) u.below))).mono fun e w' q => ⟨q.1, by rw [q.2]; exact Below.refl _ _⟩)
      rw [hd] at CQ
      repeat (go_big_quiet_step (exact after_call (CQ.out _)))
      refine wpQuiet_nil ?_
      exact rfl
    refine wpK_end (by kernel_rfl) ?_
    intro wf gf
    have bf : Below w1.heap.size w1 wf := Below.both (Below.both B4.out Yc.out) gf
    have bfc := Lib.hid (Grows.trans Yc.out gf)
    clear Xc Yc gf ga
    have Rf := HX1.out.later bf
    have x0 := Rf.cell (k := 0) rfl
    have x1 := Rf.cell (k := 1) rfl
    have x2 := Rf.cell (k := 2) rfl
    have y0 := Rf.free 0
    have y1 := Rf.free 1
    have y2 := Rf.free 2
    have BF := Lib.hid (Below.both HB1.out bf)
    have RS := Lib.hid (((Rf.set 0 (.int .u64 0)).set 1 (.slice none 0 0)).set 2 (.int .i64 0))
    clear Rf bf
    go_wp2_with fail
    refine ⟨.tuple #[contV 0 (.slice none 0 0) 0, .bool false], ?_, ContP.none_ (((BF.out.setCell (p := ⟨w.heap.size, 0, none⟩) (Nat.le_refl _) _).setCell (p := ⟨w.heap.size, 1, none⟩) (Nat.le_refl _) _).setCell (p := ⟨w.heap.size, 2, none⟩) (Nat.le_refl _) _) hs.out⟩
    exact results_content rfl RS.out rfl
  have g2 : decide (4611686018427387904 < G) = false := decide_eq_false hg2
  by_cases hg3 : ¬ G % 2 = (f : Int)
  · have g3 : (G % 2 != (f : Int)) = true := by rw [bne_iff_ne]; exact hg3
    have hs : Hid (soundS f L = none) := Lib.hid (by unfold soundS; rw [if_neg h44L.out, HE.out, HM.out, if_neg hns, HG.out, if_pos (.inr (.inr (by have := HGG.out; omega)))])
    clear heq heq2 hns hg1 hg2 hg3
    refine wp_region_seg (W := w4) (by kernel_rfl) fun wa ga => ?_
    refine wpK_seg 0 2 (f := 20) (by kernel_rfl) (fun _ _ _ _ _ h => h) (by kernel_rfl) (by kernel_rfl) (by kernel_rfl) (ga) ?_
    apply Exists.intro
    refine ⟨?_, ?_⟩
    · intro wg hg
      simp only [List.drop_succ_cons, List.drop_zero, List.take_succ_cons, List.take_zero]
      repeat (go_big_quiet_step (fail))
      refine wpQuiet_nil ?_
      exact rfl
    refine wpK_seg 3 2 (f := 18) (by kernel_rfl) (fun _ _ _ _ _ h => h) (by kernel_rfl) (by kernel_rfl) (by kernel_rfl) (ga) ?_
    apply Exists.intro
    refine ⟨?_, ?_⟩
    · intro wg hg
      simp only [List.drop_succ_cons, List.drop_zero, List.take_succ_cons, List.take_zero]
      repeat (go_big_quiet_step (fail))
      refine wpQuiet_nil ?_
      exact rfl
    refine wpK_call (f := 17) (i := 2) (by kernel_rfl) rfl rfl ga ?_
    intro wb gb K hK
    go_simp
    have gb' : Below w4.heap.size w4 wb := gb
    with_reducible refine (CH.out wb (Below.both B4.out gb')).mono ?_
    clear gb'
    rintro e wc ⟨Ac, nc, cc, rfl, hcc, hcm, rc, bc⟩
    refine hK _ _ bc ?_
    have Yc := Lib.hid (Grows.trans gb bc)
    have Xc := Lib.hid rc
    clear hK K gb rc bc
    refine wpK_from Yc.out _ _ _ _ ?_
    refine wpK_seg 5 17 (f := 0) (by kernel_rfl) (fun _ _ _ _ _ h => h) (by kernel_rfl) (by kernel_rfl) (by kernel_rfl) (Grows.refl wc) ?_
    apply Exists.intro
    refine ⟨?_, ?_⟩
    · intro wg hg
      simp only [List.drop_succ_cons, List.drop_zero, List.take_succ_cons, List.take_zero]
      have CQ : Hid (∀ u : After wg, Calls Tryz.prog 70 #[.slice Ac nc cc, .slice (A.map fun a => ⟨a.block, a.off + 12, none⟩) 32 (c - 12)] u.w fun e w' => e = .returned (.bool (decide (E = M))) ∧ Below u.w.heap.size u.w w') := Lib.hid (fun u => (bytesEqual_any u.w ((Xc.out.later hg).later u.below) (HR32.out _ (Below.both (Below.both (Below.both B4.out Yc.out) hg) u.below))).mono fun e w' q => ⟨q.1, by rw [q.2]; exact Below.refl _ _⟩)
      rw [hd] at CQ
      repeat (go_big_quiet_step (exact after_call (CQ.out _)))
      refine wpQuiet_nil ?_
      exact rfl
    refine wpK_end (by kernel_rfl) ?_
    intro wf gf
    have bf : Below w1.heap.size w1 wf := Below.both (Below.both B4.out Yc.out) gf
    have bfc := Lib.hid (Grows.trans Yc.out gf)
    clear Xc Yc gf ga
    have Rf := HX1.out.later bf
    have x0 := Rf.cell (k := 0) rfl
    have x1 := Rf.cell (k := 1) rfl
    have x2 := Rf.cell (k := 2) rfl
    have y0 := Rf.free 0
    have y1 := Rf.free 1
    have y2 := Rf.free 2
    have BF := Lib.hid (Below.both HB1.out bf)
    have RS := Lib.hid (((Rf.set 0 (.int .u64 0)).set 1 (.slice none 0 0)).set 2 (.int .i64 0))
    clear Rf bf
    go_wp2_with fail
    refine ⟨.tuple #[contV 0 (.slice none 0 0) 0, .bool false], ?_, ContP.none_ (((BF.out.setCell (p := ⟨w.heap.size, 0, none⟩) (Nat.le_refl _) _).setCell (p := ⟨w.heap.size, 1, none⟩) (Nat.le_refl _) _).setCell (p := ⟨w.heap.size, 2, none⟩) (Nat.le_refl _) _) hs.out⟩
    exact results_content rfl RS.out rfl
  have g3 : (G % 2 != (f : Int)) = false := by rw [bne_eq_false_iff_eq]; exact Decidable.not_not.1 hg3
  have hs : Hid (soundS f L = if (recsS g (L.drop 44)).length < k then none else some (g, recsS g (L.drop 44), 44 + wideS (recsS g (L.drop 44)))) := Lib.hid (by unfold soundS; rw [if_neg h44L.out, HE.out, HM.out, if_neg hns, HG.out, if_neg (by have := HGG.out; omega), HKK.out])
  clear heq heq2 hns hg1 hg2 hg3
  rcases Nat.lt_or_ge 44 c with hc44 | hc44
  · have c44n : ¬ c = 44 := by omega
    have RL : Bs w (A.map fun a => ⟨a.block, a.off + 44, none⟩) (n - 44) (L.drop 44) := by
      have := HL.out.cut (k := 44) (m := n - 44) (c := c) (by omega) hnc
      rw [if_neg (by omega), List.take_of_length_le (by rw [List.length_drop]; have := HN.out; omega)] at this
      exact this
    refine wp_region_seg (W := w4) (by kernel_rfl) fun wa ga => ?_
    refine wpK_seg 0 2 (f := 20) (by kernel_rfl) (fun _ _ _ _ _ h => h) (by kernel_rfl) (by kernel_rfl) (by kernel_rfl) (ga) ?_
    apply Exists.intro
    refine ⟨?_, ?_⟩
    · intro wg hg
      simp only [List.drop_succ_cons, List.drop_zero, List.take_succ_cons, List.take_zero]
      repeat (go_big_quiet_step (fail))
      refine wpQuiet_nil ?_
      exact rfl
    refine wpK_seg 3 2 (f := 18) (by kernel_rfl) (fun _ _ _ _ _ h => h) (by kernel_rfl) (by kernel_rfl) (by kernel_rfl) (ga) ?_
    apply Exists.intro
    refine ⟨?_, ?_⟩
    · intro wg hg
      simp only [List.drop_succ_cons, List.drop_zero, List.take_succ_cons, List.take_zero]
      repeat (go_big_quiet_step (fail))
      refine wpQuiet_nil ?_
      exact rfl
    refine wpK_call (f := 17) (i := 2) (by kernel_rfl) rfl rfl ga ?_
    intro wb gb K hK
    go_simp
    have gb' : Below w4.heap.size w4 wb := gb
    with_reducible refine (CH.out wb (Below.both B4.out gb')).mono ?_
    clear gb'
    rintro e wc ⟨Ac, nc, cc, rfl, hcc, hcm, rc, bc⟩
    refine hK _ _ bc ?_
    have Yc := Lib.hid (Grows.trans gb bc)
    have Xc := Lib.hid rc
    clear hK K gb rc bc
    refine wpK_from Yc.out _ _ _ _ ?_
    refine wpK_seg 5 17 (f := 0) (by kernel_rfl) (fun _ _ _ _ _ h => h) (by kernel_rfl) (by kernel_rfl) (by kernel_rfl) (Grows.refl wc) ?_
    apply Exists.intro
    refine ⟨?_, ?_⟩
    · intro wg hg
      simp only [List.drop_succ_cons, List.drop_zero, List.take_succ_cons, List.take_zero]
      have CQ : Hid (∀ u : After wg, Calls Tryz.prog 70 #[.slice Ac nc cc, .slice (A.map fun a => ⟨a.block, a.off + 12, none⟩) 32 (c - 12)] u.w fun e w' => e = .returned (.bool (decide (E = M))) ∧ Below u.w.heap.size u.w w') := Lib.hid (fun u => (bytesEqual_any u.w ((Xc.out.later hg).later u.below) (HR32.out _ (Below.both (Below.both (Below.both B4.out Yc.out) hg) u.below))).mono fun e w' q => ⟨q.1, by rw [q.2]; exact Below.refl _ _⟩)
      rw [hd] at CQ
      repeat (go_big_quiet_step (exact after_call (CQ.out _)))
      refine wpQuiet_nil ?_
      exact rfl
    refine wpK_end (by kernel_rfl) ?_
    intro wf gf
    have bf : Below w1.heap.size w1 wf := Below.both (Below.both B4.out Yc.out) gf
    have bfc := Lib.hid (Grows.trans Yc.out gf)
    clear Xc Yc gf ga
    have WI := Lib.hid (fun u => callsIn_wide.1 (whole_in g (A.map fun a => ⟨a.block, a.off + 44, none⟩) (n - 44) (c - 44) u))
    simp only [HGG.out] at WI
    go_wp2_with (go_at_call 72; refine (WI.out _).mono ?_; rintro e w6 ⟨rfl, rfl⟩)
    obtain ⟨w5, hw5⟩ : ∃ w5, w5 = (wf.alloc (.cells #[.slice (A.map fun a => ⟨a.block, a.off + 44, none⟩) (n - 44) (c - 44)] 40)).alloc (.cells #[.int .u64 G] 49) := ⟨_, rfl⟩
    have b5 : Below w1.heap.size w1 w5 := by rw [hw5]; exact (bf.alloc bf.size _).alloc (by rw [World.size_alloc]; have := bf.size; omega) _
    have z5 : w5.heap.size = wf.heap.size + 2 := by rw [hw5]; simp
    have bf5 : Below wf.heap.size wf w5 := by rw [hw5]; exact ((Below.refl _ _).alloc (Nat.le_refl _) _).alloc (by rw [World.size_alloc]; omega) _
    have xB : Boxed w5 wf.heap.size 40 (.slice (A.map fun a => ⟨a.block, a.off + 44, none⟩) (n - 44) (c - 44)) := by rw [hw5]; exact (Boxed.new wf _ _).alloc _
    have xG : Boxed w5 (wf.heap.size + 1) 49 (.int .u64 (g : Nat)) := by
      rw [hw5, HGG.out]
      have := Boxed.new (wf.alloc (.cells #[.slice (A.map fun a => ⟨a.block, a.off + 44, none⟩) (n - 44) (c - 44)] 40)) 49 (.int .u64 G)
      rwa [World.size_alloc] at this
    have B5w : Below w.heap.size w w5 := Below.both HB1.out b5
    have XC : Ro w5 Cb 83 [.int .u64 (g : Nat), .slice none 0 0, .int .i64 ((44 + wideS [] : Nat) : Int)] := by
      have := (HX4.out.later bfc.out).later bf5
      rw [HGG.out]
      exact this
    have XR := HX1.out.later b5
    obtain ⟨Bx, hBx⟩ : ∃ Bx, wf.heap.size = Bx := ⟨_, rfl⟩
    have hCB : Cb ≠ Bx := by have := HZ4.out; have := bfc.out.size; omega
    have hCw : w.heap.size < Cb := by have := HZ4.out; have := HZ1.out; omega
    have hBw : w.heap.size < Bx := by have := bf.size; have := HZ1.out; omega
    have HCB : Hid (Cb < Bx) := Lib.hid (by have := HZ4.out; have := bfc.out.size; omega)
    have hCb5 : Cb < w5.heap.size := by have := HZ4.out; have := bfc.out.size; omega
    have hBx5 : w5.heap.size = Bx + 2 := by omega
    have J5 : CntJ w Cb Bx g [] (.slice none 0 0) w5 := ⟨XR, XC, OwnRw.none_ B5w, fun q e => (by cases e), by omega⟩
    rw [← hw5]
    rw [hBx] at xB xG ⊢
    obtain ⟨L', hL'⟩ : ∃ L', L.drop 44 = L' := ⟨_, rfl⟩
    rw [hL'] at hs RL
    have HLL : Hid (L'.length = n - 44) := Lib.hid RL.len
    have HRL := Lib.hid RL
    have HXB := Lib.hid xB
    have HXG := Lib.hid xG
    have HJ5 := Lib.hid J5
    have HB5 := Lib.hid B5w
    clear hw5 b5 z5 bf5 xB xG B5w XC XR hBx J5 RL hL' bfc WI bf
    refine (wpIn_wide (n := 3)).1 ?_
    have Q0h : ∃ Q0 : Nat → Prop, Q0 = fun b => b = Bx ∨ b = Bx + 1 ∨ b < w.heap.size := ⟨_, rfl⟩
    obtain ⟨Q0, hQ0⟩ := Q0h
    have hq : ∀ b, Q0 b ↔ (b = Bx ∨ b = Bx + 1 ∨ b < w.heap.size) := fun b => by rw [hQ0]
    have HQ := Lib.hid hq
    have two : Hid (2 ≤ w.heap.size) := Lib.hid HD.out.lt
    clear hq hQ0
    refine' range_turns (w := w5) rfl (by decide) (gf := 97) (lb := #[.pointer (some ⟨Bx, 0, none⟩), .pointer (some ⟨Bx + 1, 0, none⟩)]) rfl trivial (enters_of Tryz.func97 (by kernel_rfl) rfl)
      (encs := trV) (Tn := Tw Bx) (Kp := Kq Q0) (S := AllR g (A.map fun a => ⟨a.block, a.off + 44, none⟩) (c - 44) L') (Sp := TellsR g (A.map fun a => ⟨a.block, a.off + 44, none⟩) (c - 44) L')
      (whole_turns Bx (Bx + 1) g (A.map fun a => ⟨a.block, a.off + 44, none⟩) (n - 44) (c - 44) L' hg8 (by omega) (by omega) (by omega) Q0 ((HQ.out _).2 (.inl rfl)) ((HQ.out _).2 (.inr (.inl rfl))) ((HQ.out _).2 (.inr (.inr (by have := two.out; omega)))) ((HQ.out _).2 (.inr (.inr (by have := two.out; omega)))) (by omega) (by have := two.out; omega)
        (fun h0 a e => by
          obtain ⟨a', e', hb, _⟩ := HRL.out.cel h0
          rw [e] at e'
          injection e' with e'
          subst e'
          exact ⟨(HQ.out _).2 (.inr (.inr hb)), by omega⟩) w5 HXB.out HXG.out (HRL.out.later HB5.out) (HD.out.later HD.out.lt HB5.out)) (fun A B h => h.oth)
      kq_t (kq_b fun b hb => by have := (HQ.out b).1 hb; have := HB5.out.size; omega) (fun _ => rfl)
      (fun pre W => ∃ v, CntJ w Cb Bx g (pre.map (·.2.2)) v W) (fun _ _ _ => False)
      (fun s X Y row hs hg hr => by
        obtain ⟨v, hs⟩ := hs
        exact ⟨v, hs.keep hCB hBw (Keeps.of_grown hs.bel.size hg fun r e => ⟨by have := (hr r e).1; have := HB5.out.size; omega, (hr r e).2⟩)⟩)
      (fun cd s X Y row hs hg hr => hs.elim)
      (fun s X Y hs ht => by
        obtain ⟨v, hs⟩ := hs
        exact ⟨v, hs.keep hCB hBw (Keeps.of_tw (by omega) hs.bel.size ht)⟩)
      ⟨_, HJ5.out⟩ _ ?assign ?body ?done ?stop
    case assign =>
      intro l x W K hK
      dsimp only [trV]
      gi_wp2
      exact hK
    case stop => exact fun D cd pre W hD hS h hK => h.elim
    case done =>
      rintro D ys W hD ⟨hall, _⟩ ⟨v, J⟩ hK
      rw [hall] at J
      have hwd := wide_whole g L'.length 0 L'
      rw [show wholeS g L'.length 0 L' = recsS g L' from rfl] at hwd
      obtain ⟨R, hR⟩ : ∃ R, recsS g L' = R := ⟨_, rfl⟩
      rw [hR] at J hwd
      have hs' := Lib.hid hs.out
      rw [hR] at hs'
      have hRl : R.length ≤ 1073741824 := by
        have := wideS_len R
        have := HLL.out
        omega
      obtain ⟨vA, vc, rfl, _⟩ := J.own.shape
      obtain ⟨S0, hS0⟩ : ∃ S0, 44 + wideS R = S0 := ⟨_, rfl⟩
      have c0 := J.box.cell (k := 0) rfl
      have c1 := J.box.cell (k := 1) rfl
      have c2 := J.box.cell (k := 2) rfl
      rw [hS0] at c2
      have r0 := J.res.cell (k := 0) rfl
      have r1 := J.res.cell (k := 1) rfl
      have r2 := J.res.cell (k := 2) rfl
      have y0 := J.res.free 0
      have y1 := J.res.free 1
      have y2 := J.res.free 2
      have HK := Lib.hid hK
      have HJ := Lib.hid J
      obtain ⟨rl, hrl⟩ : ∃ rl, R.length = rl := ⟨_, rfl⟩
      have HRL2 := Lib.hid hrl
      have HS0 := Lib.hid hS0
      rw [hrl] at c1 hRl
      clear J hK hwd hall hR hrl hS0
      obtain ⟨W9, hW9⟩ : ∃ W9, W9 = (((W.setCell ⟨w.heap.size, 0, none⟩ (.int .u64 (g : Nat))).setCell ⟨w.heap.size, 1, none⟩ (.slice vA rl vc)).setCell ⟨w.heap.size, 2, none⟩ (.int .i64 (S0 : Nat))).drew := ⟨_, rfl⟩
      have o9 : ∀ b, b ≠ w.heap.size → W9.heap[b]? = W.heap[b]? := fun b hb => by
        rw [hW9]
        exact ((Below.heap_setCell _ ⟨w.heap.size, 2, none⟩ _ b hb).trans (Below.heap_setCell _ ⟨w.heap.size, 1, none⟩ _ b hb)).trans (Below.heap_setCell _ ⟨w.heap.size, 0, none⟩ _ b hb)
      have s9 : W9.heap.size = W.heap.size := by rw [hW9]; simp [World.setCell]
      have d9 : w.heap.size < D := by have := HB5.out.size; omega
      have k9 : W9.heap[D]? = some (.deferred (some [])) := (o9 D (by omega)).trans HK.out
      have b9 : Below w.heap.size w W9 := by
        rw [hW9]
        exact (((HJ.out.bel.setCell (p := ⟨w.heap.size, 0, none⟩) (Nat.le_refl _) _).setCell (p := ⟨w.heap.size, 1, none⟩) (Nat.le_refl _) _).setCell (p := ⟨w.heap.size, 2, none⟩) (Nat.le_refl _) _).drew
      have R9 : Ro W9 w.heap.size 83 [.int .u64 (g : Nat), .slice vA rl vc, .int .i64 (S0 : Nat)] := by
        rw [hW9]
        exact ((HJ.out.res.set 0 _).set 1 _).set 2 _
      have g10 := grownBy_putObj' W9 D (.deferred none)
      have b10 : Below w.heap.size w (W9.putObj D (.deferred none)) := b9.grown g10 (by rw [s9]; exact HJ.out.bel.size) (fun q e => by injection e with e; omega)
      have R10 : Ro (W9.putObj D (.deferred none)) w.heap.size 83 [.int .u64 (g : Nat), .slice vA rl vc, .int .i64 (S0 : Nat)] := R9.same (World.putObj_heap_other (by omega))
      have O10 : OwnRw 40 1 ByR w (fun b => w.heap.size ≤ b) (.slice vA R.length vc) R.length R (W9.putObj D (.deferred none)) := by
        refine OwnRw.weak (P := cellP w.heap.size Cb Bx W) byM (HJ.out.own.same byM ⟨by have := g10.size; omega, fun b hb _ => ?_⟩ b10) fun b hb _ => Nat.le_of_lt hb.1
        have hc : w.heap.size < b ∧ ∃ o, W.heap[b]? = some o ∧ o.isCells = true := by
          rcases hb with hb | hb
          · exact ⟨hb.1, hb.2.2.2⟩
          · exact ⟨(HJ.out.new b hb).1, HJ.out.own.cellsBlock hb⟩
        obtain ⟨h1, o, h2, h3⟩ := hc
        have hbD : D ≠ b := fun e => by
          subst e
          have := HK.out
          rw [h2] at this
          injection this with this
          subst this
          cases h3
        exact (World.putObj_heap_other (by omega)).trans (o9 b (by omega))
      have HK9 := Lib.hid k9
      have HB10 := Lib.hid b10
      have HR10 := Lib.hid R10
      have HO10 := Lib.hid O10
      clear o9 s9 d9 k9 b9 R9 g10 b10 R10 O10
      by_cases hkl : k ≤ rl
      · have t9 : decide ((k : Int) ≤ (rl : Int)) = true := decide_eq_true (by omega)
        have CP : Hid (ContP w f L (.returned (.tuple #[contV g (.slice vA rl vc) S0, .bool true])) (W9.putObj D (.deferred none))) := Lib.hid (by
          have e := hs'.out
          rw [if_neg (by rw [HRL2.out]; omega), HS0.out] at e
          refine ⟨HB10.out, g, vA, rl, vc, S0, by rw [e]; rfl, fun x hx => ?_⟩
          rw [e] at hx
          injection hx with hx
          subst hx
          refine ⟨rfl, rfl, ?_⟩
          have := HO10.out
          rw [HRL2.out] at this
          show OwnRw _ 1 ByR w _ _ R.length R _
          rw [HRL2.out]
          exact this)
        go_wp2_with fail
        go_region
        rw [← hW9]
        clear hW9
        go_wp2_with fail
        refine ⟨by simp, .inl ⟨_, _, rfl, run_takeDeferred HK9.out, .tuple #[contV g (.slice vA rl vc) S0, .bool true], results_content rfl HR10.out rfl, CP.out⟩⟩
      · have t9 : decide ((k : Int) ≤ (rl : Int)) = false := decide_eq_false (by omega)
        have CP : Hid (ContP w f L (.returned (.tuple #[contV g (.slice vA rl vc) S0, .bool false])) (W9.putObj D (.deferred none))) := Lib.hid (ContP.none_ HB10.out (by
          have e := hs'.out
          rwa [if_pos (by rw [HRL2.out]; omega)] at e))
        go_wp2_with fail
        go_region
        rw [← hW9]
        clear hW9
        go_wp2_with fail
        refine ⟨by simp, .inl ⟨_, _, rfl, run_takeDeferred HK9.out, .tuple #[contV g (.slice vA rl vc) S0, .bool false], results_content rfl HR10.out rfl, CP.out⟩⟩
    case body =>
      rintro l pre ⟨xa, xc, r⟩ W ⟨v, J⟩ ⟨⟨tl, htl⟩, hsub⟩
      have mixed : Tryz.prog.follows .mixedOrders = true := by kernel_rfl
      have hxs := hsub _ (List.mem_append_right _ (List.mem_singleton.2 rfl))
      have BW := HB5.out.trans ((show Below w5.heap.size w5 w5 from Below.refl _ _).mono HB5.out.size)
      have RB : Bs W xa r.length r := hxs.bs (by rw [HLL.out]; exact HRL.out.later J.bel) (by rw [HLL.out]; omega)
      obtain ⟨p, hp1, hp2, hp3, hp4⟩ := hxs
      dsimp only at hp1 hp2 hp3 hp4 ⊢
      have hxc : r.length ≤ xc := by rw [HLL.out] at hp1; omega
      have hwd := wide_whole g L'.length 0 L'
      rw [show wholeS g L'.length 0 L' = recsS g L' from rfl, ← htl, List.map_append, wideS_app, wideS_app] at hwd
      have hw1 : wideS (pre.map (·.2.2)) + (36 + r.length) ≤ 1073741824 := by
        have e : wideS (List.map (fun x : Tr => x.2.2) [(xa, xc, r)]) = 36 + r.length := by simp [wideS]
        rw [e] at hwd
        have := HLL.out
        omega
      have hpl : (pre.map (·.2.2)).length ≤ 1000000000 := by
        have := wideS_len (pre.map (·.2.2))
        omega
      have EN : (pre ++ [(xa, xc, r)]).map (·.2.2) = pre.map (·.2.2) ++ [r] := by rw [List.map_append]; rfl
      have HEN := Lib.hid EN
      obtain ⟨pm, hpm⟩ : ∃ pm, pre.map (·.2.2) = pm := ⟨_, rfl⟩
      rw [hpm] at J hw1 hpl HEN
      have OWNs := J.own.shape
      obtain ⟨vA, vc, rfl, _⟩ := OWNs
      have hnv : ∀ q, (Value.slice vA pm.length vc).ownBlock = some q → q < W.heap.size := fun q e => (J.own.new q e).2
      have HNV := Lib.hid hnv
      obtain ⟨S0, hS0⟩ : ∃ S0, 44 + wideS pm = S0 := ⟨_, rfl⟩
      have SUM : Hid ((S0 : Int) + (4 + (r.length : Int) + 32) = ((44 + wideS (pm ++ [r]) : Nat) : Int)) := Lib.hid (by
        rw [← hS0, wideS_app]
        have e : wideS [r] = 36 + r.length := by simp [wideS]
        rw [e]
        omega)
      have hS0b : S0 ≤ 1100000000 := by rw [← hS0]; omega
      have hml : r.length ≤ 1073741824 := by omega
      have HS0 := Lib.hid hS0
      have hQW : ∀ b, Q0 b → b < W.heap.size := fun b hb => by have := (HQ.out b).1 hb; have := J.size; omega
      have HQW := Lib.hid hQW
      have hQC : ¬ Q0 Cb := fun hb => by have := (HQ.out _).1 hb; have := HCB.out; omega
      have HQC := Lib.hid hQC
      have hCbW : Cb < W.heap.size := J.box.lt
      have HJ := Lib.hid J
      have KX : Hid (Below W.heap.size W W.drew) := Lib.hid (Below.refl _ _).drew
      have c1X := (J.later hCB hBw KX.out).box.cell (k := 1) rfl
      have hwW : w.heap.size < W.heap.size := by have := J.size; omega
      have hBW : Bx < W.heap.size := by have := J.size; omega
      have CL := Lib.hid (clone_any (w := W.drew) (RB.later KX.out) (by omega) hxc)
      obtain ⟨m, hm⟩ : ∃ m, r.length = m := ⟨_, rfl⟩
      have HM := Lib.hid hm
      rw [hm] at CL SUM hml hxc
      obtain ⟨pl, hpl2⟩ : ∃ pl, pm.length = pl := ⟨_, rfl⟩
      have HPL := Lib.hid hpl2
      rw [hpl2] at c1X hpl
      simp only [hm]
      clear BW RB hp1 hp2 hp3 hp4 hwd hw1 EN htl hsub hpm hnv hS0 hQW hQC J hm hpl2
      gi_wp2
      refine wpIn_region_plain mixed (fun ⟨_, _, h⟩ => h) (by kernel_rfl) ?_
      change wpAny _ _ _ _ _ _ _ (World.drew _)
      refine wpAny_take (i := 0) (v := ?_) rfl (by kernel_rfl) (by kernel_rfl) (by kernel_rfl) (fun _ _ _ h => h) (Or.inl ⟨by rfl, ?_⟩) ?_
      rotate_left
      · intro w
        go_simp
        try with_reducible rfl
      show wpAny _ _ _ _ _ _ (Act.put _ (some 50) _) _
      simp only [Act.put, List.setIfInBounds_toArray, List.set_cons_succ, List.set_cons_zero]
      refine wpAny_take (i := 2) (v := ?_) rfl (by kernel_rfl) (by kernel_rfl) (by kernel_rfl) (fun _ _ _ h => h) (Or.inl ⟨by rfl, ?_⟩) ?_
      rotate_left
      · intro w
        go_simp
        try with_reducible rfl
      show wpAny _ _ _ _ _ _ (Act.put _ (some 52) _) _
      simp only [Act.put, List.setIfInBounds_toArray, List.set_cons_succ, List.set_cons_zero]
      refine wpAny_ready (rs := [1, 3]) (by kernel_rfl) (by simp) ?_
      refine AllReady.cons rfl (fun K hK => ?_) (AllReady.cons rfl (fun K hK => ?_) AllReady.nil)
      · go_simp
        refine hK _ _ ?_
        clear hK K
        try simp only [Act.put, List.setIfInBounds_toArray, List.set_cons_succ, List.set_cons_zero]
        refine wpAny_ready (rs := [3]) (by kernel_rfl) (by simp) ?_
        refine AllReady.cons rfl (fun K hK => ?_) AllReady.nil
        go_simp
        with_reducible refine CL.out.mono ?_
        rintro e wc ⟨Ac, nc, cc, rfl, hcc, Oc⟩
        have K1 := Lib.hid (KX.out.trans (Oc.bel.mono KX.out.size))
        have J1 := HJ.out.later hCB hBw K1.out
        have c1c := J1.box.cell (k := 1) rfl
        rw [HPL.out] at c1c
        have K2 := Lib.hid (K1.out.trans (((Below.refl wc.heap.size wc).alloc (Nat.le_refl _) (.cells #[.slice Ac nc cc] 40)).mono K1.out.size))
        have J2 := Lib.hid (HJ.out.later hCB hBw K2.out)
        have c1z := J2.out.box.cell (k := 1) rfl
        rw [HPL.out] at c1z
        have O2 := J2.out.own.apart byM
        rw [HPL.out] at O2
        have HO2 := Lib.hid O2
        have EC := Lib.hid (new_elem (s := w.heap.size) (Cb := Cb) (Bx := Bx) (v := Value.slice vA pl vc) hcc Oc ((Below.refl wc.heap.size wc).alloc (Nat.le_refl _) (.cells #[.slice Ac nc cc] 40)) (by rw [HM.out]; omega) hwW hCbW hBW (by rw [← HPL.out]; exact HNV.out))
        clear J1 Oc O2
        go_simp
        refine hK _ _ ?_
        clear hK K
        try simp only [Act.put, List.setIfInBounds_toArray, List.set_cons_succ, List.set_cons_zero]
        refine wpAny_ready (rs := [4]) (by kernel_rfl) (by simp) ?_
        refine AllReady.cons rfl (fun K hK => ?_) AllReady.nil
        go_simp
        refine hK _ _ ?_
        clear hK K
        try simp only [Act.put, List.setIfInBounds_toArray, List.set_cons_succ, List.set_cons_zero]
        refine wpAny_ready (rs := [5]) (by kernel_rfl) (by simp) ?_
        refine AllReady.cons rfl (fun K hK => ?_) AllReady.nil
        refine step_wp rfl (wp_appRw (d := some 55) (k := [r]) (m := 1) (c := 1) elemB byM rfl (.tmp 51) (.tmp 54) rfl rfl HO2.out rfl rfl (fun _ => ⟨_, _, rfl, range_one _ _ _⟩) EC.out (fun u hu => by rw [List.mem_singleton] at hu; subst hu; rfl) rfl (by omega) (by omega) ?_)
        intro A6 c6 w6 hc6 O6 g6 n6
        have O7 := O6
        rw [← HPL.out] at O7
        have J6 := Lib.hid (J2.out.next hCw (Nat.lt_of_lt_of_le hCbW K2.out.size) O7 (by rw [HPL.out]; exact g6) (by rw [HPL.out]; exact n6))
        clear O7
        have R6 := J2.out.box.far (by rw [HPL.out]; exact g6) (fun e => (J2.out.new _ e.symm).2.1 rfl)
        rw [HPL.out, HS0.out] at R6
        have q1 := R6.cell (k := 1) rfl
        have y1 := R6.free 1
        have q2 := R6.cell (k := 2) rfl
        have y2 := R6.free 2
        have KE := Lib.hid ((((Kx.below (D := w5.heap.size) (Q := Q0) HQW.out K2.out).trans (Kx.row (D := w5.heap.size) (Q := Q0) J2.out.own (by rw [HPL.out]; exact g6) (fun b hb => ⟨Nat.lt_of_lt_of_le (HQW.out b hb) K2.out.size, fun e => by have := J2.out.new b e; have := (HQ.out b).1 hb; omega⟩))).trans (Kx.set (D := w5.heap.size) (Q := Q0) w6 ⟨Cb, 1, none⟩ (.slice A6 (pl + 1) c6) HQC.out)).trans (Kx.set (D := w5.heap.size) (Q := Q0) _ ⟨Cb, 2, none⟩ (.int .i64 ((44 + wideS (pm ++ [r]) : Nat) : Int)) HQC.out))
        clear O6 g6 n6 R6 HO2 J2 c1c c1z EC
        refine hK _ _ ?_
        clear hK K
        try simp only [Act.put, List.setIfInBounds_toArray, List.set_cons_succ, List.set_cons_zero]
        refine wpAny_ready (rs := [6]) (by kernel_rfl) (by simp) ?_
        refine AllReady.cons rfl (fun K hK => ?_) AllReady.nil
        go_simp
        refine hK _ _ ?_
        clear hK K
        try simp only [Act.put, List.setIfInBounds_toArray, List.set_cons_succ, List.set_cons_zero]
        refine wpAny_ready (rs := [7]) (by kernel_rfl) (by simp) ?_
        refine AllReady.cons rfl (fun K hK => ?_) AllReady.nil
        go_simp
        refine hK _ _ ?_
        clear hK K
        try simp only [Act.put, List.setIfInBounds_toArray, List.set_cons_succ, List.set_cons_zero]
        refine wpAny_done (by kernel_rfl) ?_ _
        gi_wp2
        rw [SUM.out]
        refine ⟨KE.out.1, KE.out.2, .slice A6 (pl + 1) c6, ?_⟩
        rw [HEN.out]
        have q6 := J6.out
        rw [HPL.out] at q6
        exact q6
      · go_simp
        with_reducible refine CL.out.mono ?_
        rintro e wc ⟨Ac, nc, cc, rfl, hcc, Oc⟩
        have K1 := Lib.hid (KX.out.trans (Oc.bel.mono KX.out.size))
        have J1 := HJ.out.later hCB hBw K1.out
        have c1c := J1.box.cell (k := 1) rfl
        rw [HPL.out] at c1c
        have K2 := Lib.hid (K1.out.trans (((Below.refl wc.heap.size wc).alloc (Nat.le_refl _) (.cells #[.slice Ac nc cc] 40)).mono K1.out.size))
        have J2 := Lib.hid (HJ.out.later hCB hBw K2.out)
        have c1z := J2.out.box.cell (k := 1) rfl
        rw [HPL.out] at c1z
        have O2 := J2.out.own.apart byM
        rw [HPL.out] at O2
        have HO2 := Lib.hid O2
        have EC := Lib.hid (new_elem (s := w.heap.size) (Cb := Cb) (Bx := Bx) (v := Value.slice vA pl vc) hcc Oc ((Below.refl wc.heap.size wc).alloc (Nat.le_refl _) (.cells #[.slice Ac nc cc] 40)) (by rw [HM.out]; omega) hwW hCbW hBW (by rw [← HPL.out]; exact HNV.out))
        clear J1 Oc O2
        go_simp
        refine hK _ _ ?_
        clear hK K
        try simp only [Act.put, List.setIfInBounds_toArray, List.set_cons_succ, List.set_cons_zero]
        refine wpAny_ready (rs := [1, 4]) (by kernel_rfl) (by simp) ?_
        refine AllReady.cons rfl (fun K hK => ?_) (AllReady.cons rfl (fun K hK => ?_) AllReady.nil)
        · go_simp
          refine hK _ _ ?_
          clear hK K
          try simp only [Act.put, List.setIfInBounds_toArray, List.set_cons_succ, List.set_cons_zero]
          refine wpAny_ready (rs := [4]) (by kernel_rfl) (by simp) ?_
          refine AllReady.cons rfl (fun K hK => ?_) AllReady.nil
          go_simp
          refine hK _ _ ?_
          clear hK K
          try simp only [Act.put, List.setIfInBounds_toArray, List.set_cons_succ, List.set_cons_zero]
          refine wpAny_ready (rs := [5]) (by kernel_rfl) (by simp) ?_
          refine AllReady.cons rfl (fun K hK => ?_) AllReady.nil
          refine step_wp rfl (wp_appRw (d := some 55) (k := [r]) (m := 1) (c := 1) elemB byM rfl (.tmp 51) (.tmp 54) rfl rfl HO2.out rfl rfl (fun _ => ⟨_, _, rfl, range_one _ _ _⟩) EC.out (fun u hu => by rw [List.mem_singleton] at hu; subst hu; rfl) rfl (by omega) (by omega) ?_)
          intro A6 c6 w6 hc6 O6 g6 n6
          have O7 := O6
          rw [← HPL.out] at O7
          have J6 := Lib.hid (J2.out.next hCw (Nat.lt_of_lt_of_le hCbW K2.out.size) O7 (by rw [HPL.out]; exact g6) (by rw [HPL.out]; exact n6))
          clear O7
          have R6 := J2.out.box.far (by rw [HPL.out]; exact g6) (fun e => (J2.out.new _ e.symm).2.1 rfl)
          rw [HPL.out, HS0.out] at R6
          have q1 := R6.cell (k := 1) rfl
          have y1 := R6.free 1
          have q2 := R6.cell (k := 2) rfl
          have y2 := R6.free 2
          have KE := Lib.hid ((((Kx.below (D := w5.heap.size) (Q := Q0) HQW.out K2.out).trans (Kx.row (D := w5.heap.size) (Q := Q0) J2.out.own (by rw [HPL.out]; exact g6) (fun b hb => ⟨Nat.lt_of_lt_of_le (HQW.out b hb) K2.out.size, fun e => by have := J2.out.new b e; have := (HQ.out b).1 hb; omega⟩))).trans (Kx.set (D := w5.heap.size) (Q := Q0) w6 ⟨Cb, 1, none⟩ (.slice A6 (pl + 1) c6) HQC.out)).trans (Kx.set (D := w5.heap.size) (Q := Q0) _ ⟨Cb, 2, none⟩ (.int .i64 ((44 + wideS (pm ++ [r]) : Nat) : Int)) HQC.out))
          clear O6 g6 n6 R6 HO2 J2 c1c c1z EC
          refine hK _ _ ?_
          clear hK K
          try simp only [Act.put, List.setIfInBounds_toArray, List.set_cons_succ, List.set_cons_zero]
          refine wpAny_ready (rs := [6]) (by kernel_rfl) (by simp) ?_
          refine AllReady.cons rfl (fun K hK => ?_) AllReady.nil
          go_simp
          refine hK _ _ ?_
          clear hK K
          try simp only [Act.put, List.setIfInBounds_toArray, List.set_cons_succ, List.set_cons_zero]
          refine wpAny_ready (rs := [7]) (by kernel_rfl) (by simp) ?_
          refine AllReady.cons rfl (fun K hK => ?_) AllReady.nil
          go_simp
          refine hK _ _ ?_
          clear hK K
          try simp only [Act.put, List.setIfInBounds_toArray, List.set_cons_succ, List.set_cons_zero]
          refine wpAny_done (by kernel_rfl) ?_ _
          gi_wp2
          rw [SUM.out]
          refine ⟨KE.out.1, KE.out.2, .slice A6 (pl + 1) c6, ?_⟩
          rw [HEN.out]
          have q6 := J6.out
          rw [HPL.out] at q6
          exact q6
        · go_simp
          refine hK _ _ ?_
          clear hK K
          try simp only [Act.put, List.setIfInBounds_toArray, List.set_cons_succ, List.set_cons_zero]
          refine wpAny_ready (rs := [1]) (by kernel_rfl) (by simp) ?_
          refine AllReady.cons rfl (fun K hK => ?_) AllReady.nil
          go_simp
          refine hK _ _ ?_
          clear hK K
          try simp only [Act.put, List.setIfInBounds_toArray, List.set_cons_succ, List.set_cons_zero]
          refine wpAny_ready (rs := [5]) (by kernel_rfl) (by simp) ?_
          refine AllReady.cons rfl (fun K hK => ?_) AllReady.nil
          refine step_wp rfl (wp_appRw (d := some 55) (k := [r]) (m := 1) (c := 1) elemB byM rfl (.tmp 51) (.tmp 54) rfl rfl HO2.out rfl rfl (fun _ => ⟨_, _, rfl, range_one _ _ _⟩) EC.out (fun u hu => by rw [List.mem_singleton] at hu; subst hu; rfl) rfl (by omega) (by omega) ?_)
          intro A6 c6 w6 hc6 O6 g6 n6
          have O7 := O6
          rw [← HPL.out] at O7
          have J6 := Lib.hid (J2.out.next hCw (Nat.lt_of_lt_of_le hCbW K2.out.size) O7 (by rw [HPL.out]; exact g6) (by rw [HPL.out]; exact n6))
          clear O7
          have R6 := J2.out.box.far (by rw [HPL.out]; exact g6) (fun e => (J2.out.new _ e.symm).2.1 rfl)
          rw [HPL.out, HS0.out] at R6
          have q1 := R6.cell (k := 1) rfl
          have y1 := R6.free 1
          have q2 := R6.cell (k := 2) rfl
          have y2 := R6.free 2
          have KE := Lib.hid ((((Kx.below (D := w5.heap.size) (Q := Q0) HQW.out K2.out).trans (Kx.row (D := w5.heap.size) (Q := Q0) J2.out.own (by rw [HPL.out]; exact g6) (fun b hb => ⟨Nat.lt_of_lt_of_le (HQW.out b hb) K2.out.size, fun e => by have := J2.out.new b e; have := (HQ.out b).1 hb; omega⟩))).trans (Kx.set (D := w5.heap.size) (Q := Q0) w6 ⟨Cb, 1, none⟩ (.slice A6 (pl + 1) c6) HQC.out)).trans (Kx.set (D := w5.heap.size) (Q := Q0) _ ⟨Cb, 2, none⟩ (.int .i64 ((44 + wideS (pm ++ [r]) : Nat) : Int)) HQC.out))
          clear O6 g6 n6 R6 HO2 J2 c1c c1z EC
          refine hK _ _ ?_
          clear hK K
          try simp only [Act.put, List.setIfInBounds_toArray, List.set_cons_succ, List.set_cons_zero]
          refine wpAny_ready (rs := [6]) (by kernel_rfl) (by simp) ?_
          refine AllReady.cons rfl (fun K hK => ?_) AllReady.nil
          go_simp
          refine hK _ _ ?_
          clear hK K
          try simp only [Act.put, List.setIfInBounds_toArray, List.set_cons_succ, List.set_cons_zero]
          refine wpAny_ready (rs := [7]) (by kernel_rfl) (by simp) ?_
          refine AllReady.cons rfl (fun K hK => ?_) AllReady.nil
          go_simp
          refine hK _ _ ?_
          clear hK K
          try simp only [Act.put, List.setIfInBounds_toArray, List.set_cons_succ, List.set_cons_zero]
          refine wpAny_done (by kernel_rfl) ?_ _
          gi_wp2
          rw [SUM.out]
          refine ⟨KE.out.1, KE.out.2, .slice A6 (pl + 1) c6, ?_⟩
          rw [HEN.out]
          have q6 := J6.out
          rw [HPL.out] at q6
          exact q6
  · obtain rfl : c = 44 := by omega
    obtain rfl : n = 44 := by omega
    have RL : Bs w A 0 (L.drop 44) := by rw [List.drop_of_length_le (by rw [HN.out]; omega)]; exact Bs.nil _ _
    refine wp_region_seg (W := w4) (by kernel_rfl) fun wa ga => ?_
    refine wpK_seg 0 2 (f := 20) (by kernel_rfl) (fun _ _ _ _ _ h => h) (by kernel_rfl) (by kernel_rfl) (by kernel_rfl) (ga) ?_
    apply Exists.intro
    refine ⟨?_, ?_⟩
    · intro wg hg
      simp only [List.drop_succ_cons, List.drop_zero, List.take_succ_cons, List.take_zero]
      repeat (go_big_quiet_step (fail))
      refine wpQuiet_nil ?_
      exact rfl
    refine wpK_seg 3 2 (f := 18) (by kernel_rfl) (fun _ _ _ _ _ h => h) (by kernel_rfl) (by kernel_rfl) (by kernel_rfl) (ga) ?_
    apply Exists.intro
    refine ⟨?_, ?_⟩
    · intro wg hg
      simp only [List.drop_succ_cons, List.drop_zero, List.take_succ_cons, List.take_zero]
      repeat (go_big_quiet_step (fail))
      refine wpQuiet_nil ?_
      exact rfl
    refine wpK_call (f := 17) (i := 2) (by kernel_rfl) rfl rfl ga ?_
    intro wb gb K hK
    go_simp
    have gb' : Below w4.heap.size w4 wb := gb
    with_reducible refine (CH.out wb (Below.both B4.out gb')).mono ?_
    clear gb'
    rintro e wc ⟨Ac, nc, cc, rfl, hcc, hcm, rc, bc⟩
    refine hK _ _ bc ?_
    have Yc := Lib.hid (Grows.trans gb bc)
    have Xc := Lib.hid rc
    clear hK K gb rc bc
    refine wpK_from Yc.out _ _ _ _ ?_
    refine wpK_seg 5 17 (f := 0) (by kernel_rfl) (fun _ _ _ _ _ h => h) (by kernel_rfl) (by kernel_rfl) (by kernel_rfl) (Grows.refl wc) ?_
    apply Exists.intro
    refine ⟨?_, ?_⟩
    · intro wg hg
      simp only [List.drop_succ_cons, List.drop_zero, List.take_succ_cons, List.take_zero]
      have CQ : Hid (∀ u : After wg, Calls Tryz.prog 70 #[.slice Ac nc cc, .slice (A.map fun a => ⟨a.block, a.off + 12, none⟩) 32 (32)] u.w fun e w' => e = .returned (.bool (decide (E = M))) ∧ Below u.w.heap.size u.w w') := Lib.hid (fun u => (bytesEqual_any u.w ((Xc.out.later hg).later u.below) (HR32.out _ (Below.both (Below.both (Below.both B4.out Yc.out) hg) u.below))).mono fun e w' q => ⟨q.1, by rw [q.2]; exact Below.refl _ _⟩)
      rw [hd] at CQ
      repeat (go_big_quiet_step (exact after_call (CQ.out _)))
      refine wpQuiet_nil ?_
      exact rfl
    refine wpK_end (by kernel_rfl) ?_
    intro wf gf
    have bf : Below w1.heap.size w1 wf := Below.both (Below.both B4.out Yc.out) gf
    have bfc := Lib.hid (Grows.trans Yc.out gf)
    clear Xc Yc gf ga
    have WI := Lib.hid (fun u => callsIn_wide.1 (whole_in g (A) (0) (0) u))
    simp only [HGG.out] at WI
    go_wp2_with (go_at_call 72; refine (WI.out _).mono ?_; rintro e w6 ⟨rfl, rfl⟩)
    obtain ⟨w5, hw5⟩ : ∃ w5, w5 = (wf.alloc (.cells #[.slice (A) (0) (0)] 40)).alloc (.cells #[.int .u64 G] 49) := ⟨_, rfl⟩
    have b5 : Below w1.heap.size w1 w5 := by rw [hw5]; exact (bf.alloc bf.size _).alloc (by rw [World.size_alloc]; have := bf.size; omega) _
    have z5 : w5.heap.size = wf.heap.size + 2 := by rw [hw5]; simp
    have bf5 : Below wf.heap.size wf w5 := by rw [hw5]; exact ((Below.refl _ _).alloc (Nat.le_refl _) _).alloc (by rw [World.size_alloc]; omega) _
    have xB : Boxed w5 wf.heap.size 40 (.slice (A) (0) (0)) := by rw [hw5]; exact (Boxed.new wf _ _).alloc _
    have xG : Boxed w5 (wf.heap.size + 1) 49 (.int .u64 (g : Nat)) := by
      rw [hw5, HGG.out]
      have := Boxed.new (wf.alloc (.cells #[.slice (A) (0) (0)] 40)) 49 (.int .u64 G)
      rwa [World.size_alloc] at this
    have B5w : Below w.heap.size w w5 := Below.both HB1.out b5
    have XC : Ro w5 Cb 83 [.int .u64 (g : Nat), .slice none 0 0, .int .i64 ((44 + wideS [] : Nat) : Int)] := by
      have := (HX4.out.later bfc.out).later bf5
      rw [HGG.out]
      exact this
    have XR := HX1.out.later b5
    obtain ⟨Bx, hBx⟩ : ∃ Bx, wf.heap.size = Bx := ⟨_, rfl⟩
    have hCB : Cb ≠ Bx := by have := HZ4.out; have := bfc.out.size; omega
    have hCw : w.heap.size < Cb := by have := HZ4.out; have := HZ1.out; omega
    have hBw : w.heap.size < Bx := by have := bf.size; have := HZ1.out; omega
    have HCB : Hid (Cb < Bx) := Lib.hid (by have := HZ4.out; have := bfc.out.size; omega)
    have hCb5 : Cb < w5.heap.size := by have := HZ4.out; have := bfc.out.size; omega
    have hBx5 : w5.heap.size = Bx + 2 := by omega
    have J5 : CntJ w Cb Bx g [] (.slice none 0 0) w5 := ⟨XR, XC, OwnRw.none_ B5w, fun q e => (by cases e), by omega⟩
    rw [← hw5]
    rw [hBx] at xB xG ⊢
    obtain ⟨L', hL'⟩ : ∃ L', L.drop 44 = L' := ⟨_, rfl⟩
    rw [hL'] at hs RL
    have HLL : Hid (L'.length = 0) := Lib.hid RL.len
    have HRL := Lib.hid RL
    have HXB := Lib.hid xB
    have HXG := Lib.hid xG
    have HJ5 := Lib.hid J5
    have HB5 := Lib.hid B5w
    clear hw5 b5 z5 bf5 xB xG B5w XC XR hBx J5 RL hL' bfc WI bf
    refine (wpIn_wide (n := 3)).1 ?_
    have Q0h : ∃ Q0 : Nat → Prop, Q0 = fun b => b = Bx ∨ b = Bx + 1 ∨ b < w.heap.size := ⟨_, rfl⟩
    obtain ⟨Q0, hQ0⟩ := Q0h
    have hq : ∀ b, Q0 b ↔ (b = Bx ∨ b = Bx + 1 ∨ b < w.heap.size) := fun b => by rw [hQ0]
    have HQ := Lib.hid hq
    have two : Hid (2 ≤ w.heap.size) := Lib.hid HD.out.lt
    clear hq hQ0
    refine' range_turns (w := w5) rfl (by decide) (gf := 97) (lb := #[.pointer (some ⟨Bx, 0, none⟩), .pointer (some ⟨Bx + 1, 0, none⟩)]) rfl trivial (enters_of Tryz.func97 (by kernel_rfl) rfl)
      (encs := trV) (Tn := Tw Bx) (Kp := Kq Q0) (S := AllR g (A) (0) L') (Sp := TellsR g (A) (0) L')
      (whole_turns Bx (Bx + 1) g (A) (0) (0) L' hg8 (by omega) (by omega) (by omega) Q0 ((HQ.out _).2 (.inl rfl)) ((HQ.out _).2 (.inr (.inl rfl))) ((HQ.out _).2 (.inr (.inr (by have := two.out; omega)))) ((HQ.out _).2 (.inr (.inr (by have := two.out; omega)))) (by omega) (by have := two.out; omega)
        (fun h0 a e => by
          obtain ⟨a', e', hb, _⟩ := HRL.out.cel h0
          rw [e] at e'
          injection e' with e'
          subst e'
          exact ⟨(HQ.out _).2 (.inr (.inr hb)), by omega⟩) w5 HXB.out HXG.out (HRL.out.later HB5.out) (HD.out.later HD.out.lt HB5.out)) (fun A B h => h.oth)
      kq_t (kq_b fun b hb => by have := (HQ.out b).1 hb; have := HB5.out.size; omega) (fun _ => rfl)
      (fun pre W => ∃ v, CntJ w Cb Bx g (pre.map (·.2.2)) v W) (fun _ _ _ => False)
      (fun s X Y row hs hg hr => by
        obtain ⟨v, hs⟩ := hs
        exact ⟨v, hs.keep hCB hBw (Keeps.of_grown hs.bel.size hg fun r e => ⟨by have := (hr r e).1; have := HB5.out.size; omega, (hr r e).2⟩)⟩)
      (fun cd s X Y row hs hg hr => hs.elim)
      (fun s X Y hs ht => by
        obtain ⟨v, hs⟩ := hs
        exact ⟨v, hs.keep hCB hBw (Keeps.of_tw (by omega) hs.bel.size ht)⟩)
      ⟨_, HJ5.out⟩ _ ?assign ?body ?done ?stop
    case assign =>
      intro l x W K hK
      dsimp only [trV]
      gi_wp2
      exact hK
    case stop => exact fun D cd pre W hD hS h hK => h.elim
    case done =>
      rintro D ys W hD ⟨hall, _⟩ ⟨v, J⟩ hK
      rw [hall] at J
      have hwd := wide_whole g L'.length 0 L'
      rw [show wholeS g L'.length 0 L' = recsS g L' from rfl] at hwd
      obtain ⟨R, hR⟩ : ∃ R, recsS g L' = R := ⟨_, rfl⟩
      rw [hR] at J hwd
      have hs' := Lib.hid hs.out
      rw [hR] at hs'
      have hRl : R.length ≤ 1073741824 := by
        have := wideS_len R
        have := HLL.out
        omega
      obtain ⟨vA, vc, rfl, _⟩ := J.own.shape
      obtain ⟨S0, hS0⟩ : ∃ S0, 44 + wideS R = S0 := ⟨_, rfl⟩
      have c0 := J.box.cell (k := 0) rfl
      have c1 := J.box.cell (k := 1) rfl
      have c2 := J.box.cell (k := 2) rfl
      rw [hS0] at c2
      have r0 := J.res.cell (k := 0) rfl
      have r1 := J.res.cell (k := 1) rfl
      have r2 := J.res.cell (k := 2) rfl
      have y0 := J.res.free 0
      have y1 := J.res.free 1
      have y2 := J.res.free 2
      have HK := Lib.hid hK
      have HJ := Lib.hid J
      obtain ⟨rl, hrl⟩ : ∃ rl, R.length = rl := ⟨_, rfl⟩
      have HRL2 := Lib.hid hrl
      have HS0 := Lib.hid hS0
      rw [hrl] at c1 hRl
      clear J hK hwd hall hR hrl hS0
      obtain ⟨W9, hW9⟩ : ∃ W9, W9 = (((W.setCell ⟨w.heap.size, 0, none⟩ (.int .u64 (g : Nat))).setCell ⟨w.heap.size, 1, none⟩ (.slice vA rl vc)).setCell ⟨w.heap.size, 2, none⟩ (.int .i64 (S0 : Nat))).drew := ⟨_, rfl⟩
      have o9 : ∀ b, b ≠ w.heap.size → W9.heap[b]? = W.heap[b]? := fun b hb => by
        rw [hW9]
        exact ((Below.heap_setCell _ ⟨w.heap.size, 2, none⟩ _ b hb).trans (Below.heap_setCell _ ⟨w.heap.size, 1, none⟩ _ b hb)).trans (Below.heap_setCell _ ⟨w.heap.size, 0, none⟩ _ b hb)
      have s9 : W9.heap.size = W.heap.size := by rw [hW9]; simp [World.setCell]
      have d9 : w.heap.size < D := by have := HB5.out.size; omega
      have k9 : W9.heap[D]? = some (.deferred (some [])) := (o9 D (by omega)).trans HK.out
      have b9 : Below w.heap.size w W9 := by
        rw [hW9]
        exact (((HJ.out.bel.setCell (p := ⟨w.heap.size, 0, none⟩) (Nat.le_refl _) _).setCell (p := ⟨w.heap.size, 1, none⟩) (Nat.le_refl _) _).setCell (p := ⟨w.heap.size, 2, none⟩) (Nat.le_refl _) _).drew
      have R9 : Ro W9 w.heap.size 83 [.int .u64 (g : Nat), .slice vA rl vc, .int .i64 (S0 : Nat)] := by
        rw [hW9]
        exact ((HJ.out.res.set 0 _).set 1 _).set 2 _
      have g10 := grownBy_putObj' W9 D (.deferred none)
      have b10 : Below w.heap.size w (W9.putObj D (.deferred none)) := b9.grown g10 (by rw [s9]; exact HJ.out.bel.size) (fun q e => by injection e with e; omega)
      have R10 : Ro (W9.putObj D (.deferred none)) w.heap.size 83 [.int .u64 (g : Nat), .slice vA rl vc, .int .i64 (S0 : Nat)] := R9.same (World.putObj_heap_other (by omega))
      have O10 : OwnRw 40 1 ByR w (fun b => w.heap.size ≤ b) (.slice vA R.length vc) R.length R (W9.putObj D (.deferred none)) := by
        refine OwnRw.weak (P := cellP w.heap.size Cb Bx W) byM (HJ.out.own.same byM ⟨by have := g10.size; omega, fun b hb _ => ?_⟩ b10) fun b hb _ => Nat.le_of_lt hb.1
        have hc : w.heap.size < b ∧ ∃ o, W.heap[b]? = some o ∧ o.isCells = true := by
          rcases hb with hb | hb
          · exact ⟨hb.1, hb.2.2.2⟩
          · exact ⟨(HJ.out.new b hb).1, HJ.out.own.cellsBlock hb⟩
        obtain ⟨h1, o, h2, h3⟩ := hc
        have hbD : D ≠ b := fun e => by
          subst e
          have := HK.out
          rw [h2] at this
          injection this with this
          subst this
          cases h3
        exact (World.putObj_heap_other (by omega)).trans (o9 b (by omega))
      have HK9 := Lib.hid k9
      have HB10 := Lib.hid b10
      have HR10 := Lib.hid R10
      have HO10 := Lib.hid O10
      clear o9 s9 d9 k9 b9 R9 g10 b10 R10 O10
      by_cases hkl : k ≤ rl
      · have t9 : decide ((k : Int) ≤ (rl : Int)) = true := decide_eq_true (by omega)
        have CP : Hid (ContP w f L (.returned (.tuple #[contV g (.slice vA rl vc) S0, .bool true])) (W9.putObj D (.deferred none))) := Lib.hid (by
          have e := hs'.out
          rw [if_neg (by rw [HRL2.out]; omega), HS0.out] at e
          refine ⟨HB10.out, g, vA, rl, vc, S0, by rw [e]; rfl, fun x hx => ?_⟩
          rw [e] at hx
          injection hx with hx
          subst hx
          refine ⟨rfl, rfl, ?_⟩
          have := HO10.out
          rw [HRL2.out] at this
          show OwnRw _ 1 ByR w _ _ R.length R _
          rw [HRL2.out]
          exact this)
        go_wp2_with fail
        go_region
        rw [← hW9]
        clear hW9
        go_wp2_with fail
        refine ⟨by simp, .inl ⟨_, _, rfl, run_takeDeferred HK9.out, .tuple #[contV g (.slice vA rl vc) S0, .bool true], results_content rfl HR10.out rfl, CP.out⟩⟩
      · have t9 : decide ((k : Int) ≤ (rl : Int)) = false := decide_eq_false (by omega)
        have CP : Hid (ContP w f L (.returned (.tuple #[contV g (.slice vA rl vc) S0, .bool false])) (W9.putObj D (.deferred none))) := Lib.hid (ContP.none_ HB10.out (by
          have e := hs'.out
          rwa [if_pos (by rw [HRL2.out]; omega)] at e))
        go_wp2_with fail
        go_region
        rw [← hW9]
        clear hW9
        go_wp2_with fail
        refine ⟨by simp, .inl ⟨_, _, rfl, run_takeDeferred HK9.out, .tuple #[contV g (.slice vA rl vc) S0, .bool false], results_content rfl HR10.out rfl, CP.out⟩⟩
    case body =>
      rintro l pre ⟨xa, xc, r⟩ W ⟨v, J⟩ ⟨⟨tl, htl⟩, hsub⟩
      have mixed : Tryz.prog.follows .mixedOrders = true := by kernel_rfl
      have hxs := hsub _ (List.mem_append_right _ (List.mem_singleton.2 rfl))
      have BW := HB5.out.trans ((show Below w5.heap.size w5 w5 from Below.refl _ _).mono HB5.out.size)
      have RB : Bs W xa r.length r := hxs.bs (by rw [HLL.out]; exact HRL.out.later J.bel) (by rw [HLL.out]; omega)
      obtain ⟨p, hp1, hp2, hp3, hp4⟩ := hxs
      dsimp only at hp1 hp2 hp3 hp4 ⊢
      have hxc : r.length ≤ xc := by rw [HLL.out] at hp1; omega
      have hwd := wide_whole g L'.length 0 L'
      rw [show wholeS g L'.length 0 L' = recsS g L' from rfl, ← htl, List.map_append, wideS_app, wideS_app] at hwd
      have hw1 : wideS (pre.map (·.2.2)) + (36 + r.length) ≤ 1073741824 := by
        have e : wideS (List.map (fun x : Tr => x.2.2) [(xa, xc, r)]) = 36 + r.length := by simp [wideS]
        rw [e] at hwd
        have := HLL.out
        omega
      have hpl : (pre.map (·.2.2)).length ≤ 1000000000 := by
        have := wideS_len (pre.map (·.2.2))
        omega
      have EN : (pre ++ [(xa, xc, r)]).map (·.2.2) = pre.map (·.2.2) ++ [r] := by rw [List.map_append]; rfl
      have HEN := Lib.hid EN
      obtain ⟨pm, hpm⟩ : ∃ pm, pre.map (·.2.2) = pm := ⟨_, rfl⟩
      rw [hpm] at J hw1 hpl HEN
      have OWNs := J.own.shape
      obtain ⟨vA, vc, rfl, _⟩ := OWNs
      have hnv : ∀ q, (Value.slice vA pm.length vc).ownBlock = some q → q < W.heap.size := fun q e => (J.own.new q e).2
      have HNV := Lib.hid hnv
      obtain ⟨S0, hS0⟩ : ∃ S0, 44 + wideS pm = S0 := ⟨_, rfl⟩
      have SUM : Hid ((S0 : Int) + (4 + (r.length : Int) + 32) = ((44 + wideS (pm ++ [r]) : Nat) : Int)) := Lib.hid (by
        rw [← hS0, wideS_app]
        have e : wideS [r] = 36 + r.length := by simp [wideS]
        rw [e]
        omega)
      have hS0b : S0 ≤ 1100000000 := by rw [← hS0]; omega
      have hml : r.length ≤ 1073741824 := by omega
      have HS0 := Lib.hid hS0
      have hQW : ∀ b, Q0 b → b < W.heap.size := fun b hb => by have := (HQ.out b).1 hb; have := J.size; omega
      have HQW := Lib.hid hQW
      have hQC : ¬ Q0 Cb := fun hb => by have := (HQ.out _).1 hb; have := HCB.out; omega
      have HQC := Lib.hid hQC
      have hCbW : Cb < W.heap.size := J.box.lt
      have HJ := Lib.hid J
      have KX : Hid (Below W.heap.size W W.drew) := Lib.hid (Below.refl _ _).drew
      have c1X := (J.later hCB hBw KX.out).box.cell (k := 1) rfl
      have hwW : w.heap.size < W.heap.size := by have := J.size; omega
      have hBW : Bx < W.heap.size := by have := J.size; omega
      have CL := Lib.hid (clone_any (w := W.drew) (RB.later KX.out) (by omega) hxc)
      obtain ⟨m, hm⟩ : ∃ m, r.length = m := ⟨_, rfl⟩
      have HM := Lib.hid hm
      rw [hm] at CL SUM hml hxc
      obtain ⟨pl, hpl2⟩ : ∃ pl, pm.length = pl := ⟨_, rfl⟩
      have HPL := Lib.hid hpl2
      rw [hpl2] at c1X hpl
      simp only [hm]
      clear BW RB hp1 hp2 hp3 hp4 hwd hw1 EN htl hsub hpm hnv hS0 hQW hQC J hm hpl2
      gi_wp2
      refine wpIn_region_plain mixed (fun ⟨_, _, h⟩ => h) (by kernel_rfl) ?_
      change wpAny _ _ _ _ _ _ _ (World.drew _)
      refine wpAny_take (i := 0) (v := ?_) rfl (by kernel_rfl) (by kernel_rfl) (by kernel_rfl) (fun _ _ _ h => h) (Or.inl ⟨by rfl, ?_⟩) ?_
      rotate_left
      · intro w
        go_simp
        try with_reducible rfl
      show wpAny _ _ _ _ _ _ (Act.put _ (some 50) _) _
      simp only [Act.put, List.setIfInBounds_toArray, List.set_cons_succ, List.set_cons_zero]
      refine wpAny_take (i := 2) (v := ?_) rfl (by kernel_rfl) (by kernel_rfl) (by kernel_rfl) (fun _ _ _ h => h) (Or.inl ⟨by rfl, ?_⟩) ?_
      rotate_left
      · intro w
        go_simp
        try with_reducible rfl
      show wpAny _ _ _ _ _ _ (Act.put _ (some 52) _) _
      simp only [Act.put, List.setIfInBounds_toArray, List.set_cons_succ, List.set_cons_zero]
      refine wpAny_ready (rs := [1, 3]) (by kernel_rfl) (by simp) ?_
      refine AllReady.cons rfl (fun K hK => ?_) (AllReady.cons rfl (fun K hK => ?_) AllReady.nil)
      · go_simp
        refine hK _ _ ?_
        clear hK K
        try simp only [Act.put, List.setIfInBounds_toArray, List.set_cons_succ, List.set_cons_zero]
        refine wpAny_ready (rs := [3]) (by kernel_rfl) (by simp) ?_
        refine AllReady.cons rfl (fun K hK => ?_) AllReady.nil
        go_simp
        with_reducible refine CL.out.mono ?_
        rintro e wc ⟨Ac, nc, cc, rfl, hcc, Oc⟩
        have K1 := Lib.hid (KX.out.trans (Oc.bel.mono KX.out.size))
        have J1 := HJ.out.later hCB hBw K1.out
        have c1c := J1.box.cell (k := 1) rfl
        rw [HPL.out] at c1c
        have K2 := Lib.hid (K1.out.trans (((Below.refl wc.heap.size wc).alloc (Nat.le_refl _) (.cells #[.slice Ac nc cc] 40)).mono K1.out.size))
        have J2 := Lib.hid (HJ.out.later hCB hBw K2.out)
        have c1z := J2.out.box.cell (k := 1) rfl
        rw [HPL.out] at c1z
        have O2 := J2.out.own.apart byM
        rw [HPL.out] at O2
        have HO2 := Lib.hid O2
        have EC := Lib.hid (new_elem (s := w.heap.size) (Cb := Cb) (Bx := Bx) (v := Value.slice vA pl vc) hcc Oc ((Below.refl wc.heap.size wc).alloc (Nat.le_refl _) (.cells #[.slice Ac nc cc] 40)) (by rw [HM.out]; omega) hwW hCbW hBW (by rw [← HPL.out]; exact HNV.out))
        clear J1 Oc O2
        go_simp
        refine hK _ _ ?_
        clear hK K
        try simp only [Act.put, List.setIfInBounds_toArray, List.set_cons_succ, List.set_cons_zero]
        refine wpAny_ready (rs := [4]) (by kernel_rfl) (by simp) ?_
        refine AllReady.cons rfl (fun K hK => ?_) AllReady.nil
        go_simp
        refine hK _ _ ?_
        clear hK K
        try simp only [Act.put, List.setIfInBounds_toArray, List.set_cons_succ, List.set_cons_zero]
        refine wpAny_ready (rs := [5]) (by kernel_rfl) (by simp) ?_
        refine AllReady.cons rfl (fun K hK => ?_) AllReady.nil
        refine step_wp rfl (wp_appRw (d := some 55) (k := [r]) (m := 1) (c := 1) elemB byM rfl (.tmp 51) (.tmp 54) rfl rfl HO2.out rfl rfl (fun _ => ⟨_, _, rfl, range_one _ _ _⟩) EC.out (fun u hu => by rw [List.mem_singleton] at hu; subst hu; rfl) rfl (by omega) (by omega) ?_)
        intro A6 c6 w6 hc6 O6 g6 n6
        have O7 := O6
        rw [← HPL.out] at O7
        have J6 := Lib.hid (J2.out.next hCw (Nat.lt_of_lt_of_le hCbW K2.out.size) O7 (by rw [HPL.out]; exact g6) (by rw [HPL.out]; exact n6))
        clear O7
        have R6 := J2.out.box.far (by rw [HPL.out]; exact g6) (fun e => (J2.out.new _ e.symm).2.1 rfl)
        rw [HPL.out, HS0.out] at R6
        have q1 := R6.cell (k := 1) rfl
        have y1 := R6.free 1
        have q2 := R6.cell (k := 2) rfl
        have y2 := R6.free 2
        have KE := Lib.hid ((((Kx.below (D := w5.heap.size) (Q := Q0) HQW.out K2.out).trans (Kx.row (D := w5.heap.size) (Q := Q0) J2.out.own (by rw [HPL.out]; exact g6) (fun b hb => ⟨Nat.lt_of_lt_of_le (HQW.out b hb) K2.out.size, fun e => by have := J2.out.new b e; have := (HQ.out b).1 hb; omega⟩))).trans (Kx.set (D := w5.heap.size) (Q := Q0) w6 ⟨Cb, 1, none⟩ (.slice A6 (pl + 1) c6) HQC.out)).trans (Kx.set (D := w5.heap.size) (Q := Q0) _ ⟨Cb, 2, none⟩ (.int .i64 ((44 + wideS (pm ++ [r]) : Nat) : Int)) HQC.out))
        clear O6 g6 n6 R6 HO2 J2 c1c c1z EC
        refine hK _ _ ?_
        clear hK K
        try simp only [Act.put, List.setIfInBounds_toArray, List.set_cons_succ, List.set_cons_zero]
        refine wpAny_ready (rs := [6]) (by kernel_rfl) (by simp) ?_
        refine AllReady.cons rfl (fun K hK => ?_) AllReady.nil
        go_simp
        refine hK _ _ ?_
        clear hK K
        try simp only [Act.put, List.setIfInBounds_toArray, List.set_cons_succ, List.set_cons_zero]
        refine wpAny_ready (rs := [7]) (by kernel_rfl) (by simp) ?_
        refine AllReady.cons rfl (fun K hK => ?_) AllReady.nil
        go_simp
        refine hK _ _ ?_
        clear hK K
        try simp only [Act.put, List.setIfInBounds_toArray, List.set_cons_succ, List.set_cons_zero]
        refine wpAny_done (by kernel_rfl) ?_ _
        gi_wp2
        rw [SUM.out]
        refine ⟨KE.out.1, KE.out.2, .slice A6 (pl + 1) c6, ?_⟩
        rw [HEN.out]
        have q6 := J6.out
        rw [HPL.out] at q6
        exact q6
      · go_simp
        with_reducible refine CL.out.mono ?_
        rintro e wc ⟨Ac, nc, cc, rfl, hcc, Oc⟩
        have K1 := Lib.hid (KX.out.trans (Oc.bel.mono KX.out.size))
        have J1 := HJ.out.later hCB hBw K1.out
        have c1c := J1.box.cell (k := 1) rfl
        rw [HPL.out] at c1c
        have K2 := Lib.hid (K1.out.trans (((Below.refl wc.heap.size wc).alloc (Nat.le_refl _) (.cells #[.slice Ac nc cc] 40)).mono K1.out.size))
        have J2 := Lib.hid (HJ.out.later hCB hBw K2.out)
        have c1z := J2.out.box.cell (k := 1) rfl
        rw [HPL.out] at c1z
        have O2 := J2.out.own.apart byM
        rw [HPL.out] at O2
        have HO2 := Lib.hid O2
        have EC := Lib.hid (new_elem (s := w.heap.size) (Cb := Cb) (Bx := Bx) (v := Value.slice vA pl vc) hcc Oc ((Below.refl wc.heap.size wc).alloc (Nat.le_refl _) (.cells #[.slice Ac nc cc] 40)) (by rw [HM.out]; omega) hwW hCbW hBW (by rw [← HPL.out]; exact HNV.out))
        clear J1 Oc O2
        go_simp
        refine hK _ _ ?_
        clear hK K
        try simp only [Act.put, List.setIfInBounds_toArray, List.set_cons_succ, List.set_cons_zero]
        refine wpAny_ready (rs := [1, 4]) (by kernel_rfl) (by simp) ?_
        refine AllReady.cons rfl (fun K hK => ?_) (AllReady.cons rfl (fun K hK => ?_) AllReady.nil)
        · go_simp
          refine hK _ _ ?_
          clear hK K
          try simp only [Act.put, List.setIfInBounds_toArray, List.set_cons_succ, List.set_cons_zero]
          refine wpAny_ready (rs := [4]) (by kernel_rfl) (by simp) ?_
          refine AllReady.cons rfl (fun K hK => ?_) AllReady.nil
          go_simp
          refine hK _ _ ?_
          clear hK K
          try simp only [Act.put, List.setIfInBounds_toArray, List.set_cons_succ, List.set_cons_zero]
          refine wpAny_ready (rs := [5]) (by kernel_rfl) (by simp) ?_
          refine AllReady.cons rfl (fun K hK => ?_) AllReady.nil
          refine step_wp rfl (wp_appRw (d := some 55) (k := [r]) (m := 1) (c := 1) elemB byM rfl (.tmp 51) (.tmp 54) rfl rfl HO2.out rfl rfl (fun _ => ⟨_, _, rfl, range_one _ _ _⟩) EC.out (fun u hu => by rw [List.mem_singleton] at hu; subst hu; rfl) rfl (by omega) (by omega) ?_)
          intro A6 c6 w6 hc6 O6 g6 n6
          have O7 := O6
          rw [← HPL.out] at O7
          have J6 := Lib.hid (J2.out.next hCw (Nat.lt_of_lt_of_le hCbW K2.out.size) O7 (by rw [HPL.out]; exact g6) (by rw [HPL.out]; exact n6))
          clear O7
          have R6 := J2.out.box.far (by rw [HPL.out]; exact g6) (fun e => (J2.out.new _ e.symm).2.1 rfl)
          rw [HPL.out, HS0.out] at R6
          have q1 := R6.cell (k := 1) rfl
          have y1 := R6.free 1
          have q2 := R6.cell (k := 2) rfl
          have y2 := R6.free 2
          have KE := Lib.hid ((((Kx.below (D := w5.heap.size) (Q := Q0) HQW.out K2.out).trans (Kx.row (D := w5.heap.size) (Q := Q0) J2.out.own (by rw [HPL.out]; exact g6) (fun b hb => ⟨Nat.lt_of_lt_of_le (HQW.out b hb) K2.out.size, fun e => by have := J2.out.new b e; have := (HQ.out b).1 hb; omega⟩))).trans (Kx.set (D := w5.heap.size) (Q := Q0) w6 ⟨Cb, 1, none⟩ (.slice A6 (pl + 1) c6) HQC.out)).trans (Kx.set (D := w5.heap.size) (Q := Q0) _ ⟨Cb, 2, none⟩ (.int .i64 ((44 + wideS (pm ++ [r]) : Nat) : Int)) HQC.out))
          clear O6 g6 n6 R6 HO2 J2 c1c c1z EC
          refine hK _ _ ?_
          clear hK K
          try simp only [Act.put, List.setIfInBounds_toArray, List.set_cons_succ, List.set_cons_zero]
          refine wpAny_ready (rs := [6]) (by kernel_rfl) (by simp) ?_
          refine AllReady.cons rfl (fun K hK => ?_) AllReady.nil
          go_simp
          refine hK _ _ ?_
          clear hK K
          try simp only [Act.put, List.setIfInBounds_toArray, List.set_cons_succ, List.set_cons_zero]
          refine wpAny_ready (rs := [7]) (by kernel_rfl) (by simp) ?_
          refine AllReady.cons rfl (fun K hK => ?_) AllReady.nil
          go_simp
          refine hK _ _ ?_
          clear hK K
          try simp only [Act.put, List.setIfInBounds_toArray, List.set_cons_succ, List.set_cons_zero]
          refine wpAny_done (by kernel_rfl) ?_ _
          gi_wp2
          rw [SUM.out]
          refine ⟨KE.out.1, KE.out.2, .slice A6 (pl + 1) c6, ?_⟩
          rw [HEN.out]
          have q6 := J6.out
          rw [HPL.out] at q6
          exact q6
        · go_simp
          refine hK _ _ ?_
          clear hK K
          try simp only [Act.put, List.setIfInBounds_toArray, List.set_cons_succ, List.set_cons_zero]
          refine wpAny_ready (rs := [1]) (by kernel_rfl) (by simp) ?_
          refine AllReady.cons rfl (fun K hK => ?_) AllReady.nil
          go_simp
          refine hK _ _ ?_
          clear hK K
          try simp only [Act.put, List.setIfInBounds_toArray, List.set_cons_succ, List.set_cons_zero]
          refine wpAny_ready (rs := [5]) (by kernel_rfl) (by simp) ?_
          refine AllReady.cons rfl (fun K hK => ?_) AllReady.nil
          refine step_wp rfl (wp_appRw (d := some 55) (k := [r]) (m := 1) (c := 1) elemB byM rfl (.tmp 51) (.tmp 54) rfl rfl HO2.out rfl rfl (fun _ => ⟨_, _, rfl, range_one _ _ _⟩) EC.out (fun u hu => by rw [List.mem_singleton] at hu; subst hu; rfl) rfl (by omega) (by omega) ?_)
          intro A6 c6 w6 hc6 O6 g6 n6
          have O7 := O6
          rw [← HPL.out] at O7
          have J6 := Lib.hid (J2.out.next hCw (Nat.lt_of_lt_of_le hCbW K2.out.size) O7 (by rw [HPL.out]; exact g6) (by rw [HPL.out]; exact n6))
          clear O7
          have R6 := J2.out.box.far (by rw [HPL.out]; exact g6) (fun e => (J2.out.new _ e.symm).2.1 rfl)
          rw [HPL.out, HS0.out] at R6
          have q1 := R6.cell (k := 1) rfl
          have y1 := R6.free 1
          have q2 := R6.cell (k := 2) rfl
          have y2 := R6.free 2
          have KE := Lib.hid ((((Kx.below (D := w5.heap.size) (Q := Q0) HQW.out K2.out).trans (Kx.row (D := w5.heap.size) (Q := Q0) J2.out.own (by rw [HPL.out]; exact g6) (fun b hb => ⟨Nat.lt_of_lt_of_le (HQW.out b hb) K2.out.size, fun e => by have := J2.out.new b e; have := (HQ.out b).1 hb; omega⟩))).trans (Kx.set (D := w5.heap.size) (Q := Q0) w6 ⟨Cb, 1, none⟩ (.slice A6 (pl + 1) c6) HQC.out)).trans (Kx.set (D := w5.heap.size) (Q := Q0) _ ⟨Cb, 2, none⟩ (.int .i64 ((44 + wideS (pm ++ [r]) : Nat) : Int)) HQC.out))
          clear O6 g6 n6 R6 HO2 J2 c1c c1z EC
          refine hK _ _ ?_
          clear hK K
          try simp only [Act.put, List.setIfInBounds_toArray, List.set_cons_succ, List.set_cons_zero]
          refine wpAny_ready (rs := [6]) (by kernel_rfl) (by simp) ?_
          refine AllReady.cons rfl (fun K hK => ?_) AllReady.nil
          go_simp
          refine hK _ _ ?_
          clear hK K
          try simp only [Act.put, List.setIfInBounds_toArray, List.set_cons_succ, List.set_cons_zero]
          refine wpAny_ready (rs := [7]) (by kernel_rfl) (by simp) ?_
          refine AllReady.cons rfl (fun K hK => ?_) AllReady.nil
          go_simp
          refine hK _ _ ?_
          clear hK K
          try simp only [Act.put, List.setIfInBounds_toArray, List.set_cons_succ, List.set_cons_zero]
          refine wpAny_done (by kernel_rfl) ?_ _
          gi_wp2
          rw [SUM.out]
          refine ⟨KE.out.1, KE.out.2, .slice A6 (pl + 1) c6, ?_⟩
          rw [HEN.out]
          have q6 := J6.out
          rw [HPL.out] at q6
          exact q6
theorem content_any {A : Option Addr} {n c f : Nat} {L : List Nat} (w : World) (hLd : Laid w) (hf : f ≤ 1) (hn : n ≤ 1073741824) (hnc : n ≤ c) (hc : c ≤ 9223372036854775807) (hL : Bs w A n L) :
    Calls Tryz.prog 29 #[.slice A n c, .int .i64 (f : Nat)] w (ContP w f L) := by
  by_cases h : n < 44
  · exact content_short w hL h
  · exact callsIn_wide.1 (content_in w hLd hf (by omega) hn hnc hc hL)
end Go.Proofs.YtjcphpmlekfhdaaGreatDoor
