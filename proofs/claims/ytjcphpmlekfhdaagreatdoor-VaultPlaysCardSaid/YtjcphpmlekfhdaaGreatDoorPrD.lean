/- The pair: a call; alike. Condition: the tables lie as laid. -/
import Derived.Test.YtjcphpmlekfhdaaGreatDoorPrE
import Derived.Test.YtjcphpmlekfhdaaGreatDoorHvq
import Derived.Test.YtjcphpmlekfhdaaGreatDoorGb
namespace Go.Proofs.YtjcphpmlekfhdaaGreatDoor
open Go.RowKit
attribute [local go_sem] Oper.semAt_some

section
variable {w wr : World} {d r p f g n : Nat} {b : Bool} {S : Dk} {a y : Value} {X : Nat → Prop}
set_option maxRecDepth 100000 in
set_option maxHeartbeats 8000000 in
theorem pdo_any (hLd : Laid w) (J : PrJ w d r p S a y f g n b X wr) (h1 : S.cnt ≤ 900000000) (h2 : S.uses ≤ 800000000) (h3 : S.most ≤ 65535) (h4 : n ≤ 1000000000) {x : CallD} {A5 B6 Q7 : Option Addr} {c5 c6 c7 : Nat} (hk : x.k < 256) (g4 : Rows wr (fun b => b < w.heap.size) 1 ByR A5 x.l.length x.l) (g5 : x.s.Ok) (g6 : x.s.b.length ≤ c6) (g7 : c6 ≤ 9223372036854775807) (g8 : BsP wr (fun b => b < w.heap.size) B6 x.s.b.length x.s.b) (g9 : x.s.p.length ≤ c7) (g10 : c7 ≤ 9223372036854775807) (g11 : ZsP wr (fun b => b < w.heap.size) Q7 x.s.p.length x.s.p) (hw : kwt x ≤ 16384) :
    Calls Tryz.prog 10 #[.pointer (some ⟨p, 0, none⟩), .agg #[.int .u8 (x.k : Int), .slice A5 x.l.length c5, .int .u8 (x.s.k : Int), .int .i64 x.s.f, .int .i64 x.s.n, .slice B6 x.s.b.length c6, .slice Q7 x.s.p.length c7]] wr fun e W => e = .returned (.bool true) ∧ PdQ w d r p S n W := by
  by_cases h5 : (x.k : Int) % 6 = 5
  · exact pdo_five hLd J h1 h2 h3 h4 hk g4 g5 g6 g7 g8 g9 g10 g11 hw h5
  have hkw : rwt x.l ≤ 16384 ∧ x.s.b.length ≤ 16384 ∧ x.s.p.length ≤ 16384 := by unfold kwt at hw; omega
  obtain ⟨hkw1, hkw2, hkw3⟩ := hkw
  have hxl : x.l.length ≤ 16384 ∧ wideS x.l ≤ 1048576 := by
    have : ∀ l : List (List Nat), l.length ≤ rwt l ∧ wideS l ≤ 36 * rwt l := by
      intro l
      induction l with
      | nil => exact ⟨Nat.zero_le _, Nat.zero_le _⟩
      | cons x l ih =>
        have e : rwt (x :: l) = 16 + x.length + rwt l := by unfold rwt; simp
        have e2 : wideS (x :: l) = 36 + x.length + wideS l := by unfold wideS; simp
        rw [e, e2, List.length_cons]
        omega
    have := this x.l
    omega
  obtain ⟨W1, hW1⟩ : ∃ W1, wr.alloc (.cells #[.int .u8 (x.k : Int), .slice A5 x.l.length c5, .int .u8 (x.s.k : Int), .int .i64 x.s.f, .int .i64 x.s.n, .slice B6 x.s.b.length c6, .slice Q7 x.s.p.length c7] 45) = W1 := ⟨_, rfl⟩
  have b1 : Below wr.heap.size wr W1 := by rw [← hW1]; exact (Below.refl _ _).alloc (Nat.le_refl _) _
  have R1 : Ro W1 wr.heap.size 45 [.int .u8 (x.k : Int), .slice A5 x.l.length c5, .int .u8 (x.s.k : Int), .int .i64 x.s.f, .int .i64 x.s.n, .slice B6 x.s.b.length c6, .slice Q7 x.s.p.length c7] := by rw [← hW1]; exact Ro.new wr _ _
  have J1 := J.wide b1
  have hpb := J.box.lt
  have hst := J.st
  have hV : ∀ v xx, a = .pointer (some ⟨v, 0, none⟩) → y = .pointer (some ⟨xx, 0, none⟩) → PrV w d r p v xx f g n b (fun k => X k ∨ (wr.heap.size ≤ k ∧ k < W1.heap.size)) W1 ∧ v < wr.heap.size := by
    intro v xx e1 e2
    rcases J.st with ⟨e, _⟩ | ⟨v', x', q1, q2, V1, V2, hX, hlo, hne⟩
    · rw [e1] at e; cases e
    · rw [e1] at q1
      rw [e2] at q2
      injection q1 with q1; injection q1 with q1; injection q1 with q1
      injection q2 with q2; injection q2 with q2; injection q2 with q2
      subst q1 q2
      exact ⟨⟨V1.later b1, V2.later b1, ⟨.inl hX.1, .inl hX.2⟩, hlo, hne⟩, V1.lt⟩
  obtain ⟨X1, hX1⟩ : ∃ X1 : Nat → Prop, (fun k => X k ∨ (wr.heap.size ≤ k ∧ k < W1.heap.size)) = X1 := ⟨_, rfl⟩
  have xs1 : X1 wr.heap.size := by rw [← hX1]; exact .inr ⟨Nat.le_refl _, R1.lt⟩
  rw [hX1] at J1 hV
  obtain ⟨sb, hsb⟩ : ∃ sb, wr.heap.size = sb := ⟨_, rfl⟩
  rw [hsb] at R1 xs1 hV hpb
  have x0 := R1.cell (k := 0) rfl
  have HR1 := Lib.hid R1
  have HJ1 := Lib.hid J1
  have HV := Lib.hid hV
  have HX1 := Lib.hid xs1
  have HSB := Lib.hid hsb
  have RL := Lib.hid (Rows.later byM g4 b1)
  have HB8 := Lib.hid (g8.keep (Kept.of_below b1))
  have HZ11 := Lib.hid (g11.keep (Kept.of_below b1))
  have HLD := Lib.hid hLd
  have lt : Ltk 0 S := ⟨by omega, by omega, by omega⟩
  have HLT := Lib.hid lt
  have HL2 : Hid (Lt S) := Lib.hid ⟨by omega, by omega⟩
  have hx0 := J1.box.cell (k := 0) rfl
  have hx1 := J1.box.cell (k := 1) rfl
  have hx2 := J1.box.cell (k := 2) rfl
  have hx3 := J1.box.cell (k := 3) rfl
  have b1d : Below W1.heap.size W1 W1.drew := (Below.refl _ _).drew
  have HBD := Lib.hid b1d
  clear hLd J J1 b1 R1 hV xs1 g4 g8 g11 hX1 lt b1d
  rcases (by omega : (x.k : Int) % 6 < 3 ∨ (x.k : Int) % 6 = 3 ∨ (x.k : Int) % 6 = 4 ∨ (x.k : Int) % 6 = 5) with q | q | q | q
  · have f4 : ((x.k : Int) % 6 == 4) = false := by rw [beq_eq_false_iff_ne]; omega
    have f5 : ((x.k : Int) % 6 == 5) = false := by rw [beq_eq_false_iff_ne]; omega
    have f3 : ((x.k : Int) % 6 == 3) = false := by rw [beq_eq_false_iff_ne]; omega
    clear q
    rcases hst with ⟨rfl, rfl⟩ | ⟨v, xx, rfl, rfl, _⟩
    · go_enter Tryz.func10, Tryz.ntmps10
      go_wp2_with fail
      try rw [hW1]
      refine wp_region_seg (by kernel_rfl) fun wa ga => ?_
      refine wpK_seg 0 19 (f := 0) (by kernel_rfl) (fun _ _ _ _ _ h => h) (by kernel_rfl) (by kernel_rfl) (by kernel_rfl) (ga) ?_
      apply Exists.intro
      refine ⟨?_, ?_⟩
      · intro wg hg2
        simp only [List.drop_succ_cons, List.drop_zero, List.take_succ_cons, List.take_zero]
        have BG := Lib.hid hg2
        have z0 : ∀ u : After wg, u.w.cell? ⟨p, 0, none⟩ = some (.pointer (some ⟨d, 0, none⟩)) := fun u => ((HJ1.out.box.later BG.out).later u.below).cell (k := 0) rfl
        have z2 : ∀ u : After wg, u.w.cell? ⟨p, 2, none⟩ = some (.pointer none) := fun u => ((HJ1.out.box.later BG.out).later u.below).cell (k := 2) rfl
        have z1 : ∀ u : After wg, u.w.cell? ⟨sb, 1, none⟩ = some (.slice A5 x.l.length c5) := fun u => ((HR1.out.later BG.out).later u.below).cell (k := 1) rfl
        have C1 : Hid (∀ u : After wg, Calls Tryz.prog 14 #[.pointer none, .slice A5 x.l.length c5] u.w fun e W => e = .returned (.int .i64 2) ∧ Below u.w.heap.size u.w W) := Lib.hid fun u => add_nil
        have C2 : Hid (∀ u : After wg, Calls Tryz.prog 20 #[.pointer none, .slice A5 x.l.length c5] u.w fun e W => e = .returned (.int .i64 2) ∧ Below u.w.heap.size u.w W) := Lib.hid fun u => compact_nil
        repeat (go_big_quiet_step (first | (with_reducible exact after_call (C1.out _)) | (with_reducible exact after_call (C2.out _))))
        refine wpQuiet_nil ?_
        exact rfl
      refine wpK_end (by kernel_rfl) ?_
      intro wf gf
      have bf : Below W1.heap.size W1 wf := Grows.trans ga gf
      have FIN := Lib.hid (HJ1.out.later bf).pd
      clear bf gf ga
      go_wp2_with fail
      all_goals go_ret
      all_goals exact ⟨rfl, FIN.out⟩
    · obtain ⟨V1, hvs⟩ := HV.out v xx rfl rfl
      have CB := add_both (c := c5) HLD.out (HJ1.out.later HBD.out) (⟨V1.v1.later HBD.out, V1.v2.later HBD.out, V1.xs, V1.lo, V1.ne⟩ : PrV w d r p v xx f g n b X1 W1.drew) (Rows.later byM RL.out HBD.out) hxl.1 hxl.2 h1 h2 h3 h4
      obtain ⟨q1, hq1⟩ : ∃ q1, (addT b f g n x.l S).1 = q1 := ⟨_, rfl⟩
      rw [hq1] at CB
      have CF : Hid (Calls Tryz.prog 14 #[.pointer (some ⟨v, 0, none⟩), .slice A5 x.l.length c5] W1.drew fun e u => e = .returned (.int .i64 q1) ∧ u.cell? ⟨p, 0, none⟩ = some (.pointer (some ⟨d, 0, none⟩)) ∧ u.cell? ⟨p, 3, none⟩ = some (.pointer (some ⟨xx, 0, none⟩)) ∧ u.cell? ⟨sb, 1, none⟩ = some (.slice A5 x.l.length c5) ∧
          Hid (Calls Tryz.prog 28 #[.pointer (some ⟨xx, 0, none⟩), .slice A5 x.l.length c5] u fun e W => e = .returned (.int .i64 q1) ∧ Hid (PdQ w d r p S n W))) := Lib.hid (CB.mono fun e u ⟨e1, B, K, C2⟩ => ⟨e1, B.cell (k := 0) rfl, B.cell (k := 3) rfl, Ro.cell (k := 1) (show Ro u sb 45 _ from (K.blk sb ⟨HX1.out, by omega⟩ (HR1.out.later HBD.out).lt).trans (HR1.out.later HBD.out)) rfl, C2⟩)
      have hx0d : W1.drew.cell? ⟨p, 0, none⟩ = some (.pointer (some ⟨d, 0, none⟩)) := hx0
      have hx2d : W1.drew.cell? ⟨p, 2, none⟩ = some (.pointer (some ⟨v, 0, none⟩)) := hx2
      have hx3d : W1.drew.cell? ⟨p, 3, none⟩ = some (.pointer (some ⟨xx, 0, none⟩)) := hx3
      have hs1d : W1.drew.cell? ⟨sb, 1, none⟩ = some (.slice A5 x.l.length c5) := (HR1.out.later HBD.out).cell (k := 1) rfl
      have t9 : (q1 == q1) = true := beq_self_eq_true _
      clear CB hq1 V1
      go_enter Tryz.func10, Tryz.ntmps10
      go_wp2_with fail
      try rw [hW1]
      go_region_law (first | (go_simp; (with_reducible refine (CF.out).mono ?_); rintro e u ⟨rfl, k0, k3, k1, C2⟩; go_simp) | (go_simp; (with_reducible refine (C2.out).mono ?_); rintro e W ⟨rfl, G⟩; go_simp))
      all_goals go_wp2_with fail
      all_goals go_ret
      all_goals exact ⟨rfl, G.out⟩
  · have f4 : ((x.k : Int) % 6 == 4) = false := by rw [q]; rfl
    have f5 : ((x.k : Int) % 6 == 5) = false := by rw [q]; rfl
    have f3 : ((x.k : Int) % 6 == 3) = true := by rw [q]; rfl
    clear q
    rcases hst with ⟨rfl, rfl⟩ | ⟨v, xx, rfl, rfl, _⟩
    · go_enter Tryz.func10, Tryz.ntmps10
      go_wp2_with fail
      try rw [hW1]
      refine wp_region_seg (by kernel_rfl) fun wa ga => ?_
      refine wpK_seg 0 19 (f := 0) (by kernel_rfl) (fun _ _ _ _ _ h => h) (by kernel_rfl) (by kernel_rfl) (by kernel_rfl) (ga) ?_
      apply Exists.intro
      refine ⟨?_, ?_⟩
      · intro wg hg2
        simp only [List.drop_succ_cons, List.drop_zero, List.take_succ_cons, List.take_zero]
        have BG := Lib.hid hg2
        have z0 : ∀ u : After wg, u.w.cell? ⟨p, 0, none⟩ = some (.pointer (some ⟨d, 0, none⟩)) := fun u => ((HJ1.out.box.later BG.out).later u.below).cell (k := 0) rfl
        have z2 : ∀ u : After wg, u.w.cell? ⟨p, 2, none⟩ = some (.pointer none) := fun u => ((HJ1.out.box.later BG.out).later u.below).cell (k := 2) rfl
        have z1 : ∀ u : After wg, u.w.cell? ⟨sb, 1, none⟩ = some (.slice A5 x.l.length c5) := fun u => ((HR1.out.later BG.out).later u.below).cell (k := 1) rfl
        have C1 : Hid (∀ u : After wg, Calls Tryz.prog 14 #[.pointer none, .slice A5 x.l.length c5] u.w fun e W => e = .returned (.int .i64 2) ∧ Below u.w.heap.size u.w W) := Lib.hid fun u => add_nil
        have C2 : Hid (∀ u : After wg, Calls Tryz.prog 20 #[.pointer none, .slice A5 x.l.length c5] u.w fun e W => e = .returned (.int .i64 2) ∧ Below u.w.heap.size u.w W) := Lib.hid fun u => compact_nil
        repeat (go_big_quiet_step (first | (with_reducible exact after_call (C1.out _)) | (with_reducible exact after_call (C2.out _))))
        refine wpQuiet_nil ?_
        exact rfl
      refine wpK_end (by kernel_rfl) ?_
      intro wf gf
      have bf : Below W1.heap.size W1 wf := Grows.trans ga gf
      have FIN := Lib.hid (HJ1.out.later bf).pd
      clear bf gf ga
      go_wp2_with fail
      all_goals go_ret
      all_goals exact ⟨rfl, FIN.out⟩
    · obtain ⟨V1, hvs⟩ := HV.out v xx rfl rfl
      have CB := compact_both (c := c5) HLD.out (HJ1.out.later HBD.out) (⟨V1.v1.later HBD.out, V1.v2.later HBD.out, V1.xs, V1.lo, V1.ne⟩ : PrV w d r p v xx f g n b X1 W1.drew) (Rows.later byM RL.out HBD.out) hxl.1 hxl.2 h1 h2 h3 h4
      obtain ⟨q1, hq1⟩ : ∃ q1, (compactT b f g n x.l S).1 = q1 := ⟨_, rfl⟩
      rw [hq1] at CB
      have CF : Hid (Calls Tryz.prog 20 #[.pointer (some ⟨v, 0, none⟩), .slice A5 x.l.length c5] W1.drew fun e u => e = .returned (.int .i64 q1) ∧ u.cell? ⟨p, 0, none⟩ = some (.pointer (some ⟨d, 0, none⟩)) ∧ u.cell? ⟨p, 3, none⟩ = some (.pointer (some ⟨xx, 0, none⟩)) ∧ u.cell? ⟨sb, 1, none⟩ = some (.slice A5 x.l.length c5) ∧
          Hid (Calls Tryz.prog 27 #[.pointer (some ⟨xx, 0, none⟩), .slice A5 x.l.length c5] u fun e W => e = .returned (.int .i64 q1) ∧ Hid (PdQ w d r p S n W))) := Lib.hid (CB.mono fun e u ⟨e1, B, K, C2⟩ => ⟨e1, B.cell (k := 0) rfl, B.cell (k := 3) rfl, Ro.cell (k := 1) (show Ro u sb 45 _ from (K.blk sb ⟨HX1.out, by omega⟩ (HR1.out.later HBD.out).lt).trans (HR1.out.later HBD.out)) rfl, C2⟩)
      have hx0d : W1.drew.cell? ⟨p, 0, none⟩ = some (.pointer (some ⟨d, 0, none⟩)) := hx0
      have hx2d : W1.drew.cell? ⟨p, 2, none⟩ = some (.pointer (some ⟨v, 0, none⟩)) := hx2
      have hx3d : W1.drew.cell? ⟨p, 3, none⟩ = some (.pointer (some ⟨xx, 0, none⟩)) := hx3
      have hs1d : W1.drew.cell? ⟨sb, 1, none⟩ = some (.slice A5 x.l.length c5) := (HR1.out.later HBD.out).cell (k := 1) rfl
      have t9 : (q1 == q1) = true := beq_self_eq_true _
      clear CB hq1 V1
      go_enter Tryz.func10, Tryz.ntmps10
      go_wp2_with fail
      try rw [hW1]
      go_region_law (first | (go_simp; (with_reducible refine (CF.out).mono ?_); rintro e u ⟨rfl, k0, k3, k1, C2⟩; go_simp) | (go_simp; (with_reducible refine (C2.out).mono ?_); rintro e W ⟨rfl, G⟩; go_simp))
      all_goals go_wp2_with fail
      all_goals go_ret
      all_goals exact ⟨rfl, G.out⟩
  · have f4 : ((x.k : Int) % 6 == 4) = true := by rw [q]; rfl
    clear q
    have CO := Lib.hid (popen_any HLD.out HJ1.out.two HJ1.out.box HJ1.out.xp HJ1.out.low HLT.out (by decide) h3 (by omega) HJ1.out.xo)
    go_enter Tryz.func10, Tryz.ntmps10
    go_wp2_with fail
    try rw [hW1]
    refine (CO.out).mono ?_
    rintro e W2 ⟨rfl, a2, y2, f2, g2, n2, b2, X2, J2, hn2⟩
    have I := inc_open S
    have FIN : Hid (PdQ w d r p S n W2) := Lib.hid ⟨_, _, _, _, _, _, _, _, J2, by omega, by have := I.cnt; omega, by have := I.uses; omega, I.most⟩
    clear J2 I
    go_wp2_with fail
    go_ret
    exact ⟨rfl, FIN.out⟩
  · exact absurd q h5
end
end Go.Proofs.YtjcphpmlekfhdaaGreatDoor
