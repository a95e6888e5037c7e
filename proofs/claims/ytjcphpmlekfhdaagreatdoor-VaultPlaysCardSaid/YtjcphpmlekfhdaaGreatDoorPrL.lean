/- The pair: alike. No condition but bounds. -/
import Derived.Test.YtjcphpmlekfhdaaGreatDoorPrO
import Derived.Test.YtjcphpmlekfhdaaGreatDoorGi
import Derived.Test.YtjcphpmlekfhdaaGreatDoorGg
import Derived.BigQuiet
import Derived.BigRegion
import Derived.Deep.RegionLaw
namespace Go.Proofs.YtjcphpmlekfhdaaGreatDoor
open Go.RowKit
attribute [local go_sem] Oper.semAt_some
section
variable {w wr : World} {d r p k f g n : Nat} {b : Bool} {S : Dk} {a y : Value} {X : Nat → Prop}
theorem PrJ.later {W : World} (J : PrJ w d r p S a y f g n b X wr) (b4 : Below wr.heap.size wr W) : PrJ w d r p S a y f g n b X W := by
  obtain ⟨h1, h2, h3, h4, h5, h6, h7⟩ := J
  refine ⟨h1.later b4, h2.later b4, h3, h4, ?_, h6, h7⟩
  rcases h5 with h | ⟨v, x, e1, e2, V1, V2, h⟩
  · exact .inl h
  · exact .inr ⟨v, x, e1, e2, V1.later b4, V2.later b4, h⟩
set_option maxRecDepth 100000 in
set_option maxHeartbeats 8000000 in
theorem palike_any (J : PrJ w d r p S a y f g n b X wr) (lt : Lt S) (hn : n ≤ 4611686018427387904) :
    Calls Tryz.prog 9 #[.pointer (some ⟨p, 0, none⟩)] wr fun e W => e = .returned (.bool true) ∧ PrJ w d r p S a y f g n b X W := by
  have HJ := Lib.hid J
  have HLT := Lib.hid lt
  clear J lt
  go_enter Tryz.func9, Tryz.ntmps9
  go_wp2_with fail
  refine wp_region_seg (by kernel_rfl) fun wa ga => ?_
  refine wpK_seg 0 11 (f := 0) (by kernel_rfl) (fun _ _ _ _ _ h => h) (by kernel_rfl) (by kernel_rfl) (by kernel_rfl) (ga) ?_
  apply Exists.intro
  refine ⟨?_, ?_⟩
  · intro wg hg2
    simp only [List.drop_succ_cons, List.drop_zero, List.take_succ_cons, List.take_zero]
    have BG := Lib.hid hg2
    have z0 : ∀ u : After wg, u.w.cell? ⟨p, 0, none⟩ = some (.pointer (some ⟨d, 0, none⟩)) := fun u => ((HJ.out.box.later BG.out).later u.below).cell (k := 0) rfl
    have z1 : ∀ u : After wg, u.w.cell? ⟨p, 1, none⟩ = some (.pointer (some ⟨r, 0, none⟩)) := fun u => ((HJ.out.box.later BG.out).later u.below).cell (k := 1) rfl
    have C1 : Hid (∀ u : After wg, Calls Tryz.prog 16 #[.pointer (some ⟨d, 0, none⟩)] u.w fun e W => e = .returned (.int .i64 (S.room : Nat)) ∧ Below u.w.heap.size u.w W) := Lib.hid fun u => room_two ((HJ.out.two.later BG.out).later u.below)
    have C2 : Hid (∀ u : After wg, Calls Tryz.prog 23 #[.pointer (some ⟨r, 0, none⟩)] u.w fun e W => e = .returned (.int .i64 (S.room : Nat)) ∧ Below u.w.heap.size u.w W) := Lib.hid fun u => rroom_two ((HJ.out.two.later BG.out).later u.below) HLT.out
    repeat (go_big_quiet_step (first | (with_reducible exact after_call (C1.out _)) | (with_reducible exact after_call (C2.out _))))
    refine wpQuiet_nil ?_
    exact rfl
  refine wpK_end (by kernel_rfl) ?_
  intro wf gf
  have bf : Below wr.heap.size wr wf := Grows.trans ga gf
  have HJ1 := Lib.hid (HJ.out.later bf)
  clear bf gf ga HJ
  go_wp2_with fail
  go_loopw [3] (fun i wq => ∃ q : Nat, q ≤ 2 ∧ i = .int .i64 (q : Nat) ∧ PrJ w d r p S a y f g n b X wq) (fun i _ => 2 - (intOf i).toNat)
  case atStart => exact ⟨0, by omega, rfl, HJ1.out⟩
  case round =>
    obtain ⟨q, hq, rfl, J⟩ := hrel
    have HJ := Lib.hid J
    clear J HJ1
    by_cases hq2 : q < 2
    · have t1 : decide ((q : Int) < 2) = true := decide_eq_true (by omega)
      have CR := Lib.hid (read_two HJ.out.two HLT.out (q : Nat))
      have x0 := HJ.out.box.cell (k := 0) rfl
      obtain ⟨L, hL⟩ : ∃ L, (S.read (q : Nat)).1 = L := ⟨_, rfl⟩
      obtain ⟨x, hx⟩ : ∃ x, (S.read (q : Nat)).2 = x := ⟨_, rfl⟩
      have HLx := Lib.hid (And.intro hL hx)
      rw [hL, hx] at CR
      clear hL hx
      go_wp2_with fail
      refine (CR.out).mono ?_
      rintro e u ⟨A1, n1, cc1, rfl, hB1, b1⟩
      have HB1 := Lib.hid hB1
      have HJ2 := Lib.hid (HJ.out.later b1)
      have x1 := HJ2.out.box.cell (k := 1) rfl
      have x0 := HJ2.out.box.cell (k := 0) rfl
      have CR2 := rread_two HJ2.out.two HLT.out (q : Nat)
      rw [HLx.out.1, HLx.out.2] at CR2
      have HC2 := Lib.hid CR2
      clear hB1 b1 CR2 CR
      go_wp2_with fail
      refine (HC2.out).mono ?_
      rintro e u2 ⟨A2, n2, cc2, rfl, hB2, b2⟩
      have rs1 := run_str (c := cc1) (HB1.out.later b2)
      have rs2 := run_str (c := cc2) hB2
      have HJ3 := Lib.hid (HJ2.out.later b2)
      clear hB2 b2 HC2
      go_wp2_with fail
      go_roundw
      case rel => exact ⟨q + 1, by omega, by go_num, HJ3.out⟩
      case measure => simp [intOf]; omega
    · have t1 : decide ((q : Int) < 2) = false := decide_eq_false (by omega)
      have hst := HJ.out.st
      rcases hst with ⟨rfl, rfl⟩ | ⟨v, x, rfl, rfl, V1, V2, hX, hlo, hne⟩
      · have x0 := HJ.out.box.cell (k := 0) rfl
        have x3 := HJ.out.box.cell (k := 3) rfl
        have x0d : wr.drew.cell? ⟨p, 0, none⟩ = some (.pointer (some ⟨d, 0, none⟩)) := x0
        have x3d : wr.drew.cell? ⟨p, 3, none⟩ = some (.pointer none) := x3
        have FIN : Hid (PrJ w d r p S (.pointer none) (.pointer none) f g n b X wr.drew) := Lib.hid (HJ.out.later (Below.refl _ _).drew)
        go_wp2_with fail
        go_region
        all_goals go_wp2_with fail
        all_goals go_ret
        all_goals exact ⟨rfl, FIN.out⟩
      · have HV1 := Lib.hid V1
        have HV2 := Lib.hid V2
        clear V1 V2
        go_wp2_with fail
        refine wp_region_seg (by kernel_rfl) fun wa ga => ?_
        refine wpK_seg 0 36 (f := 0) (by kernel_rfl) (fun _ _ _ _ _ h => h) (by kernel_rfl) (by kernel_rfl) (by kernel_rfl) (ga) ?_
        apply Exists.intro
        refine ⟨?_, ?_⟩
        · intro wg hg2
          simp only [List.drop_succ_cons, List.drop_zero, List.take_succ_cons, List.take_zero]
          have BG := Lib.hid hg2
          have z0 : ∀ u : After wg, u.w.cell? ⟨p, 0, none⟩ = some (.pointer (some ⟨d, 0, none⟩)) := fun u => ((HJ.out.box.later BG.out).later u.below).cell (k := 0) rfl
          have z2 : ∀ u : After wg, u.w.cell? ⟨p, 2, none⟩ = some (.pointer (some ⟨v, 0, none⟩)) := fun u => ((HJ.out.box.later BG.out).later u.below).cell (k := 2) rfl
          have z3 : ∀ u : After wg, u.w.cell? ⟨p, 3, none⟩ = some (.pointer (some ⟨x, 0, none⟩)) := fun u => ((HJ.out.box.later BG.out).later u.below).cell (k := 3) rfl
          have v0 : ∀ u : After wg, u.w.cell? ⟨x, 0, none⟩ = some (.pointer (some ⟨r, 0, none⟩)) := fun u => ((HV2.out.later BG.out).later u.below).cell (k := 0) rfl
          have v2 : ∀ u : After wg, u.w.cell? ⟨x, 2, none⟩ = some (.int .u64 (g : Int)) := fun u => ((HV2.out.later BG.out).later u.below).cell (k := 2) rfl
          have v3 : ∀ u : After wg, u.w.cell? ⟨x, 3, none⟩ = some (.int .i64 (n : Int)) := fun u => ((HV2.out.later BG.out).later u.below).cell (k := 3) rfl
          have C1 : Hid (∀ u : After wg, Calls Tryz.prog 12 #[.pointer (some ⟨v, 0, none⟩)] u.w fun e W => e = .returned (.int .u64 (g : Nat)) ∧ Below u.w.heap.size u.w W) := Lib.hid fun u => (gen_any u.w ((HV1.out.later BG.out).later u.below)).mono fun e W h => ⟨h.1, by rw [h.2]; exact Below.refl _ _⟩
          have C2 : Hid (∀ u : After wg, Calls Tryz.prog 13 #[.pointer (some ⟨v, 0, none⟩)] u.w fun e W => e = .returned (.int .i64 (n : Nat)) ∧ Below u.w.heap.size u.w W) := Lib.hid fun u => (len_any u.w ((HV1.out.later BG.out).later u.below)).mono fun e W h => ⟨h.1, by rw [h.2]; exact Below.refl _ _⟩
          repeat (go_big_quiet_step (first | (with_reducible exact after_call (C1.out _)) | (with_reducible exact after_call (C2.out _))))
          refine wpQuiet_nil ?_
          exact rfl
        refine wpK_end (by kernel_rfl) ?_
        intro wf gf
        have bf : Below wr.heap.size wr wf := Grows.trans ga gf
        have HJ1 := Lib.hid (HJ.out.later bf)
        clear bf gf ga HJ
        go_wp2_with fail
        all_goals go_ret
        all_goals exact ⟨rfl, HJ1.out⟩
end
end Go.Proofs.YtjcphpmlekfhdaaGreatDoor
