/- GapPlays: scripts, hashes and how many are watched are the document's; the arguments are left as they were. No condition but that the tables lie as laid. -/
import Derived.Test.YthglegjnkhifeaaDoorMoreM
import Derived.Test.YthglegjnkhifeaaDoorSeg
import Derived.Test.YthglegjnkhifeaaDoorStr
namespace Go.Proofs.YthglegjnkhifeaaDoor
open Go.RowKit

theorem scS_byt (L : List Nat) (i : Int) : AllB (scS L i) := by
  unfold scS
  split
  · exact allB_nil
  · exact scriptS_byt _ _
theorem Is.at_ {w : World} {A : Option Addr} {n : Nat} {L : List Int} (h : Is w A n L) {k : Nat} (hk : k < n) : ∃ b o, A = some ⟨b, o, none⟩ ∧ w.cell? ⟨b, o + k, none⟩ = some (.int .i64 (ith L k)) := by
  obtain ⟨b, o, e, _, hc⟩ := h.cel (Nat.lt_of_le_of_lt (Nat.zero_le _) hk)
  exact ⟨b, o, e, hc k hk⟩

set_option maxRecDepth 100000 in
set_option maxHeartbeats 8000000 in
theorem plays_law {A : Option Addr} {n c : Nat} {L : List Nat} {i : Int} {B : Option Addr} {m d : Nat} {U : List Int} {x : Int} {w : World} (_ : n ≤ c) (_ : c ≤ 9223372036854775807) (hl : Bs w A n L) (_ : -9223372036854775808 ≤ i ∧ i ≤ 9223372036854775807) (_ : m ≤ d) (_ : d ≤ 9223372036854775807) (hu : Is w B m U) (hx : -9223372036854775808 ≤ x ∧ x ≤ 9223372036854775807) (hLd : Laid w) :
    Calls Tryd.prog 3 #[.slice A n c, .int .i64 i, .slice B m d, .int .i64 x] w fun e w' => e = .returned (.bool true) ∧ Below w.heap.size w w' := by
  have HD := Lib.hid hLd
  have HL := Lib.hid hl
  have HU := Lib.hid hu
  have B0 := Lib.hid (Below.refl w.heap.size w)
  clear hLd hl hu
  have fin : ∀ w1, Below w.heap.size w w1 → Calls Tryd.prog 7 #[] w1 fun e w' => e = .returned (.bool true) ∧ Below w.heap.size w w' := fun w1 b => (works_any w1 (HD.out.later HD.out.lt b)).mono fun e w' ⟨h1, h2⟩ => ⟨h1, b.trans (h2.mono b.size)⟩
  have FIN := Lib.hid fin
  clear fin
  go_enter Tryd.func3, Tryd.ntmps3
  by_cases h1 : 200 < n
  · have t0 : decide ((200 : Int) < (n : Int)) = true := decide_eq_true (by omega)
    go_wp2_with fail
    refine (FIN.out _ B0.out).mono ?_
    rintro e w1 ⟨rfl, hb⟩
    have HB := Lib.hid hb
    clear hb
    go_wp2_with fail
    go_ret
    exact ⟨rfl, HB.out⟩
  have t0 : decide ((200 : Int) < (n : Int)) = false := decide_eq_false (by omega)
  by_cases h2 : 200 < m
  · have t1 : decide ((200 : Int) < (m : Int)) = true := decide_eq_true (by omega)
    go_wp2_with fail
    refine (FIN.out _ B0.out).mono ?_
    rintro e w1 ⟨rfl, hb⟩
    have HB := Lib.hid hb
    clear hb
    go_wp2_with fail
    go_ret
    exact ⟨rfl, HB.out⟩
  have t1 : decide ((200 : Int) < (m : Int)) = false := decide_eq_false (by omega)
  by_cases h3 : 2147483648 < i
  · have t2 : decide (2147483648 < i) = true := decide_eq_true h3
    go_wp2_with fail
    refine (FIN.out _ B0.out).mono ?_
    rintro e w1 ⟨rfl, hb⟩
    have HB := Lib.hid hb
    clear hb
    go_wp2_with fail
    go_ret
    exact ⟨rfl, HB.out⟩
  have t2 : decide (2147483648 < i) = false := decide_eq_false h3
  have EQH := eq_same (haS_ok L i)
  have HB := Lib.hid (scS_byt L i)
  obtain ⟨S, hS⟩ : ∃ S, strB (scS L i) = S := ⟨_, rfl⟩
  obtain ⟨T, hT⟩ : ∃ T, strB L = T := ⟨_, rfl⟩
  obtain ⟨H, hH⟩ : ∃ H, haS L i = H := ⟨_, rfl⟩
  obtain ⟨V, hV⟩ : ∃ V, watchS U (max x 1) = V := ⟨_, rfl⟩
  rw [hH] at EQH
  have HS := Lib.hid hS
  have HT := Lib.hid hT
  have HH := Lib.hid hH
  have HV := Lib.hid hV
  clear hS hT hH hV
  have mk0 := Lib.hid (Own.made (w0 := w) (w := w) (Below.refl _ _) #[] 0 (by decide) rfl)
  go_wp2_with (refine wpList_app rfl (.tmp 25) (.tmp 26) rfl rfl mk0.out rfl (HL.out.later ((Below.refl _ w).alloc (Nat.le_refl _) _)) (by omega) ?_)
  intro A1 c1 w1 hc1 O1 g1
  have B1 := Lib.hid O1.bel
  have R1 := Lib.hid O1.reads
  clear O1 g1 mk0
  have mk1 := Lib.hid (OwnI.made (w0 := w) B1.out)
  go_wp2_with (refine wpList_appIs rfl (.tmp 28) (.tmp 29) rfl rfl mk1.out rfl (HU.out.later (B1.out.alloc B1.out.size _)) (by omega) ?_)
  intro A2 c2 w2 hc2 O2 g2 n2
  have B2 := Lib.hid O2.bel
  have I2 := Lib.hid O2.reads
  have R2 := Lib.hid (R1.out.later (box_store g2))
  clear O2 g2 n2 mk1 R1 B1 B0
  go_wp2_with fail
  refine wp_region_seg (W := w2) (by kernel_rfl) fun wa ga => ?_
  refine wpK_seg 0 2 (f := 32) (by kernel_rfl) (fun _ _ _ _ _ h => h) (by kernel_rfl) (by kernel_rfl) (by kernel_rfl) ga ?_
  apply Exists.intro
  refine ⟨?_, ?_⟩
  · intro wg hg
    simp only [List.drop_zero, List.take_succ_cons, List.take_zero]
    repeat (go_big_quiet_step (fail))
    refine wpQuiet_nil ?_
    exact rfl
  refine wpK_seg 4 2 (f := 30) (by kernel_rfl) (fun _ _ _ _ _ h => h) (by kernel_rfl) (by kernel_rfl) (by kernel_rfl) ga ?_
  apply Exists.intro
  refine ⟨?_, ?_⟩
  · intro wg hg
    simp only [List.drop_succ_cons, List.drop_zero, List.take_succ_cons, List.take_zero]
    repeat (go_big_quiet_step (fail))
    refine wpQuiet_nil ?_
    exact rfl
  refine wpK_call (f := 29) (i := 2) (by kernel_rfl) rfl rfl ga ?_
  intro wb gb K hK
  go_simp
  have bb : Below w.heap.size w wb := B2.out.trans (Below.mono gb B2.out.size)
  refine (script_any (c := c1) wb (HD.out.later HD.out.lt bb) (by omega) (by omega) (R2.out.later gb)).mono ?_
  rintro e wn ⟨A3, n3, c3, rfl, _, O3⟩
  refine hK _ _ O3.bel ?_
  have GN := Lib.hid (Grows.trans gb O3.bel)
  have PN := Lib.hid O3.reads
  clear hK K O3 bb
  refine wpK_from GN.out _ _ _ _ ?_
  refine wpK_seg 3 1 (f := 28) (by kernel_rfl) (fun _ _ _ _ _ h => h) (by kernel_rfl) (by kernel_rfl) (by kernel_rfl) (Grows.refl wn) ?_
  apply Exists.intro
  refine ⟨?_, ?_⟩
  · intro wg hg
    simp only [List.drop_succ_cons, List.drop_zero, List.take_succ_cons, List.take_zero]
    have cv : ∀ u : After wg, (convert 22 9 (.slice A3 n3 c3)).run Tryd.prog u.w = .ok (.string S) u.w := fun u => by rw [← HS.out]; exact run_str ((PN.out.later hg).later u.below)
    go_big_quiet_step (fail)
    refine wpQuiet_nil ?_
    exact rfl
  refine wpK_call (f := 27) (i := 6) (by kernel_rfl) rfl rfl (Grows.refl wn) ?_
  intro wc gc K hK
  go_simp
  have bb : Below w.heap.size w wc := B2.out.trans (Below.mono (Grows.trans GN.out gc) B2.out.size)
  refine (refScript_any (c := c) wc (by omega) (by omega) (HL.out.later bb)).mono ?_
  rintro e wm ⟨A5, n5, c5, rfl, _, O5⟩
  refine hK _ _ O5.bel ?_
  have GM := Lib.hid (Grows.trans gc O5.bel)
  have PM := Lib.hid O5.reads
  clear hK K O5 bb
  refine wpK_from GM.out _ _ _ _ ?_
  have GG := Lib.hid (Grows.trans GN.out GM.out)
  refine wpK_seg 7 27 (f := 0) (by kernel_rfl) (fun _ _ _ _ _ h => h) (by kernel_rfl) (by kernel_rfl) (by kernel_rfl) (Grows.refl wm) ?_
  apply Exists.intro
  refine ⟨?_, ?_⟩
  · intro wg hg
    simp only [List.drop_succ_cons, List.drop_zero, List.take_succ_cons, List.take_zero]
    have gg := Grows.trans GG.out hg
    have BU : Hid (∀ u : After wg, Below w.heap.size w u.w) := Lib.hid (fun u => (B2.out.trans (gg.mono B2.out.size)).trans (u.below.mono (Nat.le_trans B2.out.size gg.size)))
    have cv : ∀ u : After wg, (convert 22 9 (.slice A5 n5 c5)).run Tryd.prog u.w = .ok (.string S) u.w := fun u => by rw [← HS.out]; exact run_str ((PM.out.later hg).later u.below)
    have cv1 : ∀ u : After wg, (convert 22 9 (.slice A1 n c1)).run Tryd.prog u.w = .ok (.string T) u.w := fun u => by rw [← HT.out]; exact run_str ((R2.out.later gg).later u.below)
    have cv2 : ∀ u : After wg, (convert 22 9 (.slice A n c)).run Tryd.prog u.w = .ok (.string T) u.w := fun u => by rw [← HT.out]; exact run_str (HL.out.later (BU.out u))
    have C1 : Hid (∀ u : After wg, Calls Tryd.prog 10 #[.slice A1 n c1, .int .i64 i] u.w fun e w' => e = .returned (.agg (vals H).toArray) ∧ Below u.w.heap.size u.w w') := Lib.hid (fun u => by
      rw [← HH.out]; exact hash_any (c := c1) u.w (HD.out.later HD.out.lt (BU.out u)) (by omega) (by omega) ((R2.out.later gg).later u.below))
    have C2 : Hid (∀ u : After wg, Calls Tryd.prog 11 #[.slice A n c, .int .i64 i] u.w fun e w' => e = .returned (.agg (vals H).toArray) ∧ Below u.w.heap.size u.w w') := Lib.hid (fun u => by
      rw [← HH.out]; exact refHash_any (c := c) u.w (by omega) (by omega) (HL.out.later (BU.out u)))
    have C3 : Hid (∀ u : After wg, Calls Tryd.prog 12 #[.slice A2 m c2, .int .i64 x] u.w fun e w' => e = .returned (.int .i64 (V : Nat)) ∧ Below u.w.heap.size u.w w') := Lib.hid (fun u => by
      rw [← HV.out]; exact watch_any (c := c2) u.w (by omega) (by omega) ((I2.out.later gg).later u.below))
    have C4 : Hid (∀ u : After wg, Calls Tryd.prog 13 #[.slice B m d, .int .i64 x] u.w fun e w' => e = .returned (.int .i64 (V : Nat)) ∧ Below u.w.heap.size u.w w') := Lib.hid (fun u => by
      rw [← HV.out]; exact refWatch_any (c := d) u.w (by omega) (by omega) (HU.out.later (BU.out u)))
    clear gg
    repeat (go_big_quiet_step (fail))
    go_big_quiet_step (exact after_call (C1.out _))
    repeat (go_big_quiet_step (fail))
    go_big_quiet_step (exact after_call (C2.out _))
    repeat (go_big_quiet_step (fail))
    go_big_quiet_step (exact after_call (C3.out _))
    repeat (go_big_quiet_step (fail))
    go_big_quiet_step (exact after_call (C4.out _))
    repeat (go_big_quiet_step (fail))
    refine wpQuiet_nil ?_
    exact rfl
  refine wpK_end (by kernel_rfl) fun wz gz => ?_
  have gg := Grows.trans GG.out gz
  have Bz := Lib.hid (B2.out.trans (gg.mono B2.out.size))
  have Iz := Lib.hid (I2.out.later gg)
  have Uz := Lib.hid (HU.out.later Bz.out)
  clear gg gz ga GG GN GM PN PM R2 I2 B2 EQH HS HT HH HV HB
  go_wp2_with fail
  go_loopw [11] (fun v wr => ∃ k : Nat, v = .int .i64 (k : Nat) ∧ k ≤ m ∧ Below wz.heap.size wz wr) (fun v _ => m - (intOf v).toNat)
  case atStart => exact ⟨0, rfl, Nat.zero_le _, Below.refl _ _⟩
  case round =>
    obtain ⟨k, rfl, hk, hB⟩ := hrel
    have HBr := Lib.hid hB
    clear hB
    by_cases hlk : k < m
    · have t4 : decide ((k : Int) < (m : Int)) = true := decide_eq_true (by omega)
      obtain ⟨b1, o1, e1, q1⟩ := (Iz.out.later HBr.out).at_ hlk
      obtain ⟨b2, o2, e2, q2⟩ := (Uz.out.later HBr.out).at_ hlk
      obtain ⟨u, hu⟩ : ∃ u, ith U k = u := ⟨_, rfl⟩
      rw [hu] at q1 q2
      subst e1 e2
      have ad1 := add_at b1 o1
      have ad2 := add_at b2 o2
      clear hu
      go_wp2_with fail
      have r1 : ∀ u' : After wr, u'.w.cell? ⟨b1, o1 + k, none⟩ = some (.int .i64 u) := fun u' => u'.cell q1
      have r2 : ∀ u' : After wr, u'.w.cell? ⟨b2, o2 + k, none⟩ = some (.int .i64 u) := fun u' => u'.cell q2
      clear q1 q2
      refine wp_region_after (by kernel_rfl) (by kernel_rfl) ?_
      repeat (go_big_quiet_step (fail))
      refine wpQuiet_nil ?_
      rintro wq ⟨u', rfl⟩
      have Bq := Lib.hid (HBr.out.trans (u'.below.mono HBr.out.size))
      go_wp2_with fail
      exact ⟨⟨k + 1, by go_num, by omega, Bq.out⟩, by simp [intOf]; omega⟩
    · have t4 : decide ((k : Int) < (m : Int)) = false := decide_eq_false (by omega)
      have BF := Lib.hid (Bz.out.trans (HBr.out.mono Bz.out.size))
      go_wp2_with fail
      refine (FIN.out _ BF.out).mono ?_
      rintro e w9 ⟨rfl, hb⟩
      have HB := Lib.hid hb
      clear hb
      go_wp2_with fail
      go_ret
      exact ⟨rfl, HB.out⟩
end Go.Proofs.YthglegjnkhifeaaDoor
