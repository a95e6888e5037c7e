/- A reader's transaction. No condition. -/
import Derived.Test.YtbdjcbdnhaddoaaDoorGi
import Derived.Deep.Cut
import Derived.Deep.CutRange
namespace Go.Proofs.YtbdjcbdnhaddoaaDoor
open Go.RowKit

set_option maxRecDepth 100000 in
set_option maxHeartbeats 8000000 in
theorem tx_any {w0 w : World} {r : Nat} {L : List Nat} (R : Reader w0 w r L) :
    Calls Tryd.prog 58 #[.pointer (some ⟨r, 0, none⟩)] w fun e w' => (∃ t R', txP L = some (t, R') ∧ ReadsT w0 r w t R' e w') ∨ (txP L = none ∧ e = .panicked shortP ∧ Gr r w w') := by
  have z0 := zeroTx
  have rl := R.lt
  have rlo := R.lo
  have b0 : Below w.heap.size w (w.alloc (.cells zTx.toArray 26)) := (Below.refl _ w).alloc (Nat.le_refl _) _
  have R0 := Lib.hid (R.later b0)
  have G0 := Lib.hid (gr_below r b0)
  have P0 := Lib.hid (Ro.new w 26 zTx)
  have HB := Lib.hid R.byt
  have C1 : Hid (Calls Tryd.prog 70 #[.pointer (some ⟨r, 0, none⟩), .int .u64 4] (w.alloc (.cells zTx.toArray 26)) fun e w' => (∃ x R', numP 4 L = some (x, R') ∧ e = .returned (.int .u64 (x : Int)) ∧ Reader w0 w' r R' ∧ Gr r (w.alloc (.cells zTx.toArray 26)) w') ∨ (numP 4 L = none ∧ e = .panicked shortP ∧ Gr r (w.alloc (.cells zTx.toArray 26)) w')) := Lib.hid (number_any (s := 4) R0.out (by decide) (by decide))
  clear R b0
  go_enter Tryd.func58, Tryd.ntmps58
  go_wp2_with (go_at_call 70; refine C1.out.mono ?_)
  rintro e w2 (⟨ver, r1, h1, rfl, R1, G1⟩ | ⟨h1, rfl, G1⟩)
  case inr => exact ⟨rfl, .inr ⟨by unfold txP; rw [h1]; rfl, rfl, gr_trans G0.out G1⟩⟩
  obtain ⟨_, hb1, hv⟩ := numP_some h1 HB.out
  have v32 : ver < 4294967296 := hv
  have W1 : IntKind.u32.wrap (ver : Int) = (ver : Int) := by rw [IntKind.wrap_u32]; omega
  have sz2 : w.heap.size < w2.heap.size := by have := G1.size; rw [World.size_alloc] at this; omega
  have H1 := Lib.hid h1
  have HB1 := Lib.hid hb1
  have HR1 := Lib.hid R1
  have HG1 := Lib.hid (gr_trans G0.out G1)
  have HP1 := Lib.hid (P0.out.far G1 (fun e => by injection e; omega))
  clear h1 hb1 hv R1 G1 C1 R0 G0 P0
  go_upto_region 2 with (refine wpList_store_ro rfl (.tmp 3) (.tmp 9) rfl (vs := txV ver none 0 0 none 0 0 0) rfl rfl rowTx (Ro.new w2 26 zTx) rfl rfl (txV_one _ _ _ _ _ _ _ _) ?_)
  intro w3 R3 g3
  have bl3 := box_store g3
  obtain ⟨q, hq⟩ : ∃ q, w2.heap.size = q := ⟨_, rfl⟩
  have I3 : Hid (TxB w0 w r q r1 (txV ver none 0 0 none 0 0 0) w3) := Lib.hid ⟨HR1.out.later bl3, gr_trans HG1.out (gr_below r bl3), by rw [← hq]; exact R3, HP1.out.later bl3⟩
  rw [hq] at sz2 ⊢
  clear R3 g3 bl3 HR1 HG1 HP1 hq
  go_upto_region 2 with fail
  go_cut [4] from 10 to 24 (fun b wx => b = .bool (marked r1) ∧ wx = w3)
  case first =>
    obtain ⟨A, n, c, hbx, hnc, hn30, hbs⟩ := I3.out.rd.box
    obtain rfl := hbs.len
    have c0 := hbx.cell (k := 0) rfl
    have hb3 := Lib.hid (hbs.later I3.out.rd.bel)
    clear hbx hbs
    by_cases hl : 1 < r1.length
    · have t1 : decide (1 < (r1.length : Int)) = true := decide_eq_true (by omega)
      have t1n : decide (1 < r1.length) = true := decide_eq_true hl
      obtain ⟨a, rfl, _, c1, lt1⟩ := hb3.out.at_ (k := 0) (by omega)
      have c1' : w3.cell? a = some (.int .u8 (nth r1 0 : Nat)) := by rw [← c1]; simp [Addr.add]
      obtain ⟨x, hx⟩ : ∃ x, nth r1 0 = x := ⟨_, rfl⟩
      rw [hx] at c1 c1' lt1
      by_cases h0 : x = 0
      · subst h0
        have HM : Hid (marked r1 = true) := Lib.hid (by unfold marked; rw [t1n, hx]; rfl)
        clear hx
        go_wp2_with fail
        go_meet
        exact ⟨by rw [HM.out], rfl⟩
      · have HM : Hid (marked r1 = false) := Lib.hid (by unfold marked; rw [hx, decide_eq_false h0, Bool.and_false])
        have t2 : decide ((x : Int) = 0) = false := decide_eq_false (by omega)
        have t3 : decide (x = 0) = false := decide_eq_false h0
        clear hx
        go_wp2_with fail
        go_meet
        exact ⟨by rw [HM.out]; exact congrArg Value.bool (beq_eq_false_iff_ne.2 (by omega)), rfl⟩
    · have t1 : decide (1 < (r1.length : Int)) = false := decide_eq_false (by omega)
      have t1n : decide (1 < r1.length) = false := decide_eq_false hl
      have HM : Hid (marked r1 = false) := Lib.hid (by unfold marked; rw [t1n]; rfl)
      go_wp2_with fail
      go_meet
      exact ⟨by rw [HM.out], rfl⟩
  case rest =>
    obtain ⟨rfl, rfl⟩ := hcut
    obtain ⟨mk, hmk⟩ : ∃ mk, marked r1 = mk := ⟨_, rfl⟩
    rw [hmk]
    have HMK := Lib.hid hmk
    clear hmk
    go_upto_if 25 with fail
    go_cut [] from 26 to 27 (fun wx => TxB w0 w r q (if mk then r1.drop 2 else r1) (txV ver none 0 0 none 0 0 0) wx)
    case first =>
      cases mk with
      | true =>
        have hl2 : 2 ≤ r1.length := by
          have hM := HMK.out
          unfold marked at hM
          rw [Bool.and_eq_true] at hM
          exact of_decide_eq_true hM.1
        have C2 : Hid (Calls Tryd.prog 71 #[.pointer (some ⟨r, 0, none⟩), .int .u64 2] wc fun e w' => ∃ A c, e = .returned (.slice A 2 c) ∧ 2 ≤ c ∧ Bs w0 A 2 (r1.take 2) ∧ Reader w0 w' r (r1.drop 2) ∧ Gr r wc w') := Lib.hid (some_yes (n := 2) I3.out.rd hl2)
        go_wp2_with (go_at_call 71; refine C2.out.mono ?_; rintro e w4 ⟨A4, c4, rfl, hc4, _, R4, G4⟩)
        go_meet
        exact I3.out.call rl sz2 R4 G4
      | false =>
        go_wp2_with fail
        go_meet
        exact I3.out
    case rest =>
      have HT := Lib.hid (txP_eq H1.out HMK.out)
      obtain ⟨r2, hr2⟩ : ∃ r2, (if mk then r1.drop 2 else r1) = r2 := ⟨_, rfl⟩
      rw [hr2] at HT hcut
      have HI := Lib.hid hcut
      have C2 := Lib.hid (count_any hcut.rd)
      clear hcut hr2
      go_wp2_with (go_at_call 72; refine C2.out.mono ?_)
      rintro e w4 (⟨ni, r3, h2, rfl, R4, G4⟩ | ⟨h2, rfl, G4⟩)
      case inr => exact ⟨rfl, .inr ⟨bind_none HT.out h2, rfl, gr_trans HI.out.gr G4⟩⟩
      have HT2 := Lib.hid (bind_some HT.out h2)
      have hni := (cntP_some h2 HI.out.rd.byt).2.2
      have HB3 := Lib.hid (cntP_some h2 HI.out.rd.byt).2.1
      have hl3 : r3.length ≤ 1073741824 := R4.len
      have I4 := Lib.hid (HI.out.call rl sz2 R4 G4)
      clear HT h2 HI R4 G4 C2 H1 HB1 I3 HMK
      go_wp2_with fail
      go_loopw [30] (fun i wr => ∃ (k : Nat) (A : Option Addr) (c : Nat) (pre : List InD) (Rk : List Nat), k ≤ ni ∧ i = .int .u64 (k : Nat) ∧ k ≤ c ∧ Hid (listP inP k r3 = some (pre, Rk)) ∧ Hid (NewRw 56 36 InR w0 (q + 1) (.slice A k c) k pre wr) ∧ Hid (TxB w0 w r q Rk (txV ver A k c none 0 0 0) wr)) (fun i _ => ni - (intOf i).toNat)
      case atStart => exact ⟨0, none, 0, [], r3, by omega, rfl, Nat.le_refl _, Lib.hid rfl, Lib.hid (NewRw.none_ I4.out.rd.bel (by omega)), I4⟩
      case round =>
        clear I4
        obtain ⟨k, A, c, pre, Rk, hk, rfl, hc, HP, HN, HI⟩ := hrel
        by_cases hlt : k < ni
        · have t1 : decide ((k : Int) < (ni : Int)) = true := decide_eq_true (by omega)
          go_wp2_with fail
          refine wp_region_any (by kernel_rfl) ?_
          change wpAny _ _ _ _ _ _ _ (World.drew _)
          have bd : Below wr.heap.size wr wr.drew := (Below.refl _ _).drew
          have ID := Lib.hid (HI.out.later bd)
          have ND := Lib.hid (HN.out.later inR_mono bd)
          clear bd HI HN
          obtain ⟨wd, hwd⟩ : ∃ wd, wr.drew = wd := ⟨_, rfl⟩
          rw [hwd] at ID ND ⊢
          have cd := ID.out.q.cell (k := 1) rfl
          refine wpAny_take (i := 0) (v := ?_) rfl (by kernel_rfl) (by kernel_rfl) (by kernel_rfl) (fun _ _ _ h => h) (Or.inl ⟨by rfl, ?_⟩) ?_
          rotate_left
          · intro w
            go_simp
            with_reducible rfl
          refine wpAny_take (i := 2) (v := ?_) rfl (by kernel_rfl) (by kernel_rfl) (by kernel_rfl) (fun _ _ _ h => h) (Or.inl ⟨by rfl, ?_⟩) ?_
          rotate_left
          · intro w
            go_simp
            with_reducible rfl
          refine wpAny_ready (rs := [1, 3]) (by kernel_rfl) (by simp) ?_
          refine AllReady.cons rfl (fun K hK => ?_) (AllReady.cons rfl (fun K hK => ?_) AllReady.nil)
          · go_simp
            refine hK _ _ ?_
            clear hK K
            refine wpAny_ready (rs := [3]) (by kernel_rfl) (by simp) ?_
            refine AllReady.cons rfl (fun K hK => ?_) AllReady.nil
            go_simp
            with_reducible refine (in_any ID.out.rd).mono ?_
            rintro e w5 (⟨i, Rn, h2, As, ns, cs, rfl, S5, R5, G5⟩ | ⟨h2, rfl, G5⟩)
            case inr => exact ⟨rfl, .inr ⟨bind_none HT2.out (listP_stop HP.out h2 hlt), rfl, gr_trans ID.out.gr G5⟩⟩
            have hnext := listP_next HP.out h2
            have hlen := Lib.hid (listP_some inP_eats (k + 1) hnext HB3.out).1
            have HX := Lib.hid hnext
            have I5 := Lib.hid (ID.out.call rl sz2 R5 G5)
            have N5 := Lib.hid (ND.out.far inR_mono G5 (by omega) rlo)
            have gs5 : q + 1 ≤ wd.heap.size := ID.out.q.lt
            have S6 : Hid (InS w5 (fun b => q + 1 ≤ b ∧ some b ≠ Value.ownBlock (.slice A k c)) i As ns cs none 0 0) := Lib.hid (S5.weak fun b hb _ => ⟨by omega, fun e => by have := (ND.out.own.new b e.symm).2; omega⟩)
            have hi32 := Lib.hid S5.ok.h
            have c5 := I5.out.q.cell (k := 1) rfl
            clear hnext S5 R5 G5 h2 ID ND cd
            refine hK _ _ ?_
            clear hK K
            refine wpAny_ready (rs := [4]) (by kernel_rfl) (by simp) ?_
            refine AllReady.cons rfl (fun K hK => ?_) AllReady.nil
            refine step_wp rfl (wp_lit1 elemI (by decide) rfl (.tmp 35) rfl rfl (inV_len hi32.out _ _ _ _ _ _ _ _) ?_)
            show K (Act.put _ (some 36) _) _
            have bl6 := (Below.refl w5.heap.size w5).alloc (Nat.le_refl _) (.cells (inV i.h i.n As ns cs i.q none 0 0).toArray 56)
            have I6 := Lib.hid (I5.out.later bl6)
            have N6 := Lib.hid (N5.out.later inR_mono bl6)
            have RW := Lib.hid (Ro.new w5 56 (inV i.h i.n As ns cs i.q none 0 0)).whole
            have EL : Hid (Each 36 (InR (w5.alloc (.cells (inV i.h i.n As ns cs i.q none 0 0).toArray 56)) fun b => q + 1 ≤ b ∧ some b ≠ Value.ownBlock (.slice A k c) ∧ b < (w5.alloc (.cells (inV i.h i.n As ns cs i.q none 0 0).toArray 56)).heap.size) (inV i.h i.n As ns cs i.q none 0 0) [i]) :=
              Lib.hid (Each.one (inV_len hi32.out _ _ _ _ _ _ _ _) ⟨As, ns, cs, none, 0, 0, rfl, (S6.out.weak (Q := fun b => q + 1 ≤ b ∧ some b ≠ Value.ownBlock (.slice A k c) ∧ b < (w5.alloc (.cells (inV i.h i.n As ns cs i.q none 0 0).toArray 56)).heap.size) fun b hb hl => ⟨hb.1, hb.2, by rw [World.size_alloc]; omega⟩).keep (Kept.of_below bl6)⟩)
            have c6 := I6.out.q.cell (k := 1) rfl
            clear bl6 I5 N5 S6 c5
            refine hK _ _ ?_
            clear hK K
            refine wpAny_ready (rs := [5]) (by kernel_rfl) (by simp) ?_
            refine AllReady.cons rfl (fun K hK => ?_) AllReady.nil
            refine step_wp rfl (wp_appRw (v := .slice A k c) elemI inR_mono rfl (.tmp 33) (.tmp 36) rfl rfl N6.out.own rfl (k := [i]) (N := k + 1) rfl (fun _ => ⟨_, _, rfl, RW.out⟩) EL.out (inV_one _ _ _ _ _ _ _ _ _) rfl (by have := hlen.out; omega) (by have := hlen.out; omega) ?_)
            intro A7 c7 w7 hc7 O7 g7 e7
            show K (Act.put _ (some 37) _) _
            have I7 := Lib.hid (I6.out.grown N6.out g7 rl sz2 (Nat.lt_succ_self q))
            have N7 := Lib.hid (N6.out.grown O7 (by have := I6.out.q.lt; omega) e7)
            have c7q := I7.out.q.cell (k := 1) rfl
            have f7q := I7.out.q.free 1
            clear O7 g7 e7 I6 N6 RW EL c6
            refine hK _ _ ?_
            clear hK K
            refine wpAny_ready (rs := [6]) (by kernel_rfl) (by simp) ?_
            refine AllReady.cons rfl (fun K hK => ?_) AllReady.nil
            go_simp
            refine hK _ _ ?_
            clear hK K
            refine wpAny_ready (rs := [7]) (by kernel_rfl) (by simp) ?_
            refine AllReady.cons rfl (fun K hK => ?_) AllReady.nil
            go_simp
            refine hK _ _ ?_
            clear hK K
            refine wpAny_done (by kernel_rfl) ?_ _
            have I8 := Lib.hid (I7.out.set rl sz2 1 (.slice A7 (k + 1) c7))
            have N8 := Lib.hid (N7.out.set (q := q) inR_mono (Nat.lt_succ_self q) (by omega) 1 (.slice A7 (k + 1) c7))
            clear I7 N7 c7q f7q
            go_wp2_with fail
            exact ⟨⟨k + 1, A7, c7, pre ++ [i], Rn, by omega, by go_num, hc7, HX, N8, I8⟩, by simp [intOf]; omega⟩
          · go_simp
            with_reducible refine (in_any ID.out.rd).mono ?_
            rintro e w5 (⟨i, Rn, h2, As, ns, cs, rfl, S5, R5, G5⟩ | ⟨h2, rfl, G5⟩)
            case inr => exact ⟨rfl, .inr ⟨bind_none HT2.out (listP_stop HP.out h2 hlt), rfl, gr_trans ID.out.gr G5⟩⟩
            have hnext := listP_next HP.out h2
            have hlen := Lib.hid (listP_some inP_eats (k + 1) hnext HB3.out).1
            have HX := Lib.hid hnext
            have I5 := Lib.hid (ID.out.call rl sz2 R5 G5)
            have N5 := Lib.hid (ND.out.far inR_mono G5 (by omega) rlo)
            have gs5 : q + 1 ≤ wd.heap.size := ID.out.q.lt
            have S6 : Hid (InS w5 (fun b => q + 1 ≤ b ∧ some b ≠ Value.ownBlock (.slice A k c)) i As ns cs none 0 0) := Lib.hid (S5.weak fun b hb _ => ⟨by omega, fun e => by have := (ND.out.own.new b e.symm).2; omega⟩)
            have hi32 := Lib.hid S5.ok.h
            have c5 := I5.out.q.cell (k := 1) rfl
            clear hnext S5 R5 G5 h2 ID ND cd
            refine hK _ _ ?_
            clear hK K
            refine wpAny_ready (rs := [1, 4]) (by kernel_rfl) (by simp) ?_
            refine AllReady.cons rfl (fun K hK => ?_) (AllReady.cons rfl (fun K hK => ?_) AllReady.nil)
            · go_simp
              refine hK _ _ ?_
              clear hK K
              refine wpAny_ready (rs := [4]) (by kernel_rfl) (by simp) ?_
              refine AllReady.cons rfl (fun K hK => ?_) AllReady.nil
              refine step_wp rfl (wp_lit1 elemI (by decide) rfl (.tmp 35) rfl rfl (inV_len hi32.out _ _ _ _ _ _ _ _) ?_)
              show K (Act.put _ (some 36) _) _
              have bl6 := (Below.refl w5.heap.size w5).alloc (Nat.le_refl _) (.cells (inV i.h i.n As ns cs i.q none 0 0).toArray 56)
              have I6 := Lib.hid (I5.out.later bl6)
              have N6 := Lib.hid (N5.out.later inR_mono bl6)
              have RW := Lib.hid (Ro.new w5 56 (inV i.h i.n As ns cs i.q none 0 0)).whole
              have EL : Hid (Each 36 (InR (w5.alloc (.cells (inV i.h i.n As ns cs i.q none 0 0).toArray 56)) fun b => q + 1 ≤ b ∧ some b ≠ Value.ownBlock (.slice A k c) ∧ b < (w5.alloc (.cells (inV i.h i.n As ns cs i.q none 0 0).toArray 56)).heap.size) (inV i.h i.n As ns cs i.q none 0 0) [i]) :=
                Lib.hid (Each.one (inV_len hi32.out _ _ _ _ _ _ _ _) ⟨As, ns, cs, none, 0, 0, rfl, (S6.out.weak (Q := fun b => q + 1 ≤ b ∧ some b ≠ Value.ownBlock (.slice A k c) ∧ b < (w5.alloc (.cells (inV i.h i.n As ns cs i.q none 0 0).toArray 56)).heap.size) fun b hb hl => ⟨hb.1, hb.2, by rw [World.size_alloc]; omega⟩).keep (Kept.of_below bl6)⟩)
              have c6 := I6.out.q.cell (k := 1) rfl
              clear bl6 I5 N5 S6 c5
              refine hK _ _ ?_
              clear hK K
              refine wpAny_ready (rs := [5]) (by kernel_rfl) (by simp) ?_
              refine AllReady.cons rfl (fun K hK => ?_) AllReady.nil
              refine step_wp rfl (wp_appRw (v := .slice A k c) elemI inR_mono rfl (.tmp 33) (.tmp 36) rfl rfl N6.out.own rfl (k := [i]) (N := k + 1) rfl (fun _ => ⟨_, _, rfl, RW.out⟩) EL.out (inV_one _ _ _ _ _ _ _ _ _) rfl (by have := hlen.out; omega) (by have := hlen.out; omega) ?_)
              intro A7 c7 w7 hc7 O7 g7 e7
              show K (Act.put _ (some 37) _) _
              have I7 := Lib.hid (I6.out.grown N6.out g7 rl sz2 (Nat.lt_succ_self q))
              have N7 := Lib.hid (N6.out.grown O7 (by have := I6.out.q.lt; omega) e7)
              have c7q := I7.out.q.cell (k := 1) rfl
              have f7q := I7.out.q.free 1
              clear O7 g7 e7 I6 N6 RW EL c6
              refine hK _ _ ?_
              clear hK K
              refine wpAny_ready (rs := [6]) (by kernel_rfl) (by simp) ?_
              refine AllReady.cons rfl (fun K hK => ?_) AllReady.nil
              go_simp
              refine hK _ _ ?_
              clear hK K
              refine wpAny_ready (rs := [7]) (by kernel_rfl) (by simp) ?_
              refine AllReady.cons rfl (fun K hK => ?_) AllReady.nil
              go_simp
              refine hK _ _ ?_
              clear hK K
              refine wpAny_done (by kernel_rfl) ?_ _
              have I8 := Lib.hid (I7.out.set rl sz2 1 (.slice A7 (k + 1) c7))
              have N8 := Lib.hid (N7.out.set (q := q) inR_mono (Nat.lt_succ_self q) (by omega) 1 (.slice A7 (k + 1) c7))
              clear I7 N7 c7q f7q
              go_wp2_with fail
              exact ⟨⟨k + 1, A7, c7, pre ++ [i], Rn, by omega, by go_num, hc7, HX, N8, I8⟩, by simp [intOf]; omega⟩
            · refine step_wp rfl (wp_lit1 elemI (by decide) rfl (.tmp 35) rfl rfl (inV_len hi32.out _ _ _ _ _ _ _ _) ?_)
              show K (Act.put _ (some 36) _) _
              have bl6 := (Below.refl w5.heap.size w5).alloc (Nat.le_refl _) (.cells (inV i.h i.n As ns cs i.q none 0 0).toArray 56)
              have I6 := Lib.hid (I5.out.later bl6)
              have N6 := Lib.hid (N5.out.later inR_mono bl6)
              have RW := Lib.hid (Ro.new w5 56 (inV i.h i.n As ns cs i.q none 0 0)).whole
              have EL : Hid (Each 36 (InR (w5.alloc (.cells (inV i.h i.n As ns cs i.q none 0 0).toArray 56)) fun b => q + 1 ≤ b ∧ some b ≠ Value.ownBlock (.slice A k c) ∧ b < (w5.alloc (.cells (inV i.h i.n As ns cs i.q none 0 0).toArray 56)).heap.size) (inV i.h i.n As ns cs i.q none 0 0) [i]) :=
                Lib.hid (Each.one (inV_len hi32.out _ _ _ _ _ _ _ _) ⟨As, ns, cs, none, 0, 0, rfl, (S6.out.weak (Q := fun b => q + 1 ≤ b ∧ some b ≠ Value.ownBlock (.slice A k c) ∧ b < (w5.alloc (.cells (inV i.h i.n As ns cs i.q none 0 0).toArray 56)).heap.size) fun b hb hl => ⟨hb.1, hb.2, by rw [World.size_alloc]; omega⟩).keep (Kept.of_below bl6)⟩)
              have c6 := I6.out.q.cell (k := 1) rfl
              clear bl6 I5 N5 S6 c5
              refine hK _ _ ?_
              clear hK K
              refine wpAny_ready (rs := [1]) (by kernel_rfl) (by simp) ?_
              refine AllReady.cons rfl (fun K hK => ?_) AllReady.nil
              go_simp
              refine hK _ _ ?_
              clear hK K
              refine wpAny_ready (rs := [5]) (by kernel_rfl) (by simp) ?_
              refine AllReady.cons rfl (fun K hK => ?_) AllReady.nil
              refine step_wp rfl (wp_appRw (v := .slice A k c) elemI inR_mono rfl (.tmp 33) (.tmp 36) rfl rfl N6.out.own rfl (k := [i]) (N := k + 1) rfl (fun _ => ⟨_, _, rfl, RW.out⟩) EL.out (inV_one _ _ _ _ _ _ _ _ _) rfl (by have := hlen.out; omega) (by have := hlen.out; omega) ?_)
              intro A7 c7 w7 hc7 O7 g7 e7
              show K (Act.put _ (some 37) _) _
              have I7 := Lib.hid (I6.out.grown N6.out g7 rl sz2 (Nat.lt_succ_self q))
              have N7 := Lib.hid (N6.out.grown O7 (by have := I6.out.q.lt; omega) e7)
              have c7q := I7.out.q.cell (k := 1) rfl
              have f7q := I7.out.q.free 1
              clear O7 g7 e7 I6 N6 RW EL c6
              refine hK _ _ ?_
              clear hK K
              refine wpAny_ready (rs := [6]) (by kernel_rfl) (by simp) ?_
              refine AllReady.cons rfl (fun K hK => ?_) AllReady.nil
              go_simp
              refine hK _ _ ?_
              clear hK K
              refine wpAny_ready (rs := [7]) (by kernel_rfl) (by simp) ?_
              refine AllReady.cons rfl (fun K hK => ?_) AllReady.nil
              go_simp
              refine hK _ _ ?_
              clear hK K
              refine wpAny_done (by kernel_rfl) ?_ _
              have I8 := Lib.hid (I7.out.set rl sz2 1 (.slice A7 (k + 1) c7))
              have N8 := Lib.hid (N7.out.set (q := q) inR_mono (Nat.lt_succ_self q) (by omega) 1 (.slice A7 (k + 1) c7))
              clear I7 N7 c7q f7q
              go_wp2_with fail
              exact ⟨⟨k + 1, A7, c7, pre ++ [i], Rn, by omega, by go_num, hc7, HX, N8, I8⟩, by simp [intOf]; omega⟩
        · have t1 : decide ((k : Int) < (ni : Int)) = false := decide_eq_false (by omega)
          obtain ⟨is, his⟩ : ∃ is, pre = is := ⟨_, rfl⟩
          have e : k = ni := by omega
          have HT3 : Hid (txP L = txP2 ver mk (pre, Rk)) := Lib.hid (bind_some HT2.out (by rw [e] at HP; exact HP.out))
          have hkl := Lib.hid (listP_some inP_eats k HP.out HB3.out).1
          have hkb := Lib.hid (listP_some inP_eats k HP.out HB3.out).2.1
          rw [his] at HP HN HT3
          have C3 := Lib.hid (count_any HI.out.rd)
          clear e HT2 his HP
          go_wp2_with (go_at_call 72; refine C3.out.mono ?_)
          rintro e w5 (⟨no, r5, h5, rfl, R5, G5⟩ | ⟨h5, rfl, G5⟩)
          case inr => exact ⟨rfl, .inr ⟨bind_none HT3.out h5, rfl, gr_trans HI.out.gr G5⟩⟩
          have HT4 := Lib.hid (bind_some HT3.out h5)
          have hno := (cntP_some h5 HI.out.rd.byt).2.2
          have HB5 := Lib.hid (cntP_some h5 HI.out.rd.byt).2.1
          have hl5 : r5.length ≤ 1073741824 := R5.len
          have I5 := Lib.hid (HI.out.call rl sz2 R5 G5)
          have N5 := Lib.hid (HN.out.far inR_mono G5 (by omega) rlo)
          clear HT3 h5 HI HN R5 G5 C3
          obtain ⟨n5, hn5⟩ : ∃ n5, w5.heap.size = n5 := ⟨_, rfl⟩
          have HN5 := Lib.hid hn5
          have q5 : q < n5 := by rw [← hn5]; exact I5.out.q.lt
          clear hn5
          go_wp2_with fail
          go_loopw [42] (fun i wr => ∃ (k2 : Nat) (A2 : Option Addr) (c2 : Nat) (pre : List OutD) (Rk : List Nat), k2 ≤ no ∧ i = .int .u64 (k2 : Nat) ∧ k2 ≤ c2 ∧ Hid (listP outP k2 r5 = some (pre, Rk)) ∧ Hid (NewRw 46 2 OutR w0 n5 (.slice A2 k2 c2) k2 pre wr) ∧ Hid (TxB w0 w r q Rk (txV ver A k c A2 k2 c2 0) wr) ∧ Hid (Kept (fun b => q + 1 ≤ b) w5 wr)) (fun i _ => no - (intOf i).toNat)
          case atStart => exact ⟨0, none, 0, [], r5, by omega, rfl, Nat.le_refl _, Lib.hid rfl, Lib.hid (NewRw.none_ I5.out.rd.bel (by omega)), I5, Lib.hid ⟨Nat.le_refl _, fun _ _ _ => rfl⟩⟩
          case round =>
            clear I5
            obtain ⟨k2, A2, c2, pre, Rk2, hk2, rfl, hc2, HP, HN, HI, HK⟩ := hrel
            by_cases hlt : k2 < no
            · have t1 : decide ((k2 : Int) < (no : Int)) = true := decide_eq_true (by omega)
              go_wp2_with fail
              refine wp_region_any (by kernel_rfl) ?_
              change wpAny _ _ _ _ _ _ _ (World.drew _)
              have bd : Below wr.heap.size wr wr.drew := (Below.refl _ _).drew
              have ID := Lib.hid (HI.out.later bd)
              have ND := Lib.hid (HN.out.later outR_mono bd)
              clear bd HI HN
              obtain ⟨wd, hwd⟩ : ∃ wd, wr.drew = wd := ⟨_, rfl⟩
              rw [hwd] at ID ND ⊢
              have cd := ID.out.q.cell (k := 2) rfl
              have KD := Lib.hid (kept_below HK.out (show Below wr.heap.size wr wd by rw [← hwd]; exact (Below.refl _ _).drew))
              clear HK
              refine wpAny_take (i := 0) (v := ?_) rfl (by kernel_rfl) (by kernel_rfl) (by kernel_rfl) (fun _ _ _ h => h) (Or.inl ⟨by rfl, ?_⟩) ?_
              rotate_left
              · intro w
                go_simp
                with_reducible rfl
              refine wpAny_take (i := 2) (v := ?_) rfl (by kernel_rfl) (by kernel_rfl) (by kernel_rfl) (fun _ _ _ h => h) (Or.inl ⟨by rfl, ?_⟩) ?_
              rotate_left
              · intro w
                go_simp
                with_reducible rfl
              refine wpAny_take (i := 4) (v := ?_) rfl (by kernel_rfl) (by kernel_rfl) (by kernel_rfl) (fun _ _ _ h => h) (Or.inl ⟨by rfl, ?_⟩) ?_
              rotate_left
              · intro w
                go_simp
                with_reducible rfl
              refine wpAny_ready (rs := [1, 3]) (by kernel_rfl) (by simp) ?_
              refine AllReady.cons rfl (fun K hK => ?_) (AllReady.cons rfl (fun K hK => ?_) AllReady.nil)
              · go_simp
                refine hK _ _ ?_
                clear hK K
                refine wpAny_ready (rs := [3]) (by kernel_rfl) (by simp) ?_
                refine AllReady.cons rfl (fun K hK => ?_) AllReady.nil
                go_simp
                with_reducible refine (number8_any ID.out.rd).mono ?_
                rintro e w6 (⟨v, Ra, h6, rfl, R6, G6⟩ | ⟨h6, rfl, G6⟩)
                case inr => exact ⟨rfl, .inr ⟨bind_none HT4.out (listP_stop HP.out (outP_not1 h6) hlt), rfl, gr_trans ID.out.gr G6⟩⟩
                have v64 : v < 18446744073709551616 := (numP_some h6 ID.out.rd.byt).2.2
                have I6 := Lib.hid (ID.out.call rl sz2 R6 G6)
                have N6 := Lib.hid (ND.out.far outR_mono G6 (by omega) rlo)
                have K6 := Lib.hid (kept_gr KD.out G6 (by omega))
                have H6 := Lib.hid h6
                have c6 := I6.out.q.cell (k := 2) rfl
                clear R6 G6 h6 ID ND KD cd
                refine hK _ _ ?_
                clear hK K
                refine wpAny_ready (rs := [5]) (by kernel_rfl) (by simp) ?_
                refine AllReady.cons rfl (fun K hK => ?_) AllReady.nil
                go_simp
                with_reducible refine (item_any I6.out.rd).mono ?_
                rintro e w7 (⟨y, Rn, h7, As, ns, cs, rfl, hc7, hn7, B7, R7, G7⟩ | ⟨h7, rfl, G7⟩)
                case inr => exact ⟨rfl, .inr ⟨bind_none HT4.out (listP_stop HP.out (outP_not2 H6.out h7) hlt), rfl, gr_trans I6.out.gr G7⟩⟩
                have hnext := listP_next HP.out (outP_of H6.out h7)
                have hlen := Lib.hid (listP_some outP_eats (k2 + 1) hnext HB5.out).1
                have hok : OutD.Ok ⟨v, y⟩ := (listP_some outP_eats (k2 + 1) hnext HB5.out).2.2.2 _ (by simp)
                have HX := Lib.hid hnext
                have gs7 : n5 ≤ w6.heap.size := by rw [← HN5.out]; exact K6.out.size
                have S7 : Hid (OutSl w7 (fun b => n5 ≤ b ∧ some b ≠ Value.ownBlock (.slice A2 k2 c2)) ⟨v, y⟩ As ns cs) := Lib.hid ⟨hok, hc7, by omega, B7.weak fun b hb _ => ⟨by omega, fun e => by have := (N6.out.own.new b e.symm).2; omega⟩⟩
                have I7 := Lib.hid (I6.out.call rl sz2 R7 G7)
                have N7 := Lib.hid (N6.out.far outR_mono G7 (by omega) rlo)
                have K7 := Lib.hid (kept_gr K6.out G7 (by omega))
                have c7 := I7.out.q.cell (k := 2) rfl
                have hbo := buildOut v As ns cs
                clear hnext B7 R7 G7 h7 H6 I6 N6 K6 c6 hok
                refine hK _ _ ?_
                clear hK K
                refine wpAny_ready (rs := [6]) (by kernel_rfl) (by simp) ?_
                refine AllReady.cons rfl (fun K hK => ?_) AllReady.nil
                go_simp
                refine hK _ _ ?_
                clear hK K
                refine wpAny_ready (rs := [7]) (by kernel_rfl) (by simp) ?_
                refine AllReady.cons rfl (fun K hK => ?_) AllReady.nil
                refine step_wp rfl (wp_lit1 elemO (by decide) rfl (.tmp 50) rfl (V := outV v As ns cs) rfl rfl ?_)
                show K (Act.put _ (some 51) _) _
                have bl8 := (Below.refl w7.heap.size w7).alloc (Nat.le_refl _) (.cells (outV v As ns cs).toArray 46)
                have I8 := Lib.hid (I7.out.later bl8)
                have N8 := Lib.hid (N7.out.later outR_mono bl8)
                have K8 := Lib.hid (kept_below K7.out bl8)
                have RW := Lib.hid (Ro.new w7 46 (outV v As ns cs)).whole
                have EL : Hid (Each 2 (OutR (w7.alloc (.cells (outV v As ns cs).toArray 46)) fun b => n5 ≤ b ∧ some b ≠ Value.ownBlock (.slice A2 k2 c2) ∧ b < (w7.alloc (.cells (outV v As ns cs).toArray 46)).heap.size) (outV v As ns cs) [⟨v, y⟩]) :=
                  Lib.hid (Each.one rfl ⟨As, ns, cs, rfl, (S7.out.weak (Q := fun b => n5 ≤ b ∧ some b ≠ Value.ownBlock (.slice A2 k2 c2) ∧ b < (w7.alloc (.cells (outV v As ns cs).toArray 46)).heap.size) fun b hb hl => ⟨hb.1, hb.2, by rw [World.size_alloc]; omega⟩).keep (Kept.of_below bl8)⟩)
                have c8 := I8.out.q.cell (k := 2) rfl
                clear bl8 I7 N7 K7 S7 c7 hbo
                refine hK _ _ ?_
                clear hK K
                refine wpAny_ready (rs := [8]) (by kernel_rfl) (by simp) ?_
                refine AllReady.cons rfl (fun K hK => ?_) AllReady.nil
                refine step_wp rfl (wp_appRw (v := .slice A2 k2 c2) elemO outR_mono rfl (.tmp 45) (.tmp 51) rfl rfl N8.out.own rfl (k := [⟨v, y⟩]) (N := k2 + 1) rfl (fun _ => ⟨_, _, rfl, RW.out⟩) EL.out (outV_one _ _ _ _) rfl (by have := hlen.out; omega) (by have := hlen.out; omega) ?_)
                intro A9 c9 w9 hc9 O9 g9 e9
                show K (Act.put _ (some 52) _) _
                have I9 := Lib.hid (I8.out.grown N8.out g9 rl sz2 q5)
                have N9 := Lib.hid (N8.out.grown O9 (by rw [← HN5.out]; exact K8.out.size) e9)
                have K9 := Lib.hid (kept_row K8.out N8.out g9 HN5.out.symm)
                have c9q := I9.out.q.cell (k := 2) rfl
                have f9q := I9.out.q.free 2
                clear O9 g9 e9 I8 N8 K8 RW EL c8
                refine hK _ _ ?_
                clear hK K
                refine wpAny_ready (rs := [9]) (by kernel_rfl) (by simp) ?_
                refine AllReady.cons rfl (fun K hK => ?_) AllReady.nil
                go_simp
                refine hK _ _ ?_
                clear hK K
                refine wpAny_ready (rs := [10]) (by kernel_rfl) (by simp) ?_
                refine AllReady.cons rfl (fun K hK => ?_) AllReady.nil
                go_simp
                refine hK _ _ ?_
                clear hK K
                refine wpAny_done (by kernel_rfl) ?_ _
                have I10 := Lib.hid (I9.out.set rl sz2 2 (.slice A9 (k2 + 1) c9))
                have N10 := Lib.hid (N9.out.set (q := q) outR_mono q5 (by omega) 2 (.slice A9 (k2 + 1) c9))
                have K10 : Hid (Kept (fun b => q + 1 ≤ b) w5 (w9.setCell ⟨q, 2, none⟩ (.slice A9 (k2 + 1) c9))) := Lib.hid (kept_gr K9.out (gr_set w9 q 2 _) (Nat.lt_succ_self q))
                clear I9 N9 K9 c9q f9q
                go_wp2_with fail
                exact ⟨⟨k2 + 1, A9, c9, pre ++ [⟨v, y⟩], Rn, by omega, by go_num, hc9, HX, N10, I10, K10⟩, by simp [intOf]; omega⟩
              · go_simp
                with_reducible refine (number8_any ID.out.rd).mono ?_
                rintro e w6 (⟨v, Ra, h6, rfl, R6, G6⟩ | ⟨h6, rfl, G6⟩)
                case inr => exact ⟨rfl, .inr ⟨bind_none HT4.out (listP_stop HP.out (outP_not1 h6) hlt), rfl, gr_trans ID.out.gr G6⟩⟩
                have v64 : v < 18446744073709551616 := (numP_some h6 ID.out.rd.byt).2.2
                have I6 := Lib.hid (ID.out.call rl sz2 R6 G6)
                have N6 := Lib.hid (ND.out.far outR_mono G6 (by omega) rlo)
                have K6 := Lib.hid (kept_gr KD.out G6 (by omega))
                have H6 := Lib.hid h6
                have c6 := I6.out.q.cell (k := 2) rfl
                clear R6 G6 h6 ID ND KD cd
                refine hK _ _ ?_
                clear hK K
                refine wpAny_ready (rs := [1, 5]) (by kernel_rfl) (by simp) ?_
                refine AllReady.cons rfl (fun K hK => ?_) (AllReady.cons rfl (fun K hK => ?_) AllReady.nil)
                · go_simp
                  refine hK _ _ ?_
                  clear hK K
                  refine wpAny_ready (rs := [5]) (by kernel_rfl) (by simp) ?_
                  refine AllReady.cons rfl (fun K hK => ?_) AllReady.nil
                  go_simp
                  with_reducible refine (item_any I6.out.rd).mono ?_
                  rintro e w7 (⟨y, Rn, h7, As, ns, cs, rfl, hc7, hn7, B7, R7, G7⟩ | ⟨h7, rfl, G7⟩)
                  case inr => exact ⟨rfl, .inr ⟨bind_none HT4.out (listP_stop HP.out (outP_not2 H6.out h7) hlt), rfl, gr_trans I6.out.gr G7⟩⟩
                  have hnext := listP_next HP.out (outP_of H6.out h7)
                  have hlen := Lib.hid (listP_some outP_eats (k2 + 1) hnext HB5.out).1
                  have hok : OutD.Ok ⟨v, y⟩ := (listP_some outP_eats (k2 + 1) hnext HB5.out).2.2.2 _ (by simp)
                  have HX := Lib.hid hnext
                  have gs7 : n5 ≤ w6.heap.size := by rw [← HN5.out]; exact K6.out.size
                  have S7 : Hid (OutSl w7 (fun b => n5 ≤ b ∧ some b ≠ Value.ownBlock (.slice A2 k2 c2)) ⟨v, y⟩ As ns cs) := Lib.hid ⟨hok, hc7, by omega, B7.weak fun b hb _ => ⟨by omega, fun e => by have := (N6.out.own.new b e.symm).2; omega⟩⟩
                  have I7 := Lib.hid (I6.out.call rl sz2 R7 G7)
                  have N7 := Lib.hid (N6.out.far outR_mono G7 (by omega) rlo)
                  have K7 := Lib.hid (kept_gr K6.out G7 (by omega))
                  have c7 := I7.out.q.cell (k := 2) rfl
                  have hbo := buildOut v As ns cs
                  clear hnext B7 R7 G7 h7 H6 I6 N6 K6 c6 hok
                  refine hK _ _ ?_
                  clear hK K
                  refine wpAny_ready (rs := [6]) (by kernel_rfl) (by simp) ?_
                  refine AllReady.cons rfl (fun K hK => ?_) AllReady.nil
                  go_simp
                  refine hK _ _ ?_
                  clear hK K
                  refine wpAny_ready (rs := [7]) (by kernel_rfl) (by simp) ?_
                  refine AllReady.cons rfl (fun K hK => ?_) AllReady.nil
                  refine step_wp rfl (wp_lit1 elemO (by decide) rfl (.tmp 50) rfl (V := outV v As ns cs) rfl rfl ?_)
                  show K (Act.put _ (some 51) _) _
                  have bl8 := (Below.refl w7.heap.size w7).alloc (Nat.le_refl _) (.cells (outV v As ns cs).toArray 46)
                  have I8 := Lib.hid (I7.out.later bl8)
                  have N8 := Lib.hid (N7.out.later outR_mono bl8)
                  have K8 := Lib.hid (kept_below K7.out bl8)
                  have RW := Lib.hid (Ro.new w7 46 (outV v As ns cs)).whole
                  have EL : Hid (Each 2 (OutR (w7.alloc (.cells (outV v As ns cs).toArray 46)) fun b => n5 ≤ b ∧ some b ≠ Value.ownBlock (.slice A2 k2 c2) ∧ b < (w7.alloc (.cells (outV v As ns cs).toArray 46)).heap.size) (outV v As ns cs) [⟨v, y⟩]) :=
                    Lib.hid (Each.one rfl ⟨As, ns, cs, rfl, (S7.out.weak (Q := fun b => n5 ≤ b ∧ some b ≠ Value.ownBlock (.slice A2 k2 c2) ∧ b < (w7.alloc (.cells (outV v As ns cs).toArray 46)).heap.size) fun b hb hl => ⟨hb.1, hb.2, by rw [World.size_alloc]; omega⟩).keep (Kept.of_below bl8)⟩)
                  have c8 := I8.out.q.cell (k := 2) rfl
                  clear bl8 I7 N7 K7 S7 c7 hbo
                  refine hK _ _ ?_
                  clear hK K
                  refine wpAny_ready (rs := [8]) (by kernel_rfl) (by simp) ?_
                  refine AllReady.cons rfl (fun K hK => ?_) AllReady.nil
                  refine step_wp rfl (wp_appRw (v := .slice A2 k2 c2) elemO outR_mono rfl (.tmp 45) (.tmp 51) rfl rfl N8.out.own rfl (k := [⟨v, y⟩]) (N := k2 + 1) rfl (fun _ => ⟨_, _, rfl, RW.out⟩) EL.out (outV_one _ _ _ _) rfl (by have := hlen.out; omega) (by have := hlen.out; omega) ?_)
                  intro A9 c9 w9 hc9 O9 g9 e9
                  show K (Act.put _ (some 52) _) _
                  have I9 := Lib.hid (I8.out.grown N8.out g9 rl sz2 q5)
                  have N9 := Lib.hid (N8.out.grown O9 (by rw [← HN5.out]; exact K8.out.size) e9)
                  have K9 := Lib.hid (kept_row K8.out N8.out g9 HN5.out.symm)
                  have c9q := I9.out.q.cell (k := 2) rfl
                  have f9q := I9.out.q.free 2
                  clear O9 g9 e9 I8 N8 K8 RW EL c8
                  refine hK _ _ ?_
                  clear hK K
                  refine wpAny_ready (rs := [9]) (by kernel_rfl) (by simp) ?_
                  refine AllReady.cons rfl (fun K hK => ?_) AllReady.nil
                  go_simp
                  refine hK _ _ ?_
                  clear hK K
                  refine wpAny_ready (rs := [10]) (by kernel_rfl) (by simp) ?_
                  refine AllReady.cons rfl (fun K hK => ?_) AllReady.nil
                  go_simp
                  refine hK _ _ ?_
                  clear hK K
                  refine wpAny_done (by kernel_rfl) ?_ _
                  have I10 := Lib.hid (I9.out.set rl sz2 2 (.slice A9 (k2 + 1) c9))
                  have N10 := Lib.hid (N9.out.set (q := q) outR_mono q5 (by omega) 2 (.slice A9 (k2 + 1) c9))
                  have K10 : Hid (Kept (fun b => q + 1 ≤ b) w5 (w9.setCell ⟨q, 2, none⟩ (.slice A9 (k2 + 1) c9))) := Lib.hid (kept_gr K9.out (gr_set w9 q 2 _) (Nat.lt_succ_self q))
                  clear I9 N9 K9 c9q f9q
                  go_wp2_with fail
                  exact ⟨⟨k2 + 1, A9, c9, pre ++ [⟨v, y⟩], Rn, by omega, by go_num, hc9, HX, N10, I10, K10⟩, by simp [intOf]; omega⟩
                · go_simp
                  with_reducible refine (item_any I6.out.rd).mono ?_
                  rintro e w7 (⟨y, Rn, h7, As, ns, cs, rfl, hc7, hn7, B7, R7, G7⟩ | ⟨h7, rfl, G7⟩)
                  case inr => exact ⟨rfl, .inr ⟨bind_none HT4.out (listP_stop HP.out (outP_not2 H6.out h7) hlt), rfl, gr_trans I6.out.gr G7⟩⟩
                  have hnext := listP_next HP.out (outP_of H6.out h7)
                  have hlen := Lib.hid (listP_some outP_eats (k2 + 1) hnext HB5.out).1
                  have hok : OutD.Ok ⟨v, y⟩ := (listP_some outP_eats (k2 + 1) hnext HB5.out).2.2.2 _ (by simp)
                  have HX := Lib.hid hnext
                  have gs7 : n5 ≤ w6.heap.size := by rw [← HN5.out]; exact K6.out.size
                  have S7 : Hid (OutSl w7 (fun b => n5 ≤ b ∧ some b ≠ Value.ownBlock (.slice A2 k2 c2)) ⟨v, y⟩ As ns cs) := Lib.hid ⟨hok, hc7, by omega, B7.weak fun b hb _ => ⟨by omega, fun e => by have := (N6.out.own.new b e.symm).2; omega⟩⟩
                  have I7 := Lib.hid (I6.out.call rl sz2 R7 G7)
                  have N7 := Lib.hid (N6.out.far outR_mono G7 (by omega) rlo)
                  have K7 := Lib.hid (kept_gr K6.out G7 (by omega))
                  have c7 := I7.out.q.cell (k := 2) rfl
                  have hbo := buildOut v As ns cs
                  clear hnext B7 R7 G7 h7 H6 I6 N6 K6 c6 hok
                  refine hK _ _ ?_
                  clear hK K
                  refine wpAny_ready (rs := [1, 6]) (by kernel_rfl) (by simp) ?_
                  refine AllReady.cons rfl (fun K hK => ?_) (AllReady.cons rfl (fun K hK => ?_) AllReady.nil)
                  · go_simp
                    refine hK _ _ ?_
                    clear hK K
                    refine wpAny_ready (rs := [6]) (by kernel_rfl) (by simp) ?_
                    refine AllReady.cons rfl (fun K hK => ?_) AllReady.nil
                    go_simp
                    refine hK _ _ ?_
                    clear hK K
                    refine wpAny_ready (rs := [7]) (by kernel_rfl) (by simp) ?_
                    refine AllReady.cons rfl (fun K hK => ?_) AllReady.nil
                    refine step_wp rfl (wp_lit1 elemO (by decide) rfl (.tmp 50) rfl (V := outV v As ns cs) rfl rfl ?_)
                    show K (Act.put _ (some 51) _) _
                    have bl8 := (Below.refl w7.heap.size w7).alloc (Nat.le_refl _) (.cells (outV v As ns cs).toArray 46)
                    have I8 := Lib.hid (I7.out.later bl8)
                    have N8 := Lib.hid (N7.out.later outR_mono bl8)
                    have K8 := Lib.hid (kept_below K7.out bl8)
                    have RW := Lib.hid (Ro.new w7 46 (outV v As ns cs)).whole
                    have EL : Hid (Each 2 (OutR (w7.alloc (.cells (outV v As ns cs).toArray 46)) fun b => n5 ≤ b ∧ some b ≠ Value.ownBlock (.slice A2 k2 c2) ∧ b < (w7.alloc (.cells (outV v As ns cs).toArray 46)).heap.size) (outV v As ns cs) [⟨v, y⟩]) :=
                      Lib.hid (Each.one rfl ⟨As, ns, cs, rfl, (S7.out.weak (Q := fun b => n5 ≤ b ∧ some b ≠ Value.ownBlock (.slice A2 k2 c2) ∧ b < (w7.alloc (.cells (outV v As ns cs).toArray 46)).heap.size) fun b hb hl => ⟨hb.1, hb.2, by rw [World.size_alloc]; omega⟩).keep (Kept.of_below bl8)⟩)
                    have c8 := I8.out.q.cell (k := 2) rfl
                    clear bl8 I7 N7 K7 S7 c7 hbo
                    refine hK _ _ ?_
                    clear hK K
                    refine wpAny_ready (rs := [8]) (by kernel_rfl) (by simp) ?_
                    refine AllReady.cons rfl (fun K hK => ?_) AllReady.nil
                    refine step_wp rfl (wp_appRw (v := .slice A2 k2 c2) elemO outR_mono rfl (.tmp 45) (.tmp 51) rfl rfl N8.out.own rfl (k := [⟨v, y⟩]) (N := k2 + 1) rfl (fun _ => ⟨_, _, rfl, RW.out⟩) EL.out (outV_one _ _ _ _) rfl (by have := hlen.out; omega) (by have := hlen.out; omega) ?_)
                    intro A9 c9 w9 hc9 O9 g9 e9
                    show K (Act.put _ (some 52) _) _
                    have I9 := Lib.hid (I8.out.grown N8.out g9 rl sz2 q5)
                    have N9 := Lib.hid (N8.out.grown O9 (by rw [← HN5.out]; exact K8.out.size) e9)
                    have K9 := Lib.hid (kept_row K8.out N8.out g9 HN5.out.symm)
                    have c9q := I9.out.q.cell (k := 2) rfl
                    have f9q := I9.out.q.free 2
                    clear O9 g9 e9 I8 N8 K8 RW EL c8
                    refine hK _ _ ?_
                    clear hK K
                    refine wpAny_ready (rs := [9]) (by kernel_rfl) (by simp) ?_
                    refine AllReady.cons rfl (fun K hK => ?_) AllReady.nil
                    go_simp
                    refine hK _ _ ?_
                    clear hK K
                    refine wpAny_ready (rs := [10]) (by kernel_rfl) (by simp) ?_
                    refine AllReady.cons rfl (fun K hK => ?_) AllReady.nil
                    go_simp
                    refine hK _ _ ?_
                    clear hK K
                    refine wpAny_done (by kernel_rfl) ?_ _
                    have I10 := Lib.hid (I9.out.set rl sz2 2 (.slice A9 (k2 + 1) c9))
                    have N10 := Lib.hid (N9.out.set (q := q) outR_mono q5 (by omega) 2 (.slice A9 (k2 + 1) c9))
                    have K10 : Hid (Kept (fun b => q + 1 ≤ b) w5 (w9.setCell ⟨q, 2, none⟩ (.slice A9 (k2 + 1) c9))) := Lib.hid (kept_gr K9.out (gr_set w9 q 2 _) (Nat.lt_succ_self q))
                    clear I9 N9 K9 c9q f9q
                    go_wp2_with fail
                    exact ⟨⟨k2 + 1, A9, c9, pre ++ [⟨v, y⟩], Rn, by omega, by go_num, hc9, HX, N10, I10, K10⟩, by simp [intOf]; omega⟩
                  · go_simp
                    refine hK _ _ ?_
                    clear hK K
                    refine wpAny_ready (rs := [1, 7]) (by kernel_rfl) (by simp) ?_
                    refine AllReady.cons rfl (fun K hK => ?_) (AllReady.cons rfl (fun K hK => ?_) AllReady.nil)
                    · go_simp
                      refine hK _ _ ?_
                      clear hK K
                      refine wpAny_ready (rs := [7]) (by kernel_rfl) (by simp) ?_
                      refine AllReady.cons rfl (fun K hK => ?_) AllReady.nil
                      refine step_wp rfl (wp_lit1 elemO (by decide) rfl (.tmp 50) rfl (V := outV v As ns cs) rfl rfl ?_)
                      show K (Act.put _ (some 51) _) _
                      have bl8 := (Below.refl w7.heap.size w7).alloc (Nat.le_refl _) (.cells (outV v As ns cs).toArray 46)
                      have I8 := Lib.hid (I7.out.later bl8)
                      have N8 := Lib.hid (N7.out.later outR_mono bl8)
                      have K8 := Lib.hid (kept_below K7.out bl8)
                      have RW := Lib.hid (Ro.new w7 46 (outV v As ns cs)).whole
                      have EL : Hid (Each 2 (OutR (w7.alloc (.cells (outV v As ns cs).toArray 46)) fun b => n5 ≤ b ∧ some b ≠ Value.ownBlock (.slice A2 k2 c2) ∧ b < (w7.alloc (.cells (outV v As ns cs).toArray 46)).heap.size) (outV v As ns cs) [⟨v, y⟩]) :=
                        Lib.hid (Each.one rfl ⟨As, ns, cs, rfl, (S7.out.weak (Q := fun b => n5 ≤ b ∧ some b ≠ Value.ownBlock (.slice A2 k2 c2) ∧ b < (w7.alloc (.cells (outV v As ns cs).toArray 46)).heap.size) fun b hb hl => ⟨hb.1, hb.2, by rw [World.size_alloc]; omega⟩).keep (Kept.of_below bl8)⟩)
                      have c8 := I8.out.q.cell (k := 2) rfl
                      clear bl8 I7 N7 K7 S7 c7 hbo
                      refine hK _ _ ?_
                      clear hK K
                      refine wpAny_ready (rs := [8]) (by kernel_rfl) (by simp) ?_
                      refine AllReady.cons rfl (fun K hK => ?_) AllReady.nil
                      refine step_wp rfl (wp_appRw (v := .slice A2 k2 c2) elemO outR_mono rfl (.tmp 45) (.tmp 51) rfl rfl N8.out.own rfl (k := [⟨v, y⟩]) (N := k2 + 1) rfl (fun _ => ⟨_, _, rfl, RW.out⟩) EL.out (outV_one _ _ _ _) rfl (by have := hlen.out; omega) (by have := hlen.out; omega) ?_)
                      intro A9 c9 w9 hc9 O9 g9 e9
                      show K (Act.put _ (some 52) _) _
                      have I9 := Lib.hid (I8.out.grown N8.out g9 rl sz2 q5)
                      have N9 := Lib.hid (N8.out.grown O9 (by rw [← HN5.out]; exact K8.out.size) e9)
                      have K9 := Lib.hid (kept_row K8.out N8.out g9 HN5.out.symm)
                      have c9q := I9.out.q.cell (k := 2) rfl
                      have f9q := I9.out.q.free 2
                      clear O9 g9 e9 I8 N8 K8 RW EL c8
                      refine hK _ _ ?_
                      clear hK K
                      refine wpAny_ready (rs := [9]) (by kernel_rfl) (by simp) ?_
                      refine AllReady.cons rfl (fun K hK => ?_) AllReady.nil
                      go_simp
                      refine hK _ _ ?_
                      clear hK K
                      refine wpAny_ready (rs := [10]) (by kernel_rfl) (by simp) ?_
                      refine AllReady.cons rfl (fun K hK => ?_) AllReady.nil
                      go_simp
                      refine hK _ _ ?_
                      clear hK K
                      refine wpAny_done (by kernel_rfl) ?_ _
                      have I10 := Lib.hid (I9.out.set rl sz2 2 (.slice A9 (k2 + 1) c9))
                      have N10 := Lib.hid (N9.out.set (q := q) outR_mono q5 (by omega) 2 (.slice A9 (k2 + 1) c9))
                      have K10 : Hid (Kept (fun b => q + 1 ≤ b) w5 (w9.setCell ⟨q, 2, none⟩ (.slice A9 (k2 + 1) c9))) := Lib.hid (kept_gr K9.out (gr_set w9 q 2 _) (Nat.lt_succ_self q))
                      clear I9 N9 K9 c9q f9q
                      go_wp2_with fail
                      exact ⟨⟨k2 + 1, A9, c9, pre ++ [⟨v, y⟩], Rn, by omega, by go_num, hc9, HX, N10, I10, K10⟩, by simp [intOf]; omega⟩
                    · refine step_wp rfl (wp_lit1 elemO (by decide) rfl (.tmp 50) rfl (V := outV v As ns cs) rfl rfl ?_)
                      show K (Act.put _ (some 51) _) _
                      have bl8 := (Below.refl w7.heap.size w7).alloc (Nat.le_refl _) (.cells (outV v As ns cs).toArray 46)
                      have I8 := Lib.hid (I7.out.later bl8)
                      have N8 := Lib.hid (N7.out.later outR_mono bl8)
                      have K8 := Lib.hid (kept_below K7.out bl8)
                      have RW := Lib.hid (Ro.new w7 46 (outV v As ns cs)).whole
                      have EL : Hid (Each 2 (OutR (w7.alloc (.cells (outV v As ns cs).toArray 46)) fun b => n5 ≤ b ∧ some b ≠ Value.ownBlock (.slice A2 k2 c2) ∧ b < (w7.alloc (.cells (outV v As ns cs).toArray 46)).heap.size) (outV v As ns cs) [⟨v, y⟩]) :=
                        Lib.hid (Each.one rfl ⟨As, ns, cs, rfl, (S7.out.weak (Q := fun b => n5 ≤ b ∧ some b ≠ Value.ownBlock (.slice A2 k2 c2) ∧ b < (w7.alloc (.cells (outV v As ns cs).toArray 46)).heap.size) fun b hb hl => ⟨hb.1, hb.2, by rw [World.size_alloc]; omega⟩).keep (Kept.of_below bl8)⟩)
                      have c8 := I8.out.q.cell (k := 2) rfl
                      clear bl8 I7 N7 K7 S7 c7 hbo
                      refine hK _ _ ?_
                      clear hK K
                      refine wpAny_ready (rs := [1]) (by kernel_rfl) (by simp) ?_
                      refine AllReady.cons rfl (fun K hK => ?_) AllReady.nil
                      go_simp
                      refine hK _ _ ?_
                      clear hK K
                      refine wpAny_ready (rs := [8]) (by kernel_rfl) (by simp) ?_
                      refine AllReady.cons rfl (fun K hK => ?_) AllReady.nil
                      refine step_wp rfl (wp_appRw (v := .slice A2 k2 c2) elemO outR_mono rfl (.tmp 45) (.tmp 51) rfl rfl N8.out.own rfl (k := [⟨v, y⟩]) (N := k2 + 1) rfl (fun _ => ⟨_, _, rfl, RW.out⟩) EL.out (outV_one _ _ _ _) rfl (by have := hlen.out; omega) (by have := hlen.out; omega) ?_)
                      intro A9 c9 w9 hc9 O9 g9 e9
                      show K (Act.put _ (some 52) _) _
                      have I9 := Lib.hid (I8.out.grown N8.out g9 rl sz2 q5)
                      have N9 := Lib.hid (N8.out.grown O9 (by rw [← HN5.out]; exact K8.out.size) e9)
                      have K9 := Lib.hid (kept_row K8.out N8.out g9 HN5.out.symm)
                      have c9q := I9.out.q.cell (k := 2) rfl
                      have f9q := I9.out.q.free 2
                      clear O9 g9 e9 I8 N8 K8 RW EL c8
                      refine hK _ _ ?_
                      clear hK K
                      refine wpAny_ready (rs := [9]) (by kernel_rfl) (by simp) ?_
                      refine AllReady.cons rfl (fun K hK => ?_) AllReady.nil
                      go_simp
                      refine hK _ _ ?_
                      clear hK K
                      refine wpAny_ready (rs := [10]) (by kernel_rfl) (by simp) ?_
                      refine AllReady.cons rfl (fun K hK => ?_) AllReady.nil
                      go_simp
                      refine hK _ _ ?_
                      clear hK K
                      refine wpAny_done (by kernel_rfl) ?_ _
                      have I10 := Lib.hid (I9.out.set rl sz2 2 (.slice A9 (k2 + 1) c9))
                      have N10 := Lib.hid (N9.out.set (q := q) outR_mono q5 (by omega) 2 (.slice A9 (k2 + 1) c9))
                      have K10 : Hid (Kept (fun b => q + 1 ≤ b) w5 (w9.setCell ⟨q, 2, none⟩ (.slice A9 (k2 + 1) c9))) := Lib.hid (kept_gr K9.out (gr_set w9 q 2 _) (Nat.lt_succ_self q))
                      clear I9 N9 K9 c9q f9q
                      go_wp2_with fail
                      exact ⟨⟨k2 + 1, A9, c9, pre ++ [⟨v, y⟩], Rn, by omega, by go_num, hc9, HX, N10, I10, K10⟩, by simp [intOf]; omega⟩
            · have t1 : decide ((k2 : Int) < (no : Int)) = false := decide_eq_false (by omega)
              obtain ⟨os, hos⟩ : ∃ os, pre = os := ⟨_, rfl⟩
              have e : k2 = no := by omega
              have HT5 : Hid (txP L = txP4 ver mk is (pre, Rk2)) := Lib.hid (bind_some HT4.out (by rw [e] at HP; exact HP.out))
              have hkl2 := Lib.hid (listP_some outP_eats k2 HP.out HB5.out).1
              have hkb2 := Lib.hid (listP_some outP_eats k2 HP.out HB5.out).2.1
              rw [hos] at HP HN HT5
              clear e HT4 hos HP
              have isl := Lib.hid N5.out.own.len
              have J1 := Lib.hid ((InRow.of N5.out HN5.out).keep HK.out)
              have O1 := Lib.hid (HN.out.rows outR_mono)
              obtain ⟨w6, hw6⟩ : ∃ w6, w6 = wr := ⟨_, rfl⟩
              subst hw6
              clear N5 HN HK
              go_upto_if 55 with fail
              go_cut [] from 55 to 69 (fun wx => ∃ is' R7, witsP mk is Rk2 = some (is', R7) ∧ TxB w0 w r q R7 (txV ver A k c A2 k2 c2 0) wx ∧ Rows wx (fun b => q + 1 ≤ b) 36 InR A k is' ∧ Rows wx (fun b => q + 1 ≤ b) 2 OutR A2 k2 os)
              case first =>
                cases mk with
                | false =>
                  go_wp2_with fail
                  go_meet
                  exact ⟨is, Rk2, rfl, HI.out, J1.out.rows, O1.out.weak outR_mono fun b hb _ => by omega⟩
                | true =>
                  have c1 := HI.out.q.cell (k := 1) rfl
                  have kb : k ≤ 1073741824 := by have := hkl.out; omega
                  go_wp2_with fail
                  go_loopw [59] (fun i wr => ∃ (j : Nat) (ws : List (List (List Nat))) (Rj : List Nat), j ≤ k ∧ i = .int .i64 (j : Nat) ∧ Hid (ws.length = j) ∧ Hid (listP witP j Rk2 = some (ws, Rj)) ∧ Hid (InRow wr (q + 1) n5 A k (witTo is ws)) ∧ Hid (TxB w0 w r q Rj (txV ver A k c A2 k2 c2 0) wr) ∧ Hid (Kept (fun b => n5 ≤ b) w6 wr)) (fun i _ => k - (intOf i).toNat)
                  case atStart => exact ⟨0, [], Rk2, by omega, rfl, Lib.hid rfl, Lib.hid rfl, by rw [witTo_nil]; exact J1, HI, Lib.hid ⟨Nat.le_refl _, fun _ _ _ => rfl⟩⟩
                  case round =>
                    clear HI c1 J1
                    obtain ⟨j, ws, Rj, hj, rfl, HW, HP, HJ, HI, HK⟩ := hrel
                    by_cases hlt : j < k
                    · have t1 : decide ((j : Int) < (k : Int)) = true := decide_eq_true (by omega)
                      go_wp2_with fail
                      obtain ⟨i, hi⟩ : ∃ i, is[j]? = some i := ⟨_, List.getElem?_eq_getElem (by rw [isl.out]; exact hlt)⟩
                      have hi2 : is[ws.length]? = some i := by rw [HW.out]; exact hi
                      have hat := Lib.hid (witTo_at hi2)
                      have hnx := Lib.hid (fun y => witTo_next y hi2)
                      rw [HW.out] at hat hnx
                      obtain ⟨g, hA, hg1, hg2, _⟩ := HJ.out.slot hat.out
                      subst hA
                      clear hi hi2
                      refine wp_region_any (by kernel_rfl) ?_
                      change wpAny _ _ _ _ _ _ _ (World.drew _)
                      have bd : Below wr.heap.size wr wr.drew := (Below.refl _ _).drew
                      have ID := Lib.hid (HI.out.later bd)
                      have JD := Lib.hid (HJ.out.keep (Kept.of_below bd))
                      have KD := Lib.hid (kept_below HK.out bd)
                      clear bd HI HJ HK
                      obtain ⟨wd, hwd⟩ : ∃ wd, wr.drew = wd := ⟨_, rfl⟩
                      rw [hwd] at ID JD KD ⊢
                      have cd := ID.out.q.cell (k := 1) rfl
                      refine wpAny_take (i := 0) (v := ?_) rfl (by kernel_rfl) (by kernel_rfl) (by kernel_rfl) (fun _ _ _ h => h) (Or.inl ⟨by rfl, ?_⟩) ?_
                      rotate_left
                      · intro w
                        go_simp
                        with_reducible rfl
                      refine wpAny_take (i := 2) (v := ?_) rfl (by kernel_rfl) (by kernel_rfl) (by kernel_rfl) (fun _ _ _ h => h) (Or.inl ⟨by rfl, ?_⟩) ?_
                      rotate_left
                      · intro w
                        go_simp
                        with_reducible rfl
                      refine wpAny_take (i := 3) (v := ?_) rfl (by kernel_rfl) (by kernel_rfl) (by kernel_rfl) (fun _ _ _ h => h) (Or.inl ⟨by rfl, ?_⟩) ?_
                      rotate_left
                      · intro w
                        go_simp
                        with_reducible rfl
                      refine wpAny_ready (rs := [1, 4]) (by kernel_rfl) (by simp) ?_
                      refine AllReady.cons rfl (fun K hK => ?_) (AllReady.cons rfl (fun K hK => ?_) AllReady.nil)
                      · go_simp
                        refine hK _ _ ?_
                        clear hK K
                        refine wpAny_ready (rs := [4]) (by kernel_rfl) (by simp) ?_
                        refine AllReady.cons rfl (fun K hK => ?_) AllReady.nil
                        go_simp
                        with_reducible refine (witness_any ID.out.rd).mono ?_
                        rintro e w8 (⟨y, Rn, h8, B, m, d, rfl, hmd, hm8, W8, R8, G8⟩ | ⟨h8, rfl, G8⟩)
                        case inr => exact ⟨rfl, .inr ⟨HT5.out.trans (wits_none (listP_stop HP.out h8 hlt) isl.out), rfl, gr_trans ID.out.gr G8⟩⟩
                        have HX := Lib.hid (listP_next HP.out h8)
                        have HY := Lib.hid (witP_eats _ _ _ h8 ID.out.rd.byt).2.2
                        have gs8 : g < wd.heap.size := by obtain ⟨_, e, _, _, h, _⟩ := JD.out.slot hat.out; injection e with e; injection e with e; rw [e]; exact h
                        have I8 := Lib.hid (ID.out.call rl sz2 R8 G8)
                        have J8 := Lib.hid (JD.out.keep (kept_off G8 (show r < q + 1 by omega)))
                        have K8 := Lib.hid (kept_gr KD.out G8 (by omega))
                        have Y8 := Lib.hid (W8.weak bsR_mono (Q := fun b => q + 1 ≤ b ∧ b ≠ g) fun b hb _ => ⟨by omega, by omega⟩)
                        have c8 := I8.out.q.cell (k := 1) rfl
                        clear ID JD KD cd W8 R8 G8 h8
                        refine hK _ _ ?_
                        clear hK K
                        obtain ⟨g', hA', _, _, _, ⟨u, hu⟩, hf, hput⟩ := J8.out.slot hat.out
                        injection hA' with hA'
                        injection hA' with hA'
                        subst hA'
                        have PUT := Lib.hid (hput (B := B) (m := m) (d := d) (y := y) J8.out hmd (by omega) HY.out Y8.out)
                        rw [← (hnx.out y)] at PUT
                        have fu := hf (j * 36 + 35)
                        clear hput hf J8 Y8 HY
                        refine wpAny_ready (rs := [5]) (by kernel_rfl) (by simp) ?_
                        refine AllReady.cons rfl (fun K hK => ?_) AllReady.nil
                        go_simp
                        refine hK _ _ ?_
                        clear hK K
                        refine wpAny_ready (rs := [6]) (by kernel_rfl) (by simp) ?_
                        refine AllReady.cons rfl (fun K hK => ?_) AllReady.nil
                        go_simp
                        refine hK _ _ ?_
                        clear hK K
                        refine wpAny_ready (rs := [7]) (by kernel_rfl) (by simp) ?_
                        refine AllReady.cons rfl (fun K hK => ?_) AllReady.nil
                        go_simp
                        refine hK _ _ ?_
                        clear hK K
                        refine wpAny_done (by kernel_rfl) ?_ _
                        have I9 := Lib.hid (I8.out.side rl sz2 (g := g) (by omega) (j * 36 + 35) (.slice B m d))
                        have K9 := Lib.hid (K8.out.trans (kept_off (gr_set w8 g (j * 36 + 35) (.slice B m d)) hg2))
                        clear I8 K8 c8 hu fu
                        go_wp2_with fail
                        exact ⟨⟨j + 1, ws ++ [y], Rn, by omega, by go_num, Lib.hid (by rw [List.length_append, HW.out]; rfl), HX, PUT, I9, K9⟩, by simp [intOf]; omega⟩
                      · go_simp
                        with_reducible refine (witness_any ID.out.rd).mono ?_
                        rintro e w8 (⟨y, Rn, h8, B, m, d, rfl, hmd, hm8, W8, R8, G8⟩ | ⟨h8, rfl, G8⟩)
                        case inr => exact ⟨rfl, .inr ⟨HT5.out.trans (wits_none (listP_stop HP.out h8 hlt) isl.out), rfl, gr_trans ID.out.gr G8⟩⟩
                        have HX := Lib.hid (listP_next HP.out h8)
                        have HY := Lib.hid (witP_eats _ _ _ h8 ID.out.rd.byt).2.2
                        have gs8 : g < wd.heap.size := by obtain ⟨_, e, _, _, h, _⟩ := JD.out.slot hat.out; injection e with e; injection e with e; rw [e]; exact h
                        have I8 := Lib.hid (ID.out.call rl sz2 R8 G8)
                        have J8 := Lib.hid (JD.out.keep (kept_off G8 (show r < q + 1 by omega)))
                        have K8 := Lib.hid (kept_gr KD.out G8 (by omega))
                        have Y8 := Lib.hid (W8.weak bsR_mono (Q := fun b => q + 1 ≤ b ∧ b ≠ g) fun b hb _ => ⟨by omega, by omega⟩)
                        have c8 := I8.out.q.cell (k := 1) rfl
                        clear ID JD KD cd W8 R8 G8 h8
                        refine hK _ _ ?_
                        clear hK K
                        refine wpAny_ready (rs := [1]) (by kernel_rfl) (by simp) ?_
                        refine AllReady.cons rfl (fun K hK => ?_) AllReady.nil
                        go_simp
                        refine hK _ _ ?_
                        clear hK K
                        obtain ⟨g', hA', _, _, _, ⟨u, hu⟩, hf, hput⟩ := J8.out.slot hat.out
                        injection hA' with hA'
                        injection hA' with hA'
                        subst hA'
                        have PUT := Lib.hid (hput (B := B) (m := m) (d := d) (y := y) J8.out hmd (by omega) HY.out Y8.out)
                        rw [← (hnx.out y)] at PUT
                        have fu := hf (j * 36 + 35)
                        clear hput hf J8 Y8 HY
                        refine wpAny_ready (rs := [5]) (by kernel_rfl) (by simp) ?_
                        refine AllReady.cons rfl (fun K hK => ?_) AllReady.nil
                        go_simp
                        refine hK _ _ ?_
                        clear hK K
                        refine wpAny_ready (rs := [6]) (by kernel_rfl) (by simp) ?_
                        refine AllReady.cons rfl (fun K hK => ?_) AllReady.nil
                        go_simp
                        refine hK _ _ ?_
                        clear hK K
                        refine wpAny_ready (rs := [7]) (by kernel_rfl) (by simp) ?_
                        refine AllReady.cons rfl (fun K hK => ?_) AllReady.nil
                        go_simp
                        refine hK _ _ ?_
                        clear hK K
                        refine wpAny_done (by kernel_rfl) ?_ _
                        have I9 := Lib.hid (I8.out.side rl sz2 (g := g) (by omega) (j * 36 + 35) (.slice B m d))
                        have K9 := Lib.hid (K8.out.trans (kept_off (gr_set w8 g (j * 36 + 35) (.slice B m d)) hg2))
                        clear I8 K8 c8 hu fu
                        go_wp2_with fail
                        exact ⟨⟨j + 1, ws ++ [y], Rn, by omega, by go_num, Lib.hid (by rw [List.length_append, HW.out]; rfl), HX, PUT, I9, K9⟩, by simp [intOf]; omega⟩
                    · have t1 : decide ((j : Int) < (k : Int)) = false := decide_eq_false (by omega)
                      have e : j = k := by omega
                      have HWS := Lib.hid (wits_some (is := is) (by rw [e] at HP; exact HP.out) isl.out)
                      have HWA := Lib.hid (witTo_all is (ws := ws) (by rw [HW.out, isl.out, e]))
                      clear e
                      go_wp2_with fail
                      go_meet
                      exact ⟨_, Rj, HWS.out, HI.out, by rw [← HWA.out]; exact HJ.out.rows, (O1.out.keep outR_mono HK.out).weak outR_mono fun b hb _ => by omega⟩
              case rest =>
                obtain ⟨is', R7, hw7, HI7, J7, O7⟩ := hcut
                have HT6 := Lib.hid (bind_some HT5.out hw7)
                have J := Lib.hid J7
                have O := Lib.hid O7
                have I7 := Lib.hid HI7
                have C4 := Lib.hid (number4_any HI7.rd)
                have kb : k ≤ 1073741824 := by have := hkl.out; omega
                have kb2 : k2 ≤ 1073741824 := by have := hkl2.out; omega
                clear hw7 HI7 J7 O7 HT5 HI J1 O1
                go_wp2_with (go_at_call 70; refine C4.out.mono ?_)
                rintro e w9 (⟨lock, R8, h9, rfl, R9, G9⟩ | ⟨h9, rfl, G9⟩)
                case inr => exact ⟨rfl, .inr ⟨HT6.out.trans (txP5_not h9), rfl, gr_trans I7.out.gr G9⟩⟩
                have l32 : lock < 4294967296 := (numP_some h9 I7.out.rd.byt).2.2
                have W2 : IntKind.u32.wrap (lock : Int) = (lock : Int) := by rw [IntKind.wrap_u32]; omega
                have HT7 := Lib.hid (HT6.out.trans (txP5_of h9))
                have I9 := Lib.hid (I7.out.call rl sz2 R9 G9)
                have K9 := Lib.hid (kept_off G9 (show r < q + 1 by omega))
                have c3 := I9.out.q.cell (k := 3) rfl
                have f3 := I9.out.q.free 3
                have I10 := Lib.hid (I9.out.set rl sz2 3 (.int .u32 (lock : Int)))
                have K10 := Lib.hid (K9.out.trans (kept_off (gr_set w9 q 3 (.int .u32 (lock : Int))) (Nat.lt_succ_self q)))
                clear R9 G9 h9 C4 HT6 I7 K9
                go_wp2_with (first | (refine wpList_load_part rfl (.tmp 3) rfl rfl rowTx I10.out.q.whole rfl ?_) | (refine wpList_store_ro rfl (.tmp 2) (.tmp 74) rfl rfl rfl rowTx I10.out.p rfl rfl (txV_one _ _ _ _ _ _ _ _) ?_))
                intro w11 R11 g11
                have hs11 := I10.out.gr.size
                have bl11 := (Below.refl w.heap.size _).grown g11 hs11 (fun q e => by injection e; omega)
                have K11 := K10.out.trans (kept_off g11 (show w.heap.size < q + 1 by omega))
                go_wp2_with fail
                refine bodyPost_ret (results_ro Tryd.results58 _ rfl rowTx R11 rfl) rfl (.inl ⟨_, R8, HT7.out, A, k, c, A2, k2, c2, rfl, ⟨v32, l32, hc, by omega, (J.out.keep inR_mono K11).weak inR_mono fun b hb _ => by omega, hc2, by omega, (O.out.keep outR_mono K11).weak outR_mono fun b hb _ => by omega⟩, I10.out.rd.below bl11 rl, gr_new I10.out.gr bl11 (Nat.le_refl _)⟩)
end Go.Proofs.YtbdjcbdnhaddoaaDoor
