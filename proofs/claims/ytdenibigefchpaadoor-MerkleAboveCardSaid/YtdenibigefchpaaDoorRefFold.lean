/- The reference's Fold where the number goes with the branch. No condition. -/
import Derived.Test.YtdenibigefchpaaDoorFoldE
namespace Go.Proofs.YtdenibigefchpaaDoor
open Go.RowKit

theorem rangeOf {w : World} {b : Nat} {T : TypeId} {vs : List Value} (R : Ro w b T vs) : w.rangeAt b 0 vs := fun j v hj => by rw [Nat.zero_add]; exact R.cell hj
structure FoB (w : World) (id : List Nat) (br : List (List Nat)) (k0 : Nat) (j q : Nat) (x : List Nat) (wr : World) : Prop where
  eq : fold joinS x (br.drop j) q = fold joinS id br k0
  id : Ro wr (w.heap.size + 1 + 1) 24 (vals x)
  ok : x.length = 32 ∧ AllB x
  res : Ro wr (w.heap.size + 1) 24 (vals z32)
  bel : Below w.heap.size w wr
theorem FoB.later {w : World} {id x : List Nat} {br : List (List Nat)} {k0 j q : Nat} {wr w1 : World} (h : FoB w id br k0 j q x wr) (g : Below wr.heap.size wr w1) : FoB w id br k0 j q x w1 :=
  ⟨h.eq, h.id.later g, h.ok, h.res.later g, h.bel.trans (g.mono h.bel.size)⟩

set_option maxRecDepth 100000 in
set_option maxHeartbeats 4000000 in
theorem refFold_any {A : Option Addr} {n c k : Nat} {x : List Nat} {l : List (List Nat)} (w : World) (ox : x.length = 32 ∧ AllB x) (hn : n ≤ 32) (hk2 : k ≤ 9223372036854775807) (hsh : ((k : Int) / 2 ^ n) = 0) (hL : Gs w A n l) :
    Calls Tryd.prog 20 #[.agg (vals x).toArray, .slice A n c, .int .i64 (k : Nat)] w fun e w' => e = .returned (.tuple #[.agg (vals (foldV (fold joinS x l k))).toArray, .int .i64 (foldE (fold joinS x l k) : Nat)]) ∧ Below w.heap.size w w' := by
  have z1 := (Below.refl w.heap.size w).alloc (Nat.le_refl _) (.cells (vals x).toArray 24)
  have HB := Lib.hid (z1.alloc z1.size (.cells (vals z32).toArray 24))
  have r2 := Ro.new (w.alloc (.cells (vals x).toArray 24)) 24 (vals z32)
  rw [World.size_alloc] at r2
  have RX := Lib.hid ((Ro.new w 24 (vals x)).alloc (.cells (vals z32).toArray 24))
  have RZ := Lib.hid r2
  have r3 := Ro.new ((w.alloc (.cells (vals x).toArray 24)).alloc (.cells (vals z32).toArray 24)) 24 (vals z32)
  rw [World.size_alloc, World.size_alloc] at r3
  have RN := Lib.hid r3
  have HL := Lib.hid hL
  have HN := Lib.hid hL.len
  have HO := Lib.hid ox
  have lz := Lib.hid (show (vals z32).length = 32 by rw [vals_length]; exact z32_ok.1)
  have lx := Lib.hid (show (vals x).length = 32 by rw [vals_length]; exact ox.1)
  obtain ⟨R, hR⟩ : ∃ R, fold joinS x l k = R := ⟨_, rfl⟩
  rw [hR]
  have HR := Lib.hid hR
  have t1 : decide ((32 : Int) < (n : Int)) = false := decide_eq_false (by omega)
  have t2 : decide ((k : Int) < 0) = false := decide_eq_false (by omega)
  clear z1 r2 r3 hL hR ox
  go_enter Tryd.func20, Tryd.ntmps20
  go_wp2_with (first | (refine wpList_load_ro rfl (.tmp 3) rfl rfl row26 RX.out lx.out ?_) | (refine wpList_store_ro rfl (.tmp 8) (.tmp 25) rfl rfl rfl row26 RN.out lz.out lx.out (vals_one _) ?_))
  intro w4 R4 g4
  have b4 := box_store (wa := (w.alloc (.cells (vals x).toArray 24)).alloc (.cells (vals z32).toArray 24)) (by rw [World.size_alloc, World.size_alloc]; exact g4)
  have F0 : Hid (FoB w x l k 0 k x w4) := Lib.hid ⟨rfl, R4, HO.out, RZ.out.later b4, HB.out.trans (b4.mono HB.out.size)⟩
  clear R4 g4 b4 RX RZ RN HB
  go_wp2_with fail
  go_loopw [2, 9] (fun kv iv wr => ∃ (j q : Nat) (y : List Nat), kv = .int .i64 (q : Nat) ∧ iv = .int .i64 (j : Nat) ∧ j ≤ n ∧ q ≤ 9223372036854775807 ∧ FoB w x l k j q y wr) (fun _ iv _ => n - (intOf iv).toNat)
  case atStart => exact ⟨0, k, x, rfl, rfl, Nat.zero_le _, hk2, F0.out⟩
  case round =>
    clear F0 t2 hsh
    obtain ⟨j, q, y, rfl, rfl, hj, hq, F⟩ := hrel
    have HF := Lib.hid F
    clear F
    by_cases hlt : j < n
    · have bd : Below wr.heap.size wr wr.drew := (Below.refl _ _).drew
      have BD := Lib.hid (HF.out.bel.trans (bd.mono HF.out.bel.size))
      have HG := Lib.hid (HL.out.later BD.out)
      obtain ⟨b, o, rfl, hb, _⟩ := HG.out.cel (by omega)
      have ad := add_at b o
      have R0 := (HG.out.at_ hlt).2
      have ok := nt_ok HG.out.ok (k := j) (by rw [HN.out]; exact hlt)
      have dr : l.drop j = nt l j :: l.drop (j + 1) := by rw [List.drop_eq_getElem_cons (by rw [HN.out]; exact hlt), nt_get]
      have fe := HF.out.eq
      rw [dr] at fe
      obtain ⟨h, hh⟩ : ∃ h, nt l j = h := ⟨_, rfl⟩
      rw [hh] at R0 ok fe
      obtain ⟨r, hr⟩ : ∃ r, q / 2 = r := ⟨_, rfl⟩
      have HRR := Lib.hid hr
      have FE := Lib.hid fe
      have RE := Lib.hid R0
      have RB := Lib.hid (HF.out.id.later bd)
      have RS := Lib.hid (HF.out.res.later bd)
      have L0w : Hid (b < wr.heap.size) := Lib.hid hb
      have ll := Lib.hid (show (vals h).length = 32 by rw [vals_length]; exact ok.1)
      have ly := Lib.hid (show (vals y).length = 32 by rw [vals_length]; exact HF.out.ok.1)
      have OK := Lib.hid ok
      have d1 : (q : Int) / 2 = (r : Int) := by omega
      have R0w : Hid (wr.rangeAt b (o + j * 32) (vals h)) := Lib.hid (fun i v hv => R0 i v hv)
      clear R0 ok dr fe hh hr hb bd
      by_cases he : q % 2 = 0
      · have FN : Hid (fold joinS (joinS y h) (l.drop (j + 1)) r = fold joinS x l k) := Lib.hid (by rw [← FE.out, fold, if_pos he, HRR.out])
        have e1 : (((q : Int) % 2) == 0) = true := by rw [beq_iff_eq]; omega
        have CJ := Lib.hid (refJoin_any HF.out.ok OK.out wr.drew)
        have HJ := Lib.hid (joinS_ok y h)
        obtain ⟨I, hI⟩ : ∃ I, joinS y h = I := ⟨_, rfl⟩
        rw [hI] at FN CJ HJ
        have li := Lib.hid (show (vals I).length = 32 by rw [vals_length]; exact HJ.out.1)
        clear hI
        go_wp2_with fail
        refine wp_region_any (by kernel_rfl) ?_
        change wpAny _ _ _ _ _ _ _ (World.drew _)
        refine wpAny_take (i := 1) (v := ?_) rfl (by kernel_rfl) (by kernel_rfl) (by kernel_rfl) (fun _ _ _ h => h) (Or.inl ⟨by rfl, ?_⟩) ?_
        rotate_left
        · intro w
          go_simp
          with_reducible rfl
        show wpAny _ _ _ _ _ _ (Act.put _ (some 36) _) _
        simp only [Act.put, List.setIfInBounds_toArray, List.set_cons_succ, List.set_cons_zero]
        refine wpAny_take (i := 2) (v := ?_) rfl (by kernel_rfl) (by kernel_rfl) (by kernel_rfl) (fun _ _ _ h => h) (Or.inl ⟨by rfl, ?_⟩) ?_
        rotate_left
        · intro w
          go_simp
          with_reducible rfl
        show wpAny _ _ _ _ _ _ (Act.put _ (some 37) _) _
        simp only [Act.put, List.setIfInBounds_toArray, List.set_cons_succ, List.set_cons_zero]
        refine wpAny_take (i := 3) (v := ?_) rfl (by kernel_rfl) (by kernel_rfl) (by kernel_rfl) (fun _ _ _ h => h) (Or.inl ⟨by rfl, ?_⟩) ?_
        rotate_left
        · intro w
          go_simp
          with_reducible rfl
        show wpAny _ _ _ _ _ _ (Act.put _ (some 38) _) _
        simp only [Act.put, List.setIfInBounds_toArray, List.set_cons_succ, List.set_cons_zero]
        refine wpAny_ready (rs := [0, 4]) (by kernel_rfl) (by simp) ?_
        refine AllReady.cons rfl (fun K hK => ?_) (AllReady.cons rfl (fun K hK => ?_) AllReady.nil)
        · skip
          refine step_wp rfl (wp_load_part (d := some 35) rfl (.tmp 8) rfl rfl row26 (rangeOf RB.out) ly.out ?_)
          refine hK _ _ ?_
          clear hK K
          try simp only [Act.put, List.setIfInBounds_toArray, List.set_cons_succ, List.set_cons_zero]
          refine wpAny_ready (rs := [4]) (by kernel_rfl) (by simp) ?_
          refine AllReady.cons rfl (fun K hK => ?_) AllReady.nil
          refine step_wp rfl (wp_load_part (d := some 39) rfl (.tmp 38) rfl rfl row26 RE.out ll.out ?_)
          refine hK _ _ ?_
          clear hK K
          try simp only [Act.put, List.setIfInBounds_toArray, List.set_cons_succ, List.set_cons_zero]
          refine wpAny_ready (rs := [5]) (by kernel_rfl) (by simp) ?_
          refine AllReady.cons rfl (fun K hK => ?_) AllReady.nil
          go_simp
          with_reducible refine CJ.out.mono ?_
          rintro e w8 ⟨rfl, hb8⟩
          have RB8 := Lib.hid (RB.out.later hb8)
          have RS8 := Lib.hid (RS.out.later hb8)
          have B8 := Lib.hid (BD.out.trans (hb8.mono BD.out.size))
          clear hb8
          go_simp
          refine hK _ _ ?_
          clear hK K
          try simp only [Act.put, List.setIfInBounds_toArray, List.set_cons_succ, List.set_cons_zero]
          refine wpAny_ready (rs := [6]) (by kernel_rfl) (by simp) ?_
          refine AllReady.cons rfl (fun K hK => ?_) AllReady.nil
          refine step_wp rfl (wp_store_ro (.tmp 8) (.tmp 40) rfl rfl rfl row26 RB8.out ly.out li.out (vals_one _) ?_)
          intro w9 R9 g9
          show K (Act.put _ none _) _
          have F9 : Hid (FoB w x l k (j + 1) r I w9) := Lib.hid ⟨FN.out, R9, HJ.out, RS8.out.far g9 (fun e => by injection e; omega), B8.out.grown g9 B8.out.size (fun q e => by injection e; omega)⟩
          clear R9 g9
          refine hK _ _ ?_
          clear hK K
          try simp only [Act.put, List.setIfInBounds_toArray, List.set_cons_succ, List.set_cons_zero]
          refine wpAny_done (by kernel_rfl) ?_ _
          go_wp2_with fail
          exact ⟨⟨j + 1, r, I, by go_num, by go_num, by omega, by have := HRR.out; omega, F9.out⟩, by simp [intOf]; omega⟩
        · skip
          refine step_wp rfl (wp_load_part (d := some 39) rfl (.tmp 38) rfl rfl row26 RE.out ll.out ?_)
          refine hK _ _ ?_
          clear hK K
          try simp only [Act.put, List.setIfInBounds_toArray, List.set_cons_succ, List.set_cons_zero]
          refine wpAny_ready (rs := [0]) (by kernel_rfl) (by simp) ?_
          refine AllReady.cons rfl (fun K hK => ?_) AllReady.nil
          refine step_wp rfl (wp_load_part (d := some 35) rfl (.tmp 8) rfl rfl row26 (rangeOf RB.out) ly.out ?_)
          refine hK _ _ ?_
          clear hK K
          try simp only [Act.put, List.setIfInBounds_toArray, List.set_cons_succ, List.set_cons_zero]
          refine wpAny_ready (rs := [5]) (by kernel_rfl) (by simp) ?_
          refine AllReady.cons rfl (fun K hK => ?_) AllReady.nil
          go_simp
          with_reducible refine CJ.out.mono ?_
          rintro e w8 ⟨rfl, hb8⟩
          have RB8 := Lib.hid (RB.out.later hb8)
          have RS8 := Lib.hid (RS.out.later hb8)
          have B8 := Lib.hid (BD.out.trans (hb8.mono BD.out.size))
          clear hb8
          go_simp
          refine hK _ _ ?_
          clear hK K
          try simp only [Act.put, List.setIfInBounds_toArray, List.set_cons_succ, List.set_cons_zero]
          refine wpAny_ready (rs := [6]) (by kernel_rfl) (by simp) ?_
          refine AllReady.cons rfl (fun K hK => ?_) AllReady.nil
          refine step_wp rfl (wp_store_ro (.tmp 8) (.tmp 40) rfl rfl rfl row26 RB8.out ly.out li.out (vals_one _) ?_)
          intro w9 R9 g9
          show K (Act.put _ none _) _
          have F9 : Hid (FoB w x l k (j + 1) r I w9) := Lib.hid ⟨FN.out, R9, HJ.out, RS8.out.far g9 (fun e => by injection e; omega), B8.out.grown g9 B8.out.size (fun q e => by injection e; omega)⟩
          clear R9 g9
          refine hK _ _ ?_
          clear hK K
          try simp only [Act.put, List.setIfInBounds_toArray, List.set_cons_succ, List.set_cons_zero]
          refine wpAny_done (by kernel_rfl) ?_ _
          go_wp2_with fail
          exact ⟨⟨j + 1, r, I, by go_num, by go_num, by omega, by have := HRR.out; omega, F9.out⟩, by simp [intOf]; omega⟩
      · have e1 : (((q : Int) % 2) == 0) = false := by rw [beq_eq_false_iff_ne]; omega
        have EQ := fun w => eq_hash HF.out.ok.1 OK.out.1 w
        by_cases hyh : y = h
        · have FN : Hid (fold joinS x l k = none) := Lib.hid (by rw [← FE.out, fold, if_neg he, if_pos hyh])
          rw [eqB_yes hyh] at EQ
          have e3 : R = none := HR.out.symm.trans FN.out
          have HE3 := Lib.hid e3
          clear e3 hyh FN
          go_wp2_with fail
          refine wp_region_after (by kernel_rfl) (by kernel_rfl) ?_
          go_big_quiet_want
          refine quiet_load_part (.tmp 8) rfl rfl row26 (fun w9 h9 => by obtain ⟨u, rfl⟩ := h9; exact range_later (rangeOf HF.out.id) HF.out.id.lt u.below) ly.out ?_
          simp only [Act.put, List.setIfInBounds_toArray, List.set_cons_succ, List.set_cons_zero]
          go_big_quiet_on
          repeat (go_big_quiet_step (fail))
          go_big_quiet_want
          refine quiet_load_part (.tmp 44) rfl rfl row26 (fun w9 h9 => by obtain ⟨u, rfl⟩ := h9; exact range_later R0w.out L0w.out u.below) ll.out ?_
          simp only [Act.put, List.setIfInBounds_toArray, List.set_cons_succ, List.set_cons_zero]
          go_big_quiet_on
          repeat (go_big_quiet_step (fail))
          refine wpQuiet_nil ?_
          rintro wz ⟨u, hu⟩
          have bz : Below wr.heap.size wr wz := by rw [hu]; exact u.below
          have FZ := Lib.hid (HF.out.later bz)
          clear hu u
          go_wp2_with (refine wpList_store_ro (vs := vals z32) rfl (.tmp 6) (.tmp 47) rfl rfl rfl row26 FZ.out.res lz.out lz.out (vals_one _) ?_)
          intro w7 R7 g7
          go_wp2_with fail
          exact bodyPost_ret (results_ro2 Tryd.results20 _ rfl row26 R7 lz.out rfl) rfl ⟨by rw [HE3.out]; rfl, FZ.out.bel.grown g7 FZ.out.bel.size (fun q e => by injection e; omega)⟩
        · have FN : Hid (fold joinS (joinS h y) (l.drop (j + 1)) r = fold joinS x l k) := Lib.hid (by rw [← FE.out, fold, if_neg he, if_neg hyh, HRR.out])
          rw [eqB_no hyh] at EQ
          clear hyh
          go_wp2_with fail
          refine wp_region_after (by kernel_rfl) (by kernel_rfl) ?_
          go_big_quiet_want
          refine quiet_load_part (.tmp 8) rfl rfl row26 (fun w9 h9 => by obtain ⟨u, rfl⟩ := h9; exact range_later (rangeOf HF.out.id) HF.out.id.lt u.below) ly.out ?_
          simp only [Act.put, List.setIfInBounds_toArray, List.set_cons_succ, List.set_cons_zero]
          go_big_quiet_on
          repeat (go_big_quiet_step (fail))
          go_big_quiet_want
          refine quiet_load_part (.tmp 44) rfl rfl row26 (fun w9 h9 => by obtain ⟨u, rfl⟩ := h9; exact range_later R0w.out L0w.out u.below) ll.out ?_
          simp only [Act.put, List.setIfInBounds_toArray, List.set_cons_succ, List.set_cons_zero]
          go_big_quiet_on
          repeat (go_big_quiet_step (fail))
          refine wpQuiet_nil ?_
          rintro wz ⟨u, hu⟩
          have bz : Below wr.heap.size wr wz := by rw [hu]; exact u.below
          have FZ := Lib.hid (HF.out.later bz)
          clear hu u
          have REz := Lib.hid (range_later R0w.out L0w.out bz)
          have L0z : Hid (b < wz.heap.size) := Lib.hid (Nat.lt_of_lt_of_le L0w.out bz.size)
          clear RE RB RS BD
          have bd : Below wz.heap.size wz wz.drew := (Below.refl _ _).drew
          have BD := Lib.hid (FZ.out.bel.trans (bd.mono FZ.out.bel.size))
          have RE := Lib.hid (range_later REz.out L0z.out bd)
          have RB := Lib.hid (FZ.out.id.later bd)
          have RS := Lib.hid (FZ.out.res.later bd)
          have CJ := Lib.hid (refJoin_any OK.out HF.out.ok wz.drew)
          have HJ := Lib.hid (joinS_ok h y)
          obtain ⟨I, hI⟩ : ∃ I, joinS h y = I := ⟨_, rfl⟩
          rw [hI] at FN CJ HJ
          have li := Lib.hid (show (vals I).length = 32 by rw [vals_length]; exact HJ.out.1)
          clear hI bd bz
          go_wp2_with fail
          refine wp_region_any (by kernel_rfl) ?_
          change wpAny _ _ _ _ _ _ _ (World.drew _)
          refine wpAny_take (i := 0) (v := ?_) rfl (by kernel_rfl) (by kernel_rfl) (by kernel_rfl) (fun _ _ _ h => h) (Or.inl ⟨by rfl, ?_⟩) ?_
          rotate_left
          · intro w
            go_simp
            with_reducible rfl
          show wpAny _ _ _ _ _ _ (Act.put _ (some 48) _) _
          simp only [Act.put, List.setIfInBounds_toArray, List.set_cons_succ, List.set_cons_zero]
          refine wpAny_take (i := 1) (v := ?_) rfl (by kernel_rfl) (by kernel_rfl) (by kernel_rfl) (fun _ _ _ h => h) (Or.inl ⟨by rfl, ?_⟩) ?_
          rotate_left
          · intro w
            go_simp
            with_reducible rfl
          show wpAny _ _ _ _ _ _ (Act.put _ (some 49) _) _
          simp only [Act.put, List.setIfInBounds_toArray, List.set_cons_succ, List.set_cons_zero]
          refine wpAny_take (i := 2) (v := ?_) rfl (by kernel_rfl) (by kernel_rfl) (by kernel_rfl) (fun _ _ _ h => h) (Or.inl ⟨by rfl, ?_⟩) ?_
          rotate_left
          · intro w
            go_simp
            with_reducible rfl
          show wpAny _ _ _ _ _ _ (Act.put _ (some 50) _) _
          simp only [Act.put, List.setIfInBounds_toArray, List.set_cons_succ, List.set_cons_zero]
          refine wpAny_ready (rs := [3, 4]) (by kernel_rfl) (by simp) ?_
          refine AllReady.cons rfl (fun K hK => ?_) (AllReady.cons rfl (fun K hK => ?_) AllReady.nil)
          · skip
            refine step_wp rfl (wp_load_part (d := some 51) rfl (.tmp 50) rfl rfl row26 RE.out ll.out ?_)
            refine hK _ _ ?_
            clear hK K
            try simp only [Act.put, List.setIfInBounds_toArray, List.set_cons_succ, List.set_cons_zero]
            refine wpAny_ready (rs := [4]) (by kernel_rfl) (by simp) ?_
            refine AllReady.cons rfl (fun K hK => ?_) AllReady.nil
            refine step_wp rfl (wp_load_part (d := some 52) rfl (.tmp 8) rfl rfl row26 (rangeOf RB.out) ly.out ?_)
            refine hK _ _ ?_
            clear hK K
            try simp only [Act.put, List.setIfInBounds_toArray, List.set_cons_succ, List.set_cons_zero]
            refine wpAny_ready (rs := [5]) (by kernel_rfl) (by simp) ?_
            refine AllReady.cons rfl (fun K hK => ?_) AllReady.nil
            go_simp
            with_reducible refine CJ.out.mono ?_
            rintro e w8 ⟨rfl, hb8⟩
            have RB8 := Lib.hid (RB.out.later hb8)
            have RS8 := Lib.hid (RS.out.later hb8)
            have B8 := Lib.hid (BD.out.trans (hb8.mono BD.out.size))
            clear hb8
            go_simp
            refine hK _ _ ?_
            clear hK K
            try simp only [Act.put, List.setIfInBounds_toArray, List.set_cons_succ, List.set_cons_zero]
            refine wpAny_ready (rs := [6]) (by kernel_rfl) (by simp) ?_
            refine AllReady.cons rfl (fun K hK => ?_) AllReady.nil
            refine step_wp rfl (wp_store_ro (.tmp 8) (.tmp 53) rfl rfl rfl row26 RB8.out ly.out li.out (vals_one _) ?_)
            intro w9 R9 g9
            show K (Act.put _ none _) _
            have F9 : Hid (FoB w x l k (j + 1) r I w9) := Lib.hid ⟨FN.out, R9, HJ.out, RS8.out.far g9 (fun e => by injection e; omega), B8.out.grown g9 B8.out.size (fun q e => by injection e; omega)⟩
            clear R9 g9
            refine hK _ _ ?_
            clear hK K
            try simp only [Act.put, List.setIfInBounds_toArray, List.set_cons_succ, List.set_cons_zero]
            refine wpAny_done (by kernel_rfl) ?_ _
            go_wp2_with fail
            exact ⟨⟨j + 1, r, I, by go_num, by go_num, by omega, by have := HRR.out; omega, F9.out⟩, by simp [intOf]; omega⟩
          · skip
            refine step_wp rfl (wp_load_part (d := some 52) rfl (.tmp 8) rfl rfl row26 (rangeOf RB.out) ly.out ?_)
            refine hK _ _ ?_
            clear hK K
            try simp only [Act.put, List.setIfInBounds_toArray, List.set_cons_succ, List.set_cons_zero]
            refine wpAny_ready (rs := [3]) (by kernel_rfl) (by simp) ?_
            refine AllReady.cons rfl (fun K hK => ?_) AllReady.nil
            refine step_wp rfl (wp_load_part (d := some 51) rfl (.tmp 50) rfl rfl row26 RE.out ll.out ?_)
            refine hK _ _ ?_
            clear hK K
            try simp only [Act.put, List.setIfInBounds_toArray, List.set_cons_succ, List.set_cons_zero]
            refine wpAny_ready (rs := [5]) (by kernel_rfl) (by simp) ?_
            refine AllReady.cons rfl (fun K hK => ?_) AllReady.nil
            go_simp
            with_reducible refine CJ.out.mono ?_
            rintro e w8 ⟨rfl, hb8⟩
            have RB8 := Lib.hid (RB.out.later hb8)
            have RS8 := Lib.hid (RS.out.later hb8)
            have B8 := Lib.hid (BD.out.trans (hb8.mono BD.out.size))
            clear hb8
            go_simp
            refine hK _ _ ?_
            clear hK K
            try simp only [Act.put, List.setIfInBounds_toArray, List.set_cons_succ, List.set_cons_zero]
            refine wpAny_ready (rs := [6]) (by kernel_rfl) (by simp) ?_
            refine AllReady.cons rfl (fun K hK => ?_) AllReady.nil
            refine step_wp rfl (wp_store_ro (.tmp 8) (.tmp 53) rfl rfl rfl row26 RB8.out ly.out li.out (vals_one _) ?_)
            intro w9 R9 g9
            show K (Act.put _ none _) _
            have F9 : Hid (FoB w x l k (j + 1) r I w9) := Lib.hid ⟨FN.out, R9, HJ.out, RS8.out.far g9 (fun e => by injection e; omega), B8.out.grown g9 B8.out.size (fun q e => by injection e; omega)⟩
            clear R9 g9
            refine hK _ _ ?_
            clear hK K
            try simp only [Act.put, List.setIfInBounds_toArray, List.set_cons_succ, List.set_cons_zero]
            refine wpAny_done (by kernel_rfl) ?_ _
            go_wp2_with fail
            exact ⟨⟨j + 1, r, I, by go_num, by go_num, by omega, by have := HRR.out; omega, F9.out⟩, by simp [intOf]; omega⟩
    · obtain rfl : j = n := by omega
      have fe := HF.out.eq
      rw [List.drop_of_length_le (by rw [HN.out]; exact Nat.le_refl _), fold, HR.out] at fe
      have FE := Lib.hid fe
      have ly := Lib.hid (show (vals y).length = 32 by rw [vals_length]; exact HF.out.ok.1)
      clear fe
      go_wp2_with (first | (refine wpList_load_ro rfl (.tmp 8) rfl rfl row26 HF.out.id ly.out ?_) | (refine wpList_store_ro rfl (.tmp 6) (.tmp 56) rfl rfl rfl row26 HF.out.res lz.out ly.out (vals_one _) ?_))
      intro w7 R7 g7
      go_wp2_with fail
      exact bodyPost_ret (results_ro2 Tryd.results20 _ rfl row26 R7 ly.out rfl) rfl ⟨by rw [← FE.out]; rfl, HF.out.bel.grown g7 HF.out.bel.size (fun q e => by injection e; omega)⟩
end Go.Proofs.YtdenibigefchpaaDoor
