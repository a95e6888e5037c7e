/- merkle.Branch of a hash that is there. No condition but that the tables lie as laid. -/
import Derived.Test.YtdenibigefchpaaDoorBranchL
namespace Go.Proofs.YtdenibigefchpaaDoor
open Go.RowKit Go.Shelf
attribute [local go_sem] Oper.semAt_some

/-- What the round may take. -/
def BrI (w : World) (k : Nat) (pre : List Rw) (x : Rw) (W : World) : Prop :=
  ∃ v, BrJ w (k / 2 ^ pre.length) pre.length (matesOf (pre.map (·.l)) k) v W ∧ Gs W x.A x.n x.l ∧ (∀ a, x.A = some a → a.block ≠ w.heap.size ∧ a.block ≠ w.heap.size + 1 ∧ v.ownBlock ≠ some a.block) ∧ 0 < x.n ∧ x.n ≤ 1000000

set_option maxRecDepth 100000 in
set_option maxHeartbeats 4000000 in
theorem branch_in {A : Option Addr} {n c k : Nat} {ids : List (List Nat)} (w : World) (hLd : Laid w) (hn : n ≤ 1000000) (hk : k < n) (hL : Gs w A n ids) : CallsIn Fence.wide 3 Tryd.prog 10 #[.slice A n c, .int .i64 (k : Nat)] w fun e w' => ∃ B m d, e = .returned (.tuple #[.slice B m d, .int .i64 0]) ∧ OwnG w (.slice B m d) m (branch joinS ids k) w' := by
  have HL := Lib.hid hL
  have HN := Lib.hid hL.len
  have HD := Lib.hid hLd
  have HA : Hid (∀ a, 0 < n → A = some a → a.block < w.heap.size) := Lib.hid (fun a h0 e => by
    obtain ⟨b, o, e2, hb, _⟩ := hL.cel h0
    rw [e] at e2
    injection e2 with e2
    subst e2
    exact hb)
  clear hL hLd
  have t1 : decide ((k : Int) < 0) = false := decide_eq_false (by omega)
  have t2 : decide ((n : Int) ≤ (k : Int)) = false := decide_eq_false (by omega)
  have t3 : decide (n ≤ k) = false := decide_eq_false (by omega)
  refine callsIn_of_wp_marks Tryd.func10 rfl trivial ?_ rfl
  simp only [Tryd.ntmps10, List.size_toArray, List.length_cons, List.length_nil, Nat.reduceAdd, Nat.reduceSub, Array.replicate_succ, Array.replicate_zero, List.push_toArray, List.append_toArray, List.nil_append, List.cons_append]
  gi_wp2_with (refine ⟨trivial, ?_⟩; gi_at_call 23; refine (rows_in _ _ _ _).mono ?_; rintro e w2 ⟨rfl, rfl⟩)
  obtain ⟨W4, hW4⟩ : ∃ W4, W4 = ((w.alloc (.cells #[.int .i64 (k : Nat)] 3)).alloc (.cells #[.slice none 0 0] 22)).alloc (.cells #[.slice A n c] 22) := ⟨_, rfl⟩
  have z4 : W4.heap.size = w.heap.size + 3 := by rw [hW4]; simp
  have b4 : Below w.heap.size w W4 := by rw [hW4]; exact (((Below.refl _ w).alloc (Nat.le_refl _) _).alloc (by simp only [World.size_alloc]; omega) _).alloc (by simp only [World.size_alloc]; omega) _
  have J4 : BrJ w (k / 2 ^ 0) 0 [] (.slice none 0 0) W4 := by
    refine ⟨?_, ?_, ⟨0, Nat.le_refl _, OwnG.none_ b4⟩, (fun q e => by cases e), by omega⟩
    · rw [hW4, Nat.pow_zero, Nat.div_one]; exact ((Boxed.new w _ _).alloc _).alloc _
    · rw [hW4]
      have := (Boxed.new (w.alloc (.cells #[.int .i64 (k : Nat)] 3)) 22 (.slice none 0 0)).alloc (.cells #[.slice A n c] 22)
      rwa [World.size_alloc] at this
  have X4 : Boxed W4 (w.heap.size + 1 + 1) 22 (.slice A n c) := by
    rw [hW4]
    have := Boxed.new ((w.alloc (.cells #[.int .i64 (k : Nat)] 3)).alloc (.cells #[.slice none 0 0] 22)) 22 (.slice A n c)
    rwa [World.size_alloc, World.size_alloc] at this
  change Code.wpIn _ _ _ _ _ _ (((w.alloc (.cells #[.int .i64 (k : Nat)] 3)).alloc (.cells #[.slice none 0 0] 22)).alloc (.cells #[.slice A n c] 22))
  rw [← hW4]
  have B4 := Lib.hid b4
  have Z4 := Lib.hid z4
  clear hW4 b4 z4 t1 t2 t3
  refine range_tells (w := W4) rfl (by decide) (gf := 29) (lb := #[.pointer (some ⟨w.heap.size + 1 + 1, 0, none⟩)]) rfl trivial (enters_of Tryd.func29 (by kernel_rfl) rfl)
    (encs := rwE) (Tn := fun X Y => Below X.heap.size X Y) (Fr := RFr w.heap.size) (Rd := RRd) (S := RTell ids) (Sp := RPre ids)
    (rows_tells (w.heap.size + 1 + 1) w.heap.size A n c ids W4 X4 (HL.out.later B4.out) (HD.out.later HD.out.lt B4.out) HA.out hn) (fun X Y h => ⟨h.size, fun k o hk _ => by rw [h.block k (Array.getElem?_eq_some_iff.1 hk).1]; exact hk⟩)
    (rrd_own _) (fun _ => rfl)
    (fun pre W => ∃ v, BrJ w (k / 2 ^ pre.length) pre.length (matesOf (pre.map (·.l)) k) v W) (fun _ _ _ => False)
    (fun s X Y row hs hg hr => by
      obtain ⟨v, hs⟩ := hs
      exact ⟨v, hs.keep hg fun r e => ⟨by have := (hr r e).1; have := Z4.out; omega, (hr r e).2⟩⟩)
    (fun cd s X Y row hs hg hr => hs.elim)
    (fun pre x W => BrI w k pre x W)
    (fun x pre X Y row hs hg hr => by
      obtain ⟨v, h1, h2, h3⟩ := hs
      exact ⟨v, h1.keep hg fun r e => ⟨by have := (hr r e).1; have := Z4.out; omega, (hr r e).2⟩, h2.keep hg fun r e => (hr r e).2, h3⟩)
    (fun pre x X Y hs ht hf => by
      obtain ⟨v, hs⟩ := hs
      refine ⟨v, hs.later ht, hf.gs, fun a e => ?_, hf.pos, hf.le⟩
      have hz := hs.size
      obtain ⟨j, _, o⟩ := hs.own
      rcases hf.far a e with h | h
      · exact ⟨by omega, by omega, fun e2 => by have := hs.new _ e2; omega⟩
      · exact ⟨by omega, by omega, fun e2 => by have := (o.new _ e2).2; omega⟩)
    ⟨_, J4⟩
    (fun x => { tmps := #[Value.slice A n c, Value.int IntKind.i64 (k : Nat), undef, Value.pointer (some { block := w.heap.size, off := 0 }),
          Value.slice none 0 0, Value.int IntKind.i64 0, Value.pointer (some { block := w.heap.size + 1, off := 0 }),
          .slice x.A x.n x.c, Value.int IntKind.i64 (k : Nat), Value.bool false, Value.bool false, Value.int IntKind.i64 (k : Nat),
          Value.slice A n c, Value.int IntKind.i64 (n : Nat), Value.bool false, Value.bool false, Value.slice A n c,
          Value.func (Fn.func 29) #[] #[Value.pointer (some { block := w.heap.size + 1 + 1, off := 0 })], .slice x.A x.n x.c, undef,
          undef, undef, undef, undef, undef, undef, undef, undef, undef, undef, undef], defers := [] }) ?assign ?body ?done ?stop
  case assign =>
    intro l x W K hK
    obtain ⟨A', m, c', l'⟩ := x
    dsimp only [rwE] at hK ⊢
    gi_wp2
    exact hK
  case stop => exact fun D cd pre W hD hS h hK => h.elim
  case done =>
    rintro D ys W hD hS ⟨v, J⟩ hK
    have MB : matesOf (ys.map (·.l)) k = branch joinS ids k := by
      rw [show ys.map (·.l) = rowsOf joinS ids from hS, mates_rows joinS _ ids (Nat.le_refl _)]
    rw [MB] at J
    have c6 := J.bb.cell
    have J9 := J.keep (grownBy_putObj' W D (.deferred none)) (fun r e => by cases e; exact ⟨by have := Z4.out; omega, _, hK, rfl⟩)
    obtain ⟨j, _, O⟩ := J9.own
    obtain ⟨vA, vc, rfl, _⟩ := O.shape
    have HO := Lib.hid O
    have HK := Lib.hid hK
    clear J J9 hK O MB hS
    gi_wp2
    refine ⟨by simp, .inl ⟨_, _, rfl, run_takeDeferred HK.out, .tuple #[.slice vA j vc, .int .i64 0], ?_, ⟨_, _, _, rfl, HO.out⟩⟩⟩
    simp [results, Tryd.f10, go_sem]
  case body =>
    rintro l pre ⟨A', m, c', l'⟩ W ⟨v, J, hG, hne, hp, hm⟩ ⟨r, hr⟩
    dsimp only at hG hne hp hm ⊢
    have mixed : Tryd.prog.follows .mixedOrders = true := by kernel_rfl
    rw [List.map_append, List.append_assoc] at hr
    have hq : k / 2 ^ pre.length < m := by
      have := rows_at joinS _ ids l' r k hr (by rw [HN.out]; exact hk)
      rw [List.length_map, hG.len] at this
      exact this
    have hpl : pre.length ≤ 20 := by
      have h1 := congrArg List.length hr
      have h2 := rows_len joinS _ 20 ids (Nat.le_refl _) (by rw [HN.out]; omega)
      rw [← h1, List.length_append, List.length_map] at h2
      simp at h2
      omega
    have MS : matesOf ((pre ++ [Rw.mk A' m c' l']).map (·.l)) k = matesOf (pre.map (·.l)) k ++ (if 1 < m then [mate l' (k / 2 ^ pre.length)] else []) := by
      rw [List.map_append]
      show matesOf (pre.map (·.l) ++ [l']) k = _
      rw [matesOf_app, List.length_map, hG.len]
    have QS : k / 2 ^ (pre ++ [Rw.mk A' m c' l']).length = k / 2 ^ pre.length / 2 := by
      rw [List.length_append, List.length_singleton, Nat.pow_succ, Nat.div_div_eq_div_mul]
    obtain ⟨q, eq⟩ : ∃ q, k / 2 ^ pre.length = q := ⟨_, rfl⟩
    obtain ⟨M, eM⟩ : ∃ M, matesOf (pre.map (·.l)) k = M := ⟨_, rfl⟩
    rw [eq] at J hq MS QS
    rw [eM] at J MS
    obtain ⟨q2, eq2⟩ : ∃ q2, q / 2 = q2 := ⟨_, rfl⟩
    rw [eq2] at QS
    have d1 : (q : Int) / 2 = (q2 : Int) := by omega
    have HJ := Lib.hid J
    have HG := Lib.hid hG
    have HNE := Lib.hid hne
    have HMS := Lib.hid MS
    have HQS := Lib.hid QS
    have HR := Lib.hid hr
    clear J hG hne MS QS hr eq eM eq2
    by_cases h1 : 1 < m
    · have t1 : decide ((1 : Int) < (m : Int)) = true := decide_eq_true (by omega)
      rw [if_pos h1] at HMS
      obtain ⟨jj, hj, O⟩ := HJ.out.own
      obtain ⟨vA, vc, rfl, _⟩ := O.shape
      have HO := Lib.hid O
      have KX : Hid (Below W.heap.size W W.drew) := Lib.hid (Below.refl _ _).drew
      have JX := HJ.out.later KX.out
      have c6X := JX.bb.cell
      have c3X := JX.kb.cell
      have CP := Lib.hid (partner_any (c := c') W.drew hq hm (HG.out.later KX.out))
      have okm : Hid ((mate l' q).length = 32 ∧ AllB (mate l' q)) := Lib.hid (by
        have hl := HG.out.len
        unfold mate
        split
        · split
          · exact nt_ok HG.out.ok (by assumption)
          · exact nt_ok HG.out.ok (by omega)
        · exact nt_ok HG.out.ok (by omega))
      have ll := Lib.hid (show (vals (mate l' q)).length = 32 by rw [vals_length]; exact okm.out.1)
      obtain ⟨x, hx⟩ : ∃ x, mate l' q = x := ⟨_, rfl⟩
      rw [hx] at CP okm ll HMS
      clear O JX hx
      gi_wp2
      refine wpIn_region_plain mixed (fun ⟨_, _, h⟩ => h) (by kernel_rfl) ?_
      change wpAny _ _ _ _ _ _ _ (World.drew _)
      refine wpAny_take (i := 1) (v := ?_) rfl (by kernel_rfl) (by kernel_rfl) (by kernel_rfl) (fun _ _ _ h => h) (Or.inl ⟨by rfl, ?_⟩) ?_
      rotate_left
      · intro w
        go_simp
        with_reducible rfl
      show wpAny _ _ _ _ _ _ (Act.put _ (some 23) _) _
      simp only [Act.put, List.setIfInBounds_toArray, List.set_cons_succ, List.set_cons_zero]
      refine wpAny_ready (rs := [0, 2]) (by kernel_rfl) (by simp) ?_
      refine AllReady.cons rfl (fun K hK => ?_) (AllReady.cons rfl (fun K hK => ?_) AllReady.nil)
      · go_simp
        refine hK _ _ ?_
        clear hK K
        try simp only [Act.put, List.setIfInBounds_toArray, List.set_cons_succ, List.set_cons_zero]
        refine wpAny_ready (rs := [2]) (by kernel_rfl) (by simp) ?_
        refine AllReady.cons rfl (fun K hK => ?_) AllReady.nil
        go_simp
        refine hK _ _ ?_
        clear hK K
        try simp only [Act.put, List.setIfInBounds_toArray, List.set_cons_succ, List.set_cons_zero]
        refine wpAny_ready (rs := [3]) (by kernel_rfl) (by simp) ?_
        refine AllReady.cons rfl (fun K hK => ?_) AllReady.nil
        go_simp
        with_reducible refine CP.out.mono ?_
        rintro e w1 ⟨rfl, hb1⟩
        have K1 := Lib.hid (KX.out.trans (hb1.mono KX.out.size))
        have J1 := HJ.out.later K1.out
        have c61 := J1.bb.cell
        have K2 := Lib.hid (K1.out.trans (((Below.refl w1.heap.size w1).alloc (Nat.le_refl _) (.cells (vals x).toArray 24)).mono K1.out.size))
        have J2 := Lib.hid (HJ.out.later K2.out)
        have c62 := J2.out.bb.cell
        have O2 := Lib.hid (HO.out.later K2.out)
        have G2 := Lib.hid (HG.out.later K2.out)
        clear hb1 J1
        go_simp
        refine hK _ _ ?_
        clear hK K
        try simp only [Act.put, List.setIfInBounds_toArray, List.set_cons_succ, List.set_cons_zero]
        refine wpAny_ready (rs := [4]) (by kernel_rfl) (by simp) ?_
        refine AllReady.cons rfl (fun K hK => ?_) AllReady.nil
        refine step_wp rfl (wp_litG (d := some 26) rfl (.tmp 25) rfl rfl ll.out ?_)
        refine hK _ _ ?_
        clear hK K
        try simp only [Act.put, List.setIfInBounds_toArray, List.set_cons_succ, List.set_cons_zero]
        refine wpAny_ready (rs := [5]) (by kernel_rfl) (by simp) ?_
        refine AllReady.cons rfl (fun K hK => ?_) AllReady.nil
        refine step_wp rfl (wp_appG6 (ops := #[]) (d := some 27) rfl (.tmp 22) (.tmp 26) rfl rfl O2.out rfl okm.out (Ro.new _ _ _) (by omega) ?_)
        intro A6 c6 w6 O6 g6 n6
        have JN := Lib.hid (J2.out.app hj O6 g6 n6)
        have bb6 : Boxed w6 (w.heap.size + 1) 22 _ := J2.out.bb.kept g6 (fun e => by have := J2.out.new _ e.symm; omega)
        have q6 := bb6.cell
        have y6 := bb6.frozen
        have k6 := JN.out.kb.cell
        have z6 := JN.out.kb.frozen
        have JE := Lib.hid (JN.out.setK q2)
        have G6 := G2.out.far g6 (fun a e e2 => (HNE.out a e).2.2 e2.symm)
        have G7 := G6.same (W' := w6.setCell ⟨w.heap.size + 1, 0, none⟩ (.slice A6 (jj + 1) c6)) (by simp [World.setCell]) (fun a e => Below.heap_setCell w6 ⟨w.heap.size + 1, 0, none⟩ _ a.block (HNE.out a e).2.1)
        have G8 := Lib.hid (G7.same (W' := (w6.setCell ⟨w.heap.size + 1, 0, none⟩ (.slice A6 (jj + 1) c6)).setCell ⟨w.heap.size, 0, none⟩ (.int .i64 (q2 : Nat))) (by simp [World.setCell]) (fun a e => Below.heap_setCell _ ⟨w.heap.size, 0, none⟩ _ a.block (HNE.out a e).1))
        have KE := Lib.hid ((((Kf.below (s := w.heap.size + 3) K2.out).trans (Kf.row (s := w.heap.size + 3) O2.out.row g6)).trans (Kf.set (w.heap.size + 3) w6 ⟨w.heap.size + 1, 0, none⟩ (.slice A6 (jj + 1) c6))).trans (Kf.set (w.heap.size + 3) _ ⟨w.heap.size, 0, none⟩ (.int .i64 (q2 : Nat))))
        clear O6 g6 n6 bb6 JN G6 G7 O2 J2 c62 c61
        refine hK _ _ ?_
        clear hK K
        try simp only [Act.put, List.setIfInBounds_toArray, List.set_cons_succ, List.set_cons_zero]
        refine wpAny_ready (rs := [6]) (by kernel_rfl) (by simp) ?_
        refine AllReady.cons rfl (fun K hK => ?_) AllReady.nil
        go_simp
        refine hK _ _ ?_
        clear hK K
        try simp only [Act.put, List.setIfInBounds_toArray, List.set_cons_succ, List.set_cons_zero]
        refine wpAny_done (by kernel_rfl) ?_ _
        gi_wp2
        refine ⟨by rw [Z4.out]; exact KE.out, ⟨G8.out, HD.out.later HD.out.lt JE.out.bel⟩, .slice A6 (jj + 1) c6, ?_⟩
        rw [HQS.out, HMS.out, List.length_append, List.length_singleton]
        exact JE.out
      · go_simp
        refine hK _ _ ?_
        clear hK K
        try simp only [Act.put, List.setIfInBounds_toArray, List.set_cons_succ, List.set_cons_zero]
        refine wpAny_ready (rs := [0, 3]) (by kernel_rfl) (by simp) ?_
        refine AllReady.cons rfl (fun K hK => ?_) (AllReady.cons rfl (fun K hK => ?_) AllReady.nil)
        · go_simp
          refine hK _ _ ?_
          clear hK K
          try simp only [Act.put, List.setIfInBounds_toArray, List.set_cons_succ, List.set_cons_zero]
          refine wpAny_ready (rs := [3]) (by kernel_rfl) (by simp) ?_
          refine AllReady.cons rfl (fun K hK => ?_) AllReady.nil
          go_simp
          with_reducible refine CP.out.mono ?_
          rintro e w1 ⟨rfl, hb1⟩
          have K1 := Lib.hid (KX.out.trans (hb1.mono KX.out.size))
          have J1 := HJ.out.later K1.out
          have c61 := J1.bb.cell
          have K2 := Lib.hid (K1.out.trans (((Below.refl w1.heap.size w1).alloc (Nat.le_refl _) (.cells (vals x).toArray 24)).mono K1.out.size))
          have J2 := Lib.hid (HJ.out.later K2.out)
          have c62 := J2.out.bb.cell
          have O2 := Lib.hid (HO.out.later K2.out)
          have G2 := Lib.hid (HG.out.later K2.out)
          clear hb1 J1
          go_simp
          refine hK _ _ ?_
          clear hK K
          try simp only [Act.put, List.setIfInBounds_toArray, List.set_cons_succ, List.set_cons_zero]
          refine wpAny_ready (rs := [4]) (by kernel_rfl) (by simp) ?_
          refine AllReady.cons rfl (fun K hK => ?_) AllReady.nil
          refine step_wp rfl (wp_litG (d := some 26) rfl (.tmp 25) rfl rfl ll.out ?_)
          refine hK _ _ ?_
          clear hK K
          try simp only [Act.put, List.setIfInBounds_toArray, List.set_cons_succ, List.set_cons_zero]
          refine wpAny_ready (rs := [5]) (by kernel_rfl) (by simp) ?_
          refine AllReady.cons rfl (fun K hK => ?_) AllReady.nil
          refine step_wp rfl (wp_appG6 (ops := #[]) (d := some 27) rfl (.tmp 22) (.tmp 26) rfl rfl O2.out rfl okm.out (Ro.new _ _ _) (by omega) ?_)
          intro A6 c6 w6 O6 g6 n6
          have JN := Lib.hid (J2.out.app hj O6 g6 n6)
          have bb6 : Boxed w6 (w.heap.size + 1) 22 _ := J2.out.bb.kept g6 (fun e => by have := J2.out.new _ e.symm; omega)
          have q6 := bb6.cell
          have y6 := bb6.frozen
          have k6 := JN.out.kb.cell
          have z6 := JN.out.kb.frozen
          have JE := Lib.hid (JN.out.setK q2)
          have G6 := G2.out.far g6 (fun a e e2 => (HNE.out a e).2.2 e2.symm)
          have G7 := G6.same (W' := w6.setCell ⟨w.heap.size + 1, 0, none⟩ (.slice A6 (jj + 1) c6)) (by simp [World.setCell]) (fun a e => Below.heap_setCell w6 ⟨w.heap.size + 1, 0, none⟩ _ a.block (HNE.out a e).2.1)
          have G8 := Lib.hid (G7.same (W' := (w6.setCell ⟨w.heap.size + 1, 0, none⟩ (.slice A6 (jj + 1) c6)).setCell ⟨w.heap.size, 0, none⟩ (.int .i64 (q2 : Nat))) (by simp [World.setCell]) (fun a e => Below.heap_setCell _ ⟨w.heap.size, 0, none⟩ _ a.block (HNE.out a e).1))
          have KE := Lib.hid ((((Kf.below (s := w.heap.size + 3) K2.out).trans (Kf.row (s := w.heap.size + 3) O2.out.row g6)).trans (Kf.set (w.heap.size + 3) w6 ⟨w.heap.size + 1, 0, none⟩ (.slice A6 (jj + 1) c6))).trans (Kf.set (w.heap.size + 3) _ ⟨w.heap.size, 0, none⟩ (.int .i64 (q2 : Nat))))
          clear O6 g6 n6 bb6 JN G6 G7 O2 J2 c62 c61
          refine hK _ _ ?_
          clear hK K
          try simp only [Act.put, List.setIfInBounds_toArray, List.set_cons_succ, List.set_cons_zero]
          refine wpAny_ready (rs := [6]) (by kernel_rfl) (by simp) ?_
          refine AllReady.cons rfl (fun K hK => ?_) AllReady.nil
          go_simp
          refine hK _ _ ?_
          clear hK K
          try simp only [Act.put, List.setIfInBounds_toArray, List.set_cons_succ, List.set_cons_zero]
          refine wpAny_done (by kernel_rfl) ?_ _
          gi_wp2
          refine ⟨by rw [Z4.out]; exact KE.out, ⟨G8.out, HD.out.later HD.out.lt JE.out.bel⟩, .slice A6 (jj + 1) c6, ?_⟩
          rw [HQS.out, HMS.out, List.length_append, List.length_singleton]
          exact JE.out
        · go_simp
          with_reducible refine CP.out.mono ?_
          rintro e w1 ⟨rfl, hb1⟩
          have K1 := Lib.hid (KX.out.trans (hb1.mono KX.out.size))
          have J1 := HJ.out.later K1.out
          have c61 := J1.bb.cell
          have K2 := Lib.hid (K1.out.trans (((Below.refl w1.heap.size w1).alloc (Nat.le_refl _) (.cells (vals x).toArray 24)).mono K1.out.size))
          have J2 := Lib.hid (HJ.out.later K2.out)
          have c62 := J2.out.bb.cell
          have O2 := Lib.hid (HO.out.later K2.out)
          have G2 := Lib.hid (HG.out.later K2.out)
          clear hb1 J1
          go_simp
          refine hK _ _ ?_
          clear hK K
          try simp only [Act.put, List.setIfInBounds_toArray, List.set_cons_succ, List.set_cons_zero]
          refine wpAny_ready (rs := [0, 4]) (by kernel_rfl) (by simp) ?_
          refine AllReady.cons rfl (fun K hK => ?_) (AllReady.cons rfl (fun K hK => ?_) AllReady.nil)
          · go_simp
            refine hK _ _ ?_
            clear hK K
            try simp only [Act.put, List.setIfInBounds_toArray, List.set_cons_succ, List.set_cons_zero]
            refine wpAny_ready (rs := [4]) (by kernel_rfl) (by simp) ?_
            refine AllReady.cons rfl (fun K hK => ?_) AllReady.nil
            refine step_wp rfl (wp_litG (d := some 26) rfl (.tmp 25) rfl rfl ll.out ?_)
            refine hK _ _ ?_
            clear hK K
            try simp only [Act.put, List.setIfInBounds_toArray, List.set_cons_succ, List.set_cons_zero]
            refine wpAny_ready (rs := [5]) (by kernel_rfl) (by simp) ?_
            refine AllReady.cons rfl (fun K hK => ?_) AllReady.nil
            refine step_wp rfl (wp_appG6 (ops := #[]) (d := some 27) rfl (.tmp 22) (.tmp 26) rfl rfl O2.out rfl okm.out (Ro.new _ _ _) (by omega) ?_)
            intro A6 c6 w6 O6 g6 n6
            have JN := Lib.hid (J2.out.app hj O6 g6 n6)
            have bb6 : Boxed w6 (w.heap.size + 1) 22 _ := J2.out.bb.kept g6 (fun e => by have := J2.out.new _ e.symm; omega)
            have q6 := bb6.cell
            have y6 := bb6.frozen
            have k6 := JN.out.kb.cell
            have z6 := JN.out.kb.frozen
            have JE := Lib.hid (JN.out.setK q2)
            have G6 := G2.out.far g6 (fun a e e2 => (HNE.out a e).2.2 e2.symm)
            have G7 := G6.same (W' := w6.setCell ⟨w.heap.size + 1, 0, none⟩ (.slice A6 (jj + 1) c6)) (by simp [World.setCell]) (fun a e => Below.heap_setCell w6 ⟨w.heap.size + 1, 0, none⟩ _ a.block (HNE.out a e).2.1)
            have G8 := Lib.hid (G7.same (W' := (w6.setCell ⟨w.heap.size + 1, 0, none⟩ (.slice A6 (jj + 1) c6)).setCell ⟨w.heap.size, 0, none⟩ (.int .i64 (q2 : Nat))) (by simp [World.setCell]) (fun a e => Below.heap_setCell _ ⟨w.heap.size, 0, none⟩ _ a.block (HNE.out a e).1))
            have KE := Lib.hid ((((Kf.below (s := w.heap.size + 3) K2.out).trans (Kf.row (s := w.heap.size + 3) O2.out.row g6)).trans (Kf.set (w.heap.size + 3) w6 ⟨w.heap.size + 1, 0, none⟩ (.slice A6 (jj + 1) c6))).trans (Kf.set (w.heap.size + 3) _ ⟨w.heap.size, 0, none⟩ (.int .i64 (q2 : Nat))))
            clear O6 g6 n6 bb6 JN G6 G7 O2 J2 c62 c61
            refine hK _ _ ?_
            clear hK K
            try simp only [Act.put, List.setIfInBounds_toArray, List.set_cons_succ, List.set_cons_zero]
            refine wpAny_ready (rs := [6]) (by kernel_rfl) (by simp) ?_
            refine AllReady.cons rfl (fun K hK => ?_) AllReady.nil
            go_simp
            refine hK _ _ ?_
            clear hK K
            try simp only [Act.put, List.setIfInBounds_toArray, List.set_cons_succ, List.set_cons_zero]
            refine wpAny_done (by kernel_rfl) ?_ _
            gi_wp2
            refine ⟨by rw [Z4.out]; exact KE.out, ⟨G8.out, HD.out.later HD.out.lt JE.out.bel⟩, .slice A6 (jj + 1) c6, ?_⟩
            rw [HQS.out, HMS.out, List.length_append, List.length_singleton]
            exact JE.out
          · refine step_wp rfl (wp_litG (d := some 26) rfl (.tmp 25) rfl rfl ll.out ?_)
            refine hK _ _ ?_
            clear hK K
            try simp only [Act.put, List.setIfInBounds_toArray, List.set_cons_succ, List.set_cons_zero]
            refine wpAny_ready (rs := [0]) (by kernel_rfl) (by simp) ?_
            refine AllReady.cons rfl (fun K hK => ?_) AllReady.nil
            go_simp
            refine hK _ _ ?_
            clear hK K
            try simp only [Act.put, List.setIfInBounds_toArray, List.set_cons_succ, List.set_cons_zero]
            refine wpAny_ready (rs := [5]) (by kernel_rfl) (by simp) ?_
            refine AllReady.cons rfl (fun K hK => ?_) AllReady.nil
            refine step_wp rfl (wp_appG6 (ops := #[]) (d := some 27) rfl (.tmp 22) (.tmp 26) rfl rfl O2.out rfl okm.out (Ro.new _ _ _) (by omega) ?_)
            intro A6 c6 w6 O6 g6 n6
            have JN := Lib.hid (J2.out.app hj O6 g6 n6)
            have bb6 : Boxed w6 (w.heap.size + 1) 22 _ := J2.out.bb.kept g6 (fun e => by have := J2.out.new _ e.symm; omega)
            have q6 := bb6.cell
            have y6 := bb6.frozen
            have k6 := JN.out.kb.cell
            have z6 := JN.out.kb.frozen
            have JE := Lib.hid (JN.out.setK q2)
            have G6 := G2.out.far g6 (fun a e e2 => (HNE.out a e).2.2 e2.symm)
            have G7 := G6.same (W' := w6.setCell ⟨w.heap.size + 1, 0, none⟩ (.slice A6 (jj + 1) c6)) (by simp [World.setCell]) (fun a e => Below.heap_setCell w6 ⟨w.heap.size + 1, 0, none⟩ _ a.block (HNE.out a e).2.1)
            have G8 := Lib.hid (G7.same (W' := (w6.setCell ⟨w.heap.size + 1, 0, none⟩ (.slice A6 (jj + 1) c6)).setCell ⟨w.heap.size, 0, none⟩ (.int .i64 (q2 : Nat))) (by simp [World.setCell]) (fun a e => Below.heap_setCell _ ⟨w.heap.size, 0, none⟩ _ a.block (HNE.out a e).1))
            have KE := Lib.hid ((((Kf.below (s := w.heap.size + 3) K2.out).trans (Kf.row (s := w.heap.size + 3) O2.out.row g6)).trans (Kf.set (w.heap.size + 3) w6 ⟨w.heap.size + 1, 0, none⟩ (.slice A6 (jj + 1) c6))).trans (Kf.set (w.heap.size + 3) _ ⟨w.heap.size, 0, none⟩ (.int .i64 (q2 : Nat))))
            clear O6 g6 n6 bb6 JN G6 G7 O2 J2 c62 c61
            refine hK _ _ ?_
            clear hK K
            try simp only [Act.put, List.setIfInBounds_toArray, List.set_cons_succ, List.set_cons_zero]
            refine wpAny_ready (rs := [6]) (by kernel_rfl) (by simp) ?_
            refine AllReady.cons rfl (fun K hK => ?_) AllReady.nil
            go_simp
            refine hK _ _ ?_
            clear hK K
            try simp only [Act.put, List.setIfInBounds_toArray, List.set_cons_succ, List.set_cons_zero]
            refine wpAny_done (by kernel_rfl) ?_ _
            gi_wp2
            refine ⟨by rw [Z4.out]; exact KE.out, ⟨G8.out, HD.out.later HD.out.lt JE.out.bel⟩, .slice A6 (jj + 1) c6, ?_⟩
            rw [HQS.out, HMS.out, List.length_append, List.length_singleton]
            exact JE.out
    · have t1 : decide ((1 : Int) < (m : Int)) = false := decide_eq_false (by omega)
      rw [if_neg h1, List.append_nil] at HMS
      have c3 := HJ.out.kb.cell
      have y3 := HJ.out.kb.frozen
      have JE := Lib.hid (HJ.out.setK q2)
      have G8 := Lib.hid (HG.out.same (W' := W.setCell ⟨w.heap.size, 0, none⟩ (.int .i64 (q2 : Nat))) (by simp [World.setCell]) (fun a e => Below.heap_setCell _ ⟨w.heap.size, 0, none⟩ _ a.block (HNE.out a e).1))
      have KE := Lib.hid (Kf.set (w.heap.size + 3) W ⟨w.heap.size, 0, none⟩ (.int .i64 (q2 : Nat)))
      gi_wp2
      refine ⟨by rw [Z4.out]; exact KE.out, ⟨G8.out, HD.out.later HD.out.lt JE.out.bel⟩, v, ?_⟩
      rw [HQS.out, HMS.out, List.length_append, List.length_singleton]
      exact ⟨JE.out.kb, JE.out.bb, by
        obtain ⟨j, hj, o⟩ := JE.out.own
        exact ⟨j, by omega, o⟩, JE.out.new, JE.out.size⟩
theorem branch_any {A : Option Addr} {n c k : Nat} {ids : List (List Nat)} (w : World) (hLd : Laid w) (hn : n ≤ 1000000) (hk : k < n) (hL : Gs w A n ids) : Calls Tryd.prog 10 #[.slice A n c, .int .i64 (k : Nat)] w fun e w' => ∃ B m d, e = .returned (.tuple #[.slice B m d, .int .i64 0]) ∧ OwnG w (.slice B m d) m (branch joinS ids k) w' :=
  callsIn_wide.1 (branch_in w hLd hn hk hL)

set_option maxRecDepth 100000 in
set_option maxHeartbeats 1000000 in
theorem branch_bad {A : Option Addr} {n c : Nat} {k : Int} (w : World) (hk : k < 0 ∨ (n : Int) ≤ k) : Calls Tryd.prog 10 #[.slice A n c, .int .i64 k] w fun e w' => e = .returned (.tuple #[.slice none 0 0, .int .i64 1]) ∧ Below w.heap.size w w' := by
  have B := Lib.hid ((Below.refl w.heap.size w).alloc (Nat.le_refl _) (.cells #[.int .i64 k] 3))
  by_cases h0 : k < 0
  · have t1 : decide (k < 0) = true := decide_eq_true h0
    go_enter Tryd.func10, Tryd.ntmps10
    go_wp2_with fail
    go_ret2
    exact ⟨rfl, B.out⟩
  · have t1 : decide (k < 0) = false := decide_eq_false h0
    have t2 : decide ((n : Int) ≤ k) = true := decide_eq_true (by omega)
    go_enter Tryd.func10, Tryd.ntmps10
    go_wp2_with fail
    go_ret2
    exact ⟨rfl, B.out⟩
end Go.Proofs.YtdenibigefchpaaDoor
