/- The row above one: the program's, and the reference's. No condition but that the tables lie as laid. -/
import Derived.Test.YtdenibigefchpaaDoorJoin
import Derived.Test.YtdenibigefchpaaDoorPartner
import Derived.Deep.RegionLaw
namespace Go.Proofs.YtdenibigefchpaaDoor
open Go.RowKit

theorem range_later {w w1 : World} {b o : Nat} {cs : List Value} (h : w.rangeAt b o cs) (hb : b < w.heap.size) (g : Below w.heap.size w w1) : w1.rangeAt b o cs := fun j v hj => by
  rw [← h j v hj]; exact g.cell hb
section
variable {w0 w : World} {ops : Array Oper} {rest : List Oper} {o : Oper} {a : Act} {Q : Exit → Act → World → Prop} {K : Act → World → Prop} {T : TypeId} {n b k : Nat} {vs : List Value} {d : Option Tmp}
theorem wp_load_part (hd : o.dst = d) (x : Operand) (ho : o.op = .load T x) (hx : a.eval x = .pointer (some ⟨b, k, none⟩)) (hT : IsRow T n) (hr : w.rangeAt b k vs) (hl : vs.length = n) (h : K (a.put d (.agg vs.toArray)) w) : o.wp Tryd.prog a w K Q := by
  subst hd
  unfold Oper.wp execOp
  obtain ⟨⟨f, h1⟩ | ⟨j, e, h1⟩, h3⟩ := hT
  · simp only [ho, hx, Instr.loadAt, Instr.sureAddr, Sem.run_bind, Sem.run_pure, Result.andThen_ok, run_loadVar_mid w b k T vs _ hr h1 rfl (by rw [h3]; simp [hl])]
    exact h
  · simp only [ho, hx, Instr.loadAt, Instr.sureAddr, Sem.run_bind, Sem.run_pure, Result.andThen_ok, run_loadVar_mid w b k T vs _ hr h1 rfl (by rw [h3]; simp [hl])]
    exact h
theorem wp_litG (hd : o.dst = d) (x : Operand) (ho : o.op = .buildSlice 22 1 #[(0, x)]) {S : List Value} (hx : a.eval x = .agg S.toArray) (hl : S.length = 32)
    (h : K (a.put d (.slice (some ⟨w.heap.size, 0, none⟩) 1 1)) (w.alloc (.cells S.toArray 24))) : o.wp Tryd.prog a w K Q := by
  rw [← hd] at h
  obtain ⟨i0, hi, hz0, hz1, hz2⟩ := info_parts Tryd.infoG
  refine wp_buildSlice 22 24 1 _ ho S.toArray i0 _ Tryd.underlying22 hi hz0 (by rw [hz1]; decide) (by rw [hz1]; decide) ?_ h
  rw [hz1]
  have e : (#[((0 : Nat), x)].map fun (y : Nat × Operand) => (y.1, a.eval y.2)).toList = [(0, .agg S.toArray)] := by simp [hx]
  exact (congrArg _ e).trans (fill_g S hl _ (by simp))
theorem wp_appG (hd : o.dst = d) (s x : Operand) (ho : o.op = .call { callee := .builtin .append, args := #[s, x], argTypes := #[22, 22] })
    {v : Value} {m : Nat} {l : List (List Nat)} (hs : a.eval s = v) (hown : OwnG w0 v m l w) {h : List Nat} (hx : a.eval x = .slice (some ⟨b, 0, none⟩) 1 1) (hk : h.length = 32 ∧ AllB h) (hr : Ro w b 24 (vals h)) (hlen : m + 1 ≤ 1073741824)
    (hw : ∀ A' c' w', m + 1 ≤ c' → OwnG w0 (.slice A' (m + 1) c') (m + 1) (l ++ [h]) w' → K (a.put d (.slice A' (m + 1) c')) w') : o.wp Tryd.prog a w K Q := by
  obtain ⟨A', c', w', r1, r2, r3, r4, _⟩ := run_appG (w0 := w0) (w := w) (m := [h]) (k := 1) (c := 1) (b := b) (q := 0) o.type hown rfl (okG_one hk) (fun j u hj => by rw [gsV_one] at hj; rw [Nat.zero_add]; exact hr.cell hj) hlen
  have e := hw A' c' w' r4 r2
  rw [← hd] at e
  unfold Oper.wp
  simp [execOp, ho, resolve, invoke, builtin, hs, hx, r1, Result.andThen]
  exact e
end

set_option maxRecDepth 100000 in
set_option maxHeartbeats 4000000 in
theorem above_any {A : Option Addr} {n c : Nat} {l : List (List Nat)} (w : World) (hLd : Laid w) (hn : n ≤ 1000000) (hL : Gs w A n l) : Calls Tryd.prog 30 #[.slice A n c] w fun e w' => ∃ A' c', e = .returned (.slice A' ((n + 1) / 2) c') ∧ OwnG w (.slice A' ((n + 1) / 2) c') ((n + 1) / 2) (up joinS l) w' := by
  have HL := Lib.hid hL
  have HN := Lib.hid hL.len
  have O0 := Lib.hid (OwnG.none_ (Below.refl w.heap.size w))
  have HD := Lib.hid hLd
  obtain ⟨m, hm⟩ : ∃ m, (n + 1) / 2 = m := ⟨_, rfl⟩
  rw [hm]
  have HM := Lib.hid hm
  clear hL hm hLd
  go_enter Tryd.func30, Tryd.ntmps30
  go_wp2_with fail
  go_loopw [3, 4] (fun v i wr => ∃ j q : Nat, i = .int .i64 (q : Nat) ∧ q = 2 * j ∧ q ≤ n + 1 ∧ OwnG w v j ((up joinS l).take j) wr) (fun _ i _ => n - (intOf i).toNat)
  case atStart => exact ⟨0, 0, rfl, rfl, by omega, O0.out⟩
  case round =>
    clear O0
    obtain ⟨j, i, rfl, hi, hj, O⟩ := hrel
    obtain ⟨vA, vc, rfl, _⟩ := O.shape
    have HO := Lib.hid O
    have HI := Lib.hid hi
    clear O hi
    by_cases hlt : i < n
    · obtain ⟨b, o, rfl, hb, _⟩ := HL.out.cel (by omega)
      have ad := add_at b o
      have L0 := Lib.hid (show b < wr.drew.heap.size from Nat.lt_of_lt_of_le hb HO.out.bel.size)
      have OD := Lib.hid (HO.out.later (Below.refl _ _).drew)
      have HD1 := Lib.hid (HL.out.later OD.out.bel)
      have R0 := Lib.hid ((HD1.out.at_ hlt).2)
      have ok0 := Lib.hid (nt_ok HL.out.ok (k := i) (by rw [HN.out]; exact hlt))
      have ll := Lib.hid (show (vals (nt l i)).length = 32 by rw [vals_length]; exact ok0.out.1)
      have TK : Hid ((up joinS l).take (j + 1) = (up joinS l).take j ++ [joinS (nt l i) (mate l i)]) := Lib.hid (by
        have e := HI.out
        rw [take_nt (by rw [up_len, HN.out]; omega), ← up_even joinS (l := l) (k := i) (by rw [HN.out]; exact hlt) (by omega), show i / 2 = j by omega])
      have okm : Hid ((mate l i).length = 32 ∧ AllB (mate l i)) := Lib.hid (by
        have e := HI.out
        unfold mate
        rw [if_pos (by omega)]
        split
        · exact nt_ok HL.out.ok (by omega)
        · exact ok0.out)
      have CP : Hid (∀ u, Below wr.drew.heap.size wr.drew u → Calls Tryd.prog 24 #[.slice (some ⟨b, o, none⟩) n c, .int .i64 (i : Nat)] u fun e w' => e = .returned (.agg (vals (mate l i)).toArray) ∧ Below u.heap.size u w') := Lib.hid (fun u g => partner_any u hlt hn (HD1.out.later g))
      have CJ : Hid (∀ u, Below wr.drew.heap.size wr.drew u → Calls Tryd.prog 12 #[.agg (vals (nt l i)).toArray, .agg (vals (mate l i)).toArray] u fun e w' => e = .returned (.agg (vals (joinS (nt l i) (mate l i))).toArray) ∧ Below u.heap.size u w') := Lib.hid (fun u g => join_any ok0.out okm.out u (HD.out.later HD.out.lt (OD.out.bel.trans (g.mono OD.out.bel.size))))
      have HJ : Hid ((joinS (nt l i) (mate l i)).length = 32 ∧ AllB (joinS (nt l i) (mate l i))) := Lib.hid (joinS_ok _ _)
      have HL32 : Hid ((vals (joinS (nt l i) (mate l i))).length = 32) := Lib.hid (by rw [vals_length]; exact HJ.out.1)
      obtain ⟨I, hI⟩ : ∃ I, joinS (nt l i) (mate l i) = I := ⟨_, rfl⟩
      rw [hI] at TK CJ HJ HL32
      obtain ⟨x, hx⟩ : ∃ x, nt l i = x := ⟨_, rfl⟩
      rw [hx] at R0 ll CJ
      obtain ⟨y, hy⟩ : ∃ y, mate l i = y := ⟨_, rfl⟩
      rw [hy] at CP CJ
      clear hI hx hy ok0 okm hb
      have t1 : decide ((i : Int) < (n : Int)) = true := decide_eq_true (by omega)
      go_wp2_with fail
      refine wp_region_any (by kernel_rfl) ?_
      change wpAny _ _ _ _ _ _ _ (World.drew _)
      refine wpAny_take (i := 0) (v := ?_) rfl (by kernel_rfl) (by kernel_rfl) (by kernel_rfl) (fun _ _ _ h => h) (Or.inl ⟨by rfl, ?_⟩) ?_
      rotate_left
      · intro w
        go_simp
        with_reducible rfl
      show wpAny _ _ _ _ _ _ (Act.put _ (some 11) _) _
      simp only [Act.put, List.setIfInBounds_toArray, List.set_cons_succ, List.set_cons_zero]
      refine wpAny_take (i := 1) (v := ?_) rfl (by kernel_rfl) (by kernel_rfl) (by kernel_rfl) (fun _ _ _ h => h) (Or.inl ⟨by rfl, ?_⟩) ?_
      rotate_left
      · intro w
        go_simp
        with_reducible rfl
      show wpAny _ _ _ _ _ _ (Act.put _ (some 12) _) _
      simp only [Act.put, List.setIfInBounds_toArray, List.set_cons_succ, List.set_cons_zero]
      refine wpAny_take (i := 2) (v := ?_) rfl (by kernel_rfl) (by kernel_rfl) (by kernel_rfl) (fun _ _ _ h => h) (Or.inl ⟨by rfl, ?_⟩) ?_
      rotate_left
      · intro w
        go_simp
        with_reducible rfl
      show wpAny _ _ _ _ _ _ (Act.put _ (some 13) _) _
      simp only [Act.put, List.setIfInBounds_toArray, List.set_cons_succ, List.set_cons_zero]
      refine wpAny_take (i := 5) (v := ?_) rfl (by kernel_rfl) (by kernel_rfl) (by kernel_rfl) (fun _ _ _ h => h) (Or.inl ⟨by rfl, ?_⟩) ?_
      rotate_left
      · intro w
        go_simp
        with_reducible rfl
      show wpAny _ _ _ _ _ _ (Act.put _ (some 16) _) _
      simp only [Act.put, List.setIfInBounds_toArray, List.set_cons_succ, List.set_cons_zero]
      refine wpAny_take (i := 6) (v := ?_) rfl (by kernel_rfl) (by kernel_rfl) (by kernel_rfl) (fun _ _ _ h => h) (Or.inl ⟨by rfl, ?_⟩) ?_
      rotate_left
      · intro w
        go_simp
        with_reducible rfl
      show wpAny _ _ _ _ _ _ (Act.put _ (some 17) _) _
      simp only [Act.put, List.setIfInBounds_toArray, List.set_cons_succ, List.set_cons_zero]
      refine wpAny_take (i := 3) (v := ?_) rfl (by kernel_rfl) (by kernel_rfl) (by kernel_rfl) (fun _ _ _ h => h) (Or.inl ⟨by rfl, ?_⟩) ?_
      rotate_left
      · intro w
        go_simp
        with_reducible rfl
      show wpAny _ _ _ _ _ _ (Act.put _ (some 14) _) _
      simp only [Act.put, List.setIfInBounds_toArray, List.set_cons_succ, List.set_cons_zero]
      refine wpAny_ready (rs := [4, 7]) (by kernel_rfl) (by simp) ?_
      refine AllReady.cons rfl (fun K hK => ?_) (AllReady.cons rfl (fun K hK => ?_) AllReady.nil)
      · skip
        refine step_wp rfl (wp_load_part (d := some 15) rfl (.tmp 14) rfl rfl row26 R0.out ll.out ?_)
        refine hK _ _ ?_
        clear hK K
        try simp only [Act.put, List.setIfInBounds_toArray, List.set_cons_succ, List.set_cons_zero]
        refine wpAny_ready (rs := [7]) (by kernel_rfl) (by simp) ?_
        refine AllReady.cons rfl (fun K hK => ?_) AllReady.nil
        go_simp
        with_reducible refine (CP.out _ (Below.refl _ _)).mono ?_
        rintro e w2 ⟨rfl, hb2⟩
        have G2 := Lib.hid hb2
        clear hb2
        go_simp
        refine hK _ _ ?_
        clear hK K
        try simp only [Act.put, List.setIfInBounds_toArray, List.set_cons_succ, List.set_cons_zero]
        refine wpAny_ready (rs := [8]) (by kernel_rfl) (by simp) ?_
        refine AllReady.cons rfl (fun K hK => ?_) AllReady.nil
        go_simp
        with_reducible refine (CJ.out _ G2.out).mono ?_
        rintro e w3 ⟨rfl, hb3⟩
        have G3 := Lib.hid (G2.out.trans (hb3.mono G2.out.size))
        clear hb3
        go_simp
        refine hK _ _ ?_
        clear hK K
        try simp only [Act.put, List.setIfInBounds_toArray, List.set_cons_succ, List.set_cons_zero]
        refine wpAny_ready (rs := [9]) (by kernel_rfl) (by simp) ?_
        refine AllReady.cons rfl (fun K hK => ?_) AllReady.nil
        refine step_wp rfl (wp_litG (d := some 20) rfl (.tmp 19) rfl rfl HL32.out ?_)
        refine hK _ _ ?_
        clear hK K
        try simp only [Act.put, List.setIfInBounds_toArray, List.set_cons_succ, List.set_cons_zero]
        refine wpAny_ready (rs := [10]) (by kernel_rfl) (by simp) ?_
        refine AllReady.cons rfl (fun K hK => ?_) AllReady.nil
        refine step_wp rfl (wp_appG (d := some 21) rfl (.tmp 11) (.tmp 20) rfl rfl ((OD.out.later G3.out).later ((Below.refl _ _).alloc (Nat.le_refl _) _)) rfl HJ.out (Ro.new _ _ _) (by have := HI.out; omega) ?_)
        intro A6 c6 w6 hc6 O6
        have H6 := Lib.hid O6
        clear O6
        refine hK _ _ ?_
        clear hK K
        try simp only [Act.put, List.setIfInBounds_toArray, List.set_cons_succ, List.set_cons_zero]
        refine wpAny_ready (rs := [11]) (by kernel_rfl) (by simp) ?_
        refine AllReady.cons rfl (fun K hK => ?_) AllReady.nil
        go_simp
        refine hK _ _ ?_
        clear hK K
        try simp only [Act.put, List.setIfInBounds_toArray, List.set_cons_succ, List.set_cons_zero]
        refine wpAny_done (by kernel_rfl) ?_ _
        go_wp2_with fail
        exact ⟨⟨j + 1, i + 2, by go_num, by have := HI.out; omega, by omega, by rw [TK.out]; exact H6.out⟩, by simp [intOf]; omega⟩
      · go_simp
        with_reducible refine (CP.out _ (Below.refl _ _)).mono ?_
        rintro e w2 ⟨rfl, hb2⟩
        have G2 := Lib.hid hb2
        clear hb2
        go_simp
        refine hK _ _ ?_
        clear hK K
        try simp only [Act.put, List.setIfInBounds_toArray, List.set_cons_succ, List.set_cons_zero]
        refine wpAny_ready (rs := [4]) (by kernel_rfl) (by simp) ?_
        refine AllReady.cons rfl (fun K hK => ?_) AllReady.nil
        skip
        refine step_wp rfl (wp_load_part (d := some 15) rfl (.tmp 14) rfl rfl row26 (range_later R0.out L0.out G2.out) ll.out ?_)
        refine hK _ _ ?_
        clear hK K
        try simp only [Act.put, List.setIfInBounds_toArray, List.set_cons_succ, List.set_cons_zero]
        refine wpAny_ready (rs := [8]) (by kernel_rfl) (by simp) ?_
        refine AllReady.cons rfl (fun K hK => ?_) AllReady.nil
        go_simp
        with_reducible refine (CJ.out _ G2.out).mono ?_
        rintro e w3 ⟨rfl, hb3⟩
        have G3 := Lib.hid (G2.out.trans (hb3.mono G2.out.size))
        clear hb3
        go_simp
        refine hK _ _ ?_
        clear hK K
        try simp only [Act.put, List.setIfInBounds_toArray, List.set_cons_succ, List.set_cons_zero]
        refine wpAny_ready (rs := [9]) (by kernel_rfl) (by simp) ?_
        refine AllReady.cons rfl (fun K hK => ?_) AllReady.nil
        refine step_wp rfl (wp_litG (d := some 20) rfl (.tmp 19) rfl rfl HL32.out ?_)
        refine hK _ _ ?_
        clear hK K
        try simp only [Act.put, List.setIfInBounds_toArray, List.set_cons_succ, List.set_cons_zero]
        refine wpAny_ready (rs := [10]) (by kernel_rfl) (by simp) ?_
        refine AllReady.cons rfl (fun K hK => ?_) AllReady.nil
        refine step_wp rfl (wp_appG (d := some 21) rfl (.tmp 11) (.tmp 20) rfl rfl ((OD.out.later G3.out).later ((Below.refl _ _).alloc (Nat.le_refl _) _)) rfl HJ.out (Ro.new _ _ _) (by have := HI.out; omega) ?_)
        intro A6 c6 w6 hc6 O6
        have H6 := Lib.hid O6
        clear O6
        refine hK _ _ ?_
        clear hK K
        try simp only [Act.put, List.setIfInBounds_toArray, List.set_cons_succ, List.set_cons_zero]
        refine wpAny_ready (rs := [11]) (by kernel_rfl) (by simp) ?_
        refine AllReady.cons rfl (fun K hK => ?_) AllReady.nil
        go_simp
        refine hK _ _ ?_
        clear hK K
        try simp only [Act.put, List.setIfInBounds_toArray, List.set_cons_succ, List.set_cons_zero]
        refine wpAny_done (by kernel_rfl) ?_ _
        go_wp2_with fail
        exact ⟨⟨j + 1, i + 2, by go_num, by have := HI.out; omega, by omega, by rw [TK.out]; exact H6.out⟩, by simp [intOf]; omega⟩
    · obtain rfl : j = m := by have := HI.out; have := HM.out; omega
      rw [List.take_of_length_le (by rw [up_len, HN.out, HM.out]; exact Nat.le_refl _)] at HO
      have t1 : decide ((i : Int) < (n : Int)) = false := decide_eq_false (by omega)
      go_wp2_with fail
      go_ret
      exact ⟨_, _, rfl, HO.out⟩

set_option maxRecDepth 100000 in
set_option maxHeartbeats 4000000 in
theorem refAbove_any {A : Option Addr} {n c : Nat} {l : List (List Nat)} (w : World) (hn : n ≤ 1000000) (hL : Gs w A n l) : Calls Tryd.prog 26 #[.slice A n c] w fun e w' => ∃ A' c', e = .returned (.slice A' ((n + 1) / 2) c') ∧ OwnG w (.slice A' ((n + 1) / 2) c') ((n + 1) / 2) (up joinS l) w' := by
  have HL := Lib.hid hL
  have HN := Lib.hid hL.len
  have O0 := Lib.hid (OwnG.none_ (Below.refl w.heap.size w))

  obtain ⟨m, hm⟩ : ∃ m, (n + 1) / 2 = m := ⟨_, rfl⟩
  rw [hm]
  have HM := Lib.hid hm
  clear hL hm 
  go_enter Tryd.func26, Tryd.ntmps26
  go_wp2_with fail
  go_loopw [3, 4] (fun v i wr => ∃ j q : Nat, i = .int .i64 (q : Nat) ∧ q = 2 * j ∧ q ≤ n + 1 ∧ OwnG w v j ((up joinS l).take j) wr) (fun _ i _ => n - (intOf i).toNat)
  case atStart => exact ⟨0, 0, rfl, rfl, by omega, O0.out⟩
  case round =>
    clear O0
    obtain ⟨j, i, rfl, hi, hj, O⟩ := hrel
    obtain ⟨vA, vc, rfl, _⟩ := O.shape
    have HO := Lib.hid O
    have HI := Lib.hid hi
    clear O hi
    by_cases hlt : i < n
    · obtain ⟨b, o, rfl, hb, _⟩ := HL.out.cel (by omega)
      have ad := add_at b o
      have L0 := Lib.hid (show b < wr.drew.heap.size from Nat.lt_of_lt_of_le hb HO.out.bel.size)
      have OD := Lib.hid (HO.out.later (Below.refl _ _).drew)
      have HD1 := Lib.hid (HL.out.later OD.out.bel)
      have R0 := Lib.hid ((HD1.out.at_ hlt).2)
      have ok0 := Lib.hid (nt_ok HL.out.ok (k := i) (by rw [HN.out]; exact hlt))
      have ll := Lib.hid (show (vals (nt l i)).length = 32 by rw [vals_length]; exact ok0.out.1)
      have TK : Hid ((up joinS l).take (j + 1) = (up joinS l).take j ++ [joinS (nt l i) (mate l i)]) := Lib.hid (by
        have e := HI.out
        rw [take_nt (by rw [up_len, HN.out]; omega), ← up_even joinS (l := l) (k := i) (by rw [HN.out]; exact hlt) (by omega), show i / 2 = j by omega])
      have okm : Hid ((mate l i).length = 32 ∧ AllB (mate l i)) := Lib.hid (by
        have e := HI.out
        unfold mate
        rw [if_pos (by omega)]
        split
        · exact nt_ok HL.out.ok (by omega)
        · exact ok0.out)
      have CP : Hid (∀ u, Below wr.drew.heap.size wr.drew u → Calls Tryd.prog 25 #[.slice (some ⟨b, o, none⟩) n c, .int .i64 ((i : Int) + 1)] u fun e w' => e = .returned (.agg (vals (mate l i)).toArray) ∧ Below u.heap.size u w') := Lib.hid (fun u g => by
        have q := at_any (k := i + 1) u rfl (by omega) hn (HD1.out.later g) (c := c)
        rw [show ((i + 1 : Nat) : Int) = (i : Int) + 1 by omega] at q
        have e := HI.out
        unfold mate
        rw [if_pos (by omega), HN.out]
        by_cases h1 : i + 1 < n
        · rw [if_pos h1]
          rwa [show min (i + 1) (n - 1) = i + 1 by omega] at q
        · rw [if_neg h1]
          rwa [show min (i + 1) (n - 1) = i by omega] at q)
      have y9 : IntKind.i64.wrap ((i : Int) + 1) = (i : Int) + 1 := by rw [IntWalk.i64_in _ (by omega)]
      have CJ : Hid (∀ u, Below wr.drew.heap.size wr.drew u → Calls Tryd.prog 13 #[.agg (vals (nt l i)).toArray, .agg (vals (mate l i)).toArray] u fun e w' => e = .returned (.agg (vals (joinS (nt l i) (mate l i))).toArray) ∧ Below u.heap.size u w') := Lib.hid (fun u g => refJoin_any ok0.out okm.out u)
      have HJ : Hid ((joinS (nt l i) (mate l i)).length = 32 ∧ AllB (joinS (nt l i) (mate l i))) := Lib.hid (joinS_ok _ _)
      have HL32 : Hid ((vals (joinS (nt l i) (mate l i))).length = 32) := Lib.hid (by rw [vals_length]; exact HJ.out.1)
      obtain ⟨I, hI⟩ : ∃ I, joinS (nt l i) (mate l i) = I := ⟨_, rfl⟩
      rw [hI] at TK CJ HJ HL32
      obtain ⟨x, hx⟩ : ∃ x, nt l i = x := ⟨_, rfl⟩
      rw [hx] at R0 ll CJ
      obtain ⟨y, hy⟩ : ∃ y, mate l i = y := ⟨_, rfl⟩
      rw [hy] at CP CJ
      clear hI hx hy ok0 okm hb
      have t1 : decide ((i : Int) < (n : Int)) = true := decide_eq_true (by omega)
      go_wp2_with fail
      refine wp_region_any (by kernel_rfl) ?_
      change wpAny _ _ _ _ _ _ _ (World.drew _)
      refine wpAny_take (i := 0) (v := ?_) rfl (by kernel_rfl) (by kernel_rfl) (by kernel_rfl) (fun _ _ _ h => h) (Or.inl ⟨by rfl, ?_⟩) ?_
      rotate_left
      · intro w
        go_simp
        with_reducible rfl
      show wpAny _ _ _ _ _ _ (Act.put _ (some 11) _) _
      simp only [Act.put, List.setIfInBounds_toArray, List.set_cons_succ, List.set_cons_zero]
      refine wpAny_take (i := 1) (v := ?_) rfl (by kernel_rfl) (by kernel_rfl) (by kernel_rfl) (fun _ _ _ h => h) (Or.inl ⟨by rfl, ?_⟩) ?_
      rotate_left
      · intro w
        go_simp
        with_reducible rfl
      show wpAny _ _ _ _ _ _ (Act.put _ (some 12) _) _
      simp only [Act.put, List.setIfInBounds_toArray, List.set_cons_succ, List.set_cons_zero]
      refine wpAny_take (i := 2) (v := ?_) rfl (by kernel_rfl) (by kernel_rfl) (by kernel_rfl) (fun _ _ _ h => h) (Or.inl ⟨by rfl, ?_⟩) ?_
      rotate_left
      · intro w
        go_simp
        with_reducible rfl
      show wpAny _ _ _ _ _ _ (Act.put _ (some 13) _) _
      simp only [Act.put, List.setIfInBounds_toArray, List.set_cons_succ, List.set_cons_zero]
      refine wpAny_take (i := 5) (v := ?_) rfl (by kernel_rfl) (by kernel_rfl) (by kernel_rfl) (fun _ _ _ h => h) (Or.inl ⟨by rfl, ?_⟩) ?_
      rotate_left
      · intro w
        go_simp
        with_reducible rfl
      show wpAny _ _ _ _ _ _ (Act.put _ (some 16) _) _
      simp only [Act.put, List.setIfInBounds_toArray, List.set_cons_succ, List.set_cons_zero]
      refine wpAny_take (i := 6) (v := ?_) rfl (by kernel_rfl) (by kernel_rfl) (by kernel_rfl) (fun _ _ _ h => h) (Or.inl ⟨by rfl, ?_⟩) ?_
      rotate_left
      · intro w
        go_simp
        with_reducible rfl
      show wpAny _ _ _ _ _ _ (Act.put _ (some 17) _) _
      simp only [Act.put, List.setIfInBounds_toArray, List.set_cons_succ, List.set_cons_zero]
      refine wpAny_take (i := 3) (v := ?_) rfl (by kernel_rfl) (by kernel_rfl) (by kernel_rfl) (fun _ _ _ h => h) (Or.inl ⟨by rfl, ?_⟩) ?_
      rotate_left
      · intro w
        go_simp
        with_reducible rfl
      show wpAny _ _ _ _ _ _ (Act.put _ (some 14) _) _
      simp only [Act.put, List.setIfInBounds_toArray, List.set_cons_succ, List.set_cons_zero]
      refine wpAny_take (i := 7) (v := ?_) rfl (by kernel_rfl) (by kernel_rfl) (by kernel_rfl) (fun _ _ _ h => h) (Or.inl ⟨by rfl, ?_⟩) ?_
      rotate_left
      · intro w
        go_simp
        with_reducible rfl
      show wpAny _ _ _ _ _ _ (Act.put _ (some 18) _) _
      simp only [Act.put, List.setIfInBounds_toArray, List.set_cons_succ, List.set_cons_zero]
      refine wpAny_ready (rs := [4, 8]) (by kernel_rfl) (by simp) ?_
      refine AllReady.cons rfl (fun K hK => ?_) (AllReady.cons rfl (fun K hK => ?_) AllReady.nil)
      · skip
        refine step_wp rfl (wp_load_part (d := some 15) rfl (.tmp 14) rfl rfl row26 R0.out ll.out ?_)
        refine hK _ _ ?_
        clear hK K
        try simp only [Act.put, List.setIfInBounds_toArray, List.set_cons_succ, List.set_cons_zero]
        refine wpAny_ready (rs := [8]) (by kernel_rfl) (by simp) ?_
        refine AllReady.cons rfl (fun K hK => ?_) AllReady.nil
        go_simp
        with_reducible refine (CP.out _ (Below.refl _ _)).mono ?_
        rintro e w2 ⟨rfl, hb2⟩
        have G2 := Lib.hid hb2
        clear hb2
        go_simp
        refine hK _ _ ?_
        clear hK K
        try simp only [Act.put, List.setIfInBounds_toArray, List.set_cons_succ, List.set_cons_zero]
        refine wpAny_ready (rs := [9]) (by kernel_rfl) (by simp) ?_
        refine AllReady.cons rfl (fun K hK => ?_) AllReady.nil
        go_simp
        with_reducible refine (CJ.out _ G2.out).mono ?_
        rintro e w3 ⟨rfl, hb3⟩
        have G3 := Lib.hid (G2.out.trans (hb3.mono G2.out.size))
        clear hb3
        go_simp
        refine hK _ _ ?_
        clear hK K
        try simp only [Act.put, List.setIfInBounds_toArray, List.set_cons_succ, List.set_cons_zero]
        refine wpAny_ready (rs := [10]) (by kernel_rfl) (by simp) ?_
        refine AllReady.cons rfl (fun K hK => ?_) AllReady.nil
        refine step_wp rfl (wp_litG (d := some 21) rfl (.tmp 20) rfl rfl HL32.out ?_)
        refine hK _ _ ?_
        clear hK K
        try simp only [Act.put, List.setIfInBounds_toArray, List.set_cons_succ, List.set_cons_zero]
        refine wpAny_ready (rs := [11]) (by kernel_rfl) (by simp) ?_
        refine AllReady.cons rfl (fun K hK => ?_) AllReady.nil
        refine step_wp rfl (wp_appG (d := some 22) rfl (.tmp 11) (.tmp 21) rfl rfl ((OD.out.later G3.out).later ((Below.refl _ _).alloc (Nat.le_refl _) _)) rfl HJ.out (Ro.new _ _ _) (by have := HI.out; omega) ?_)
        intro A6 c6 w6 hc6 O6
        have H6 := Lib.hid O6
        clear O6
        refine hK _ _ ?_
        clear hK K
        try simp only [Act.put, List.setIfInBounds_toArray, List.set_cons_succ, List.set_cons_zero]
        refine wpAny_ready (rs := [12]) (by kernel_rfl) (by simp) ?_
        refine AllReady.cons rfl (fun K hK => ?_) AllReady.nil
        go_simp
        refine hK _ _ ?_
        clear hK K
        try simp only [Act.put, List.setIfInBounds_toArray, List.set_cons_succ, List.set_cons_zero]
        refine wpAny_done (by kernel_rfl) ?_ _
        go_wp2_with fail
        exact ⟨⟨j + 1, i + 2, by go_num, by have := HI.out; omega, by omega, by rw [TK.out]; exact H6.out⟩, by simp [intOf]; omega⟩
      · go_simp
        with_reducible refine (CP.out _ (Below.refl _ _)).mono ?_
        rintro e w2 ⟨rfl, hb2⟩
        have G2 := Lib.hid hb2
        clear hb2
        go_simp
        refine hK _ _ ?_
        clear hK K
        try simp only [Act.put, List.setIfInBounds_toArray, List.set_cons_succ, List.set_cons_zero]
        refine wpAny_ready (rs := [4]) (by kernel_rfl) (by simp) ?_
        refine AllReady.cons rfl (fun K hK => ?_) AllReady.nil
        skip
        refine step_wp rfl (wp_load_part (d := some 15) rfl (.tmp 14) rfl rfl row26 (range_later R0.out L0.out G2.out) ll.out ?_)
        refine hK _ _ ?_
        clear hK K
        try simp only [Act.put, List.setIfInBounds_toArray, List.set_cons_succ, List.set_cons_zero]
        refine wpAny_ready (rs := [9]) (by kernel_rfl) (by simp) ?_
        refine AllReady.cons rfl (fun K hK => ?_) AllReady.nil
        go_simp
        with_reducible refine (CJ.out _ G2.out).mono ?_
        rintro e w3 ⟨rfl, hb3⟩
        have G3 := Lib.hid (G2.out.trans (hb3.mono G2.out.size))
        clear hb3
        go_simp
        refine hK _ _ ?_
        clear hK K
        try simp only [Act.put, List.setIfInBounds_toArray, List.set_cons_succ, List.set_cons_zero]
        refine wpAny_ready (rs := [10]) (by kernel_rfl) (by simp) ?_
        refine AllReady.cons rfl (fun K hK => ?_) AllReady.nil
        refine step_wp rfl (wp_litG (d := some 21) rfl (.tmp 20) rfl rfl HL32.out ?_)
        refine hK _ _ ?_
        clear hK K
        try simp only [Act.put, List.setIfInBounds_toArray, List.set_cons_succ, List.set_cons_zero]
        refine wpAny_ready (rs := [11]) (by kernel_rfl) (by simp) ?_
        refine AllReady.cons rfl (fun K hK => ?_) AllReady.nil
        refine step_wp rfl (wp_appG (d := some 22) rfl (.tmp 11) (.tmp 21) rfl rfl ((OD.out.later G3.out).later ((Below.refl _ _).alloc (Nat.le_refl _) _)) rfl HJ.out (Ro.new _ _ _) (by have := HI.out; omega) ?_)
        intro A6 c6 w6 hc6 O6
        have H6 := Lib.hid O6
        clear O6
        refine hK _ _ ?_
        clear hK K
        try simp only [Act.put, List.setIfInBounds_toArray, List.set_cons_succ, List.set_cons_zero]
        refine wpAny_ready (rs := [12]) (by kernel_rfl) (by simp) ?_
        refine AllReady.cons rfl (fun K hK => ?_) AllReady.nil
        go_simp
        refine hK _ _ ?_
        clear hK K
        try simp only [Act.put, List.setIfInBounds_toArray, List.set_cons_succ, List.set_cons_zero]
        refine wpAny_done (by kernel_rfl) ?_ _
        go_wp2_with fail
        exact ⟨⟨j + 1, i + 2, by go_num, by have := HI.out; omega, by omega, by rw [TK.out]; exact H6.out⟩, by simp [intOf]; omega⟩
    · obtain rfl : j = m := by have := HI.out; have := HM.out; omega
      rw [List.take_of_length_le (by rw [up_len, HN.out, HM.out]; exact Nat.le_refl _)] at HO
      have t1 : decide ((i : Int) < (n : Int)) = false := decide_eq_false (by omega)
      go_wp2_with fail
      go_ret
      exact ⟨_, _, rfl, HO.out⟩
end Go.Proofs.YtdenibigefchpaaDoor
