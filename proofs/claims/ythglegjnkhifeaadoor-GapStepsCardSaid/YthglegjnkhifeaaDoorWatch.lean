  /- How many scripts are watched: the program's Watch and the reference's. No condition but a bound on how many numbers. -/
  import Derived.Test.YthglegjnkhifeaaDoorWat
  import Derived.Test.YthglegjnkhifeaaDoorMapB
  import Derived.WalkKit
  import Derived.Outline
  import Derived.OwnWalk
  namespace Go.Proofs.YthglegjnkhifeaaDoor
  open Go.RowKit

  theorem clean_snoc (U : List Int) (u g n : Int) : cleanAt (U ++ [u]) g n = (cleanAt U g n && !(decide (0 ≤ u) && decide (u < n) && decide (n - g ≤ u))) := by
    unfold cleanAt
    rw [List.all_append]
    simp

  section
  variable {w : World} {ops : Array Oper} {rest : List Oper} {o : Oper} {a : Act} {Q : Exit → Act → World → Prop}
  theorem wpList_maxI (hgd : o.guard = none) (s t : Operand) (ho : o.op = .call { callee := .builtin .max, args := #[s, t], argTypes := #[3, 3] }) {x y g : Int} (hs : a.eval s = .int .i64 x) (ht : a.eval t = .int .i64 y) (hg : max x y = g)
      (h : wpList Tryd.prog ops Q rest (a.put o.dst (.int .i64 g)) w) : wpList Tryd.prog ops Q (o :: rest) a w := by
    refine wpList_plain hgd fun K hK => ?_
    have e := hK _ _ h
    have key : (Builtin.max_ #[3, 3] o.type #[.int .i64 x, .int .i64 y]).run Tryd.prog w = .ok (.int .i64 g) w := by
      subst hg
      by_cases hxy : x < y
      · simp [Builtin.max_, Builtin.max2, hxy, Int.max_eq_right (Int.le_of_lt hxy)]
      · simp [Builtin.max_, Builtin.max2, hxy, Int.max_eq_left (Int.not_lt.1 hxy)]
    unfold Oper.wp
    simp [execOp, ho, resolve, invoke, builtin, hs, ht, key, Result.andThen]
    exact e
  end
  set_option maxRecDepth 100000 in
  set_option maxHeartbeats 4000000 in
  theorem watch_any {A : Option Addr} {n c : Nat} {L : List Int} {x : Int} (w : World) (hx : x ≤ 9223372036854775807) (hn : n ≤ 1000000) (hL : Is w A n L) : Calls Tryd.prog 12 #[.slice A n c, .int .i64 x] w fun e w' => e = .returned (.int .i64 (watchS L (max x 1) : Nat)) ∧ Below w.heap.size w w' := by
    have HL := Lib.hid hL
    have HN := Lib.hid hL.len
    have hmm := @run_makeMap Tryd.prog
    obtain ⟨g, hg⟩ : ∃ g, max x 1 = g := ⟨_, rfl⟩
    rw [hg]
    have g1 : 1 ≤ g := by omega
    have M0 := Lib.hid (MB.made w)
    have B0 := Lib.hid ((Below.refl w.heap.size w).alloc (Nat.le_refl _) (.map #[] 0))
    have S0 := Lib.hid (watchS_from (U := L) (g := g) 0 (by omega) (by omega)).symm
    clear hL
    go_enter Tryd.func12, Tryd.ntmps12
    go_wp2_with fail
    clear hmm
    go_loopw [13] (fun iv wr => ∃ j : Nat, iv = .int .i64 (j : Nat) ∧ j ≤ n ∧ MB wr w.heap.size (L.take j) ∧ Below w.heap.size w wr) (fun iv _ => n - (intOf iv).toNat)
    case atStart => exact ⟨0, rfl, Nat.zero_le _, M0.out, B0.out⟩
    case round =>
      clear M0 B0
      obtain ⟨j, rfl, hj, hM, hB⟩ := hrel
      have HM := Lib.hid hM
      have HB := Lib.hid hB
      clear hM hB
      by_cases hlt : j < n
      · have t1 : decide ((j : Int) < (n : Int)) = true := decide_eq_true (by omega)
        have LW := HL.out.later HB.out
        obtain ⟨b, o, rfl, hb, hc⟩ := LW.cel (by omega)
        have ad := add_at b o
        have c1 := hc j hlt
        have TK := Lib.hid (take_ith (L := L) (k := j) (by rw [HN.out]; exact hlt))
        obtain ⟨u, hu⟩ : ∃ u, ith L j = u := ⟨_, rfl⟩
        rw [hu] at c1 TK
        clear hu hb hc LW S0
        go_wp2_with (refine wpList_putB rfl (.tmp 17) (.tmp 18) rfl rfl rfl HM.out ?_)
        intro w2 M2 g2
        rw [← TK.out] at M2
        have HM2 := Lib.hid M2
        have HB2 := Lib.hid (HB.out.grown g2 HB.out.size (fun q e => by injection e; omega))
        clear M2 g2 HM HB c1
        go_wp2_with fail
        exact ⟨⟨j + 1, by go_num, by omega, HM2.out, HB2.out⟩, by simp [intOf]; omega⟩
      · obtain rfl : j = n := by omega
        have t1 : decide ((j : Int) < (j : Int)) = false := decide_eq_false (by omega)
        rw [List.take_of_length_le (by rw [HN.out]; exact Nat.le_refl _)] at HM
        have F0 := Lib.hid (free_zero L)
        go_wp2_with (refine wpList_maxI rfl (.tmp 20) (.const (.int .i64 1)) rfl rfl rfl hg ?_)
        go_loopw [8, 22] (fun fv iv wr => ∃ k F : Nat, iv = .int .i64 (k : Nat) ∧ fv = .int .i64 (F : Nat) ∧ k ≤ 200 ∧ FreeAt L k F ∧ watFrom L g k = watchS L g ∧ MB wr w.heap.size L ∧ Below w.heap.size w wr) (fun _ iv _ => 200 - (intOf iv).toNat)
        case atStart => exact ⟨0, 0, rfl, rfl, by omega, F0.out, S0.out, HM.out, HB.out⟩
        case round =>
          clear F0 S0 HM HB
          obtain ⟨k, F, rfl, rfl, hk, hF, hS, hM, hB⟩ := hrel
          have hfk := hF.le
          have HF := Lib.hid hF
          have HS := Lib.hid hS
          have HM := Lib.hid hM
          have HB := Lib.hid hB
          clear hF hS hM hB
          by_cases hlt : k < 200
          · have t2 : decide ((k : Int) < 200) = true := decide_eq_true (by omega)
            by_cases hgk : g ≤ (k : Int)
            · have t3 : decide (g ≤ (k : Int)) = true := decide_eq_true hgk
              have FC := free_clean HF.out g1 hgk
              by_cases hgf : g ≤ (F : Int)
              · have t4 : decide (g ≤ (F : Int)) = true := decide_eq_true hgf
                have SP := Lib.hid (watFrom_stop hlt hgk (FC.2 hgf))
                clear FC
                go_wp2_with fail
                go_ret
                exact ⟨by rw [← HS.out, SP.out]; rfl, HB.out⟩
              · have t4 : decide (g ≤ (F : Int)) = false := decide_eq_false hgf
                have NX := Lib.hid (show watFrom L g (k + 1) = watchS L g by rw [← watFrom_next hlt (fun h => hgf (FC.1 h.2))]; exact HS.out)
                clear FC
                by_cases hm : (k : Int) ∈ L
                · have t5 : decide ((k : Int) ∈ L) = true := decide_eq_true hm
                  have FN := Lib.hid (free_none hm)
                  clear hm HF
                  go_wp2_with (refine wpList_lookB rfl (.tmp 36) (.tmp 37) rfl rfl rfl HM.out t5 ?_)
                  exact ⟨⟨k + 1, 0, by go_num, rfl, by omega, FN.out, NX.out, HM.out, HB.out⟩, by simp [intOf]; omega⟩
                · have t5 : decide ((k : Int) ∈ L) = false := decide_eq_false hm
                  have FN := Lib.hid (free_more HF.out hm)
                  clear hm HF
                  go_wp2_with (refine wpList_lookB rfl (.tmp 36) (.tmp 37) rfl rfl rfl HM.out t5 ?_)
                  exact ⟨⟨k + 1, F + 1, by go_num, by go_num, by omega, FN.out, NX.out, HM.out, HB.out⟩, by simp [intOf]; omega⟩
            · have t3 : decide (g ≤ (k : Int)) = false := decide_eq_false hgk
              have NX := Lib.hid (show watFrom L g (k + 1) = watchS L g by rw [← watFrom_next hlt (fun h => hgk h.1)]; exact HS.out)
              by_cases hm : (k : Int) ∈ L
              · have t5 : decide ((k : Int) ∈ L) = true := decide_eq_true hm
                have FN := Lib.hid (free_none hm)
                clear hm HF
                go_wp2_with (refine wpList_lookB rfl (.tmp 36) (.tmp 37) rfl rfl rfl HM.out t5 ?_)
                exact ⟨⟨k + 1, 0, by go_num, rfl, by omega, FN.out, NX.out, HM.out, HB.out⟩, by simp [intOf]; omega⟩
              · have t5 : decide ((k : Int) ∈ L) = false := decide_eq_false hm
                have FN := Lib.hid (free_more HF.out hm)
                clear hm HF
                go_wp2_with (refine wpList_lookB rfl (.tmp 36) (.tmp 37) rfl rfl rfl HM.out t5 ?_)
                exact ⟨⟨k + 1, F + 1, by go_num, by go_num, by omega, FN.out, NX.out, HM.out, HB.out⟩, by simp [intOf]; omega⟩
          · obtain rfl : k = 200 := by omega
            have SP := Lib.hid HS.out
            rw [watFrom_end] at SP
            go_wp2_with fail
            go_ret
            exact ⟨by rw [← SP.out]; rfl, HB.out⟩
set_option maxRecDepth 100000 in
set_option maxHeartbeats 4000000 in
theorem refWatch_any {A : Option Addr} {n c : Nat} {L : List Int} {x : Int} (w : World) (hx : x ≤ 9223372036854775807) (hn : n ≤ 1000000) (hL : Is w A n L) : Calls Tryd.prog 13 #[.slice A n c, .int .i64 x] w fun e w' => e = .returned (.int .i64 (watchS L (max x 1) : Nat)) ∧ Below w.heap.size w w' := by
  have HL := Lib.hid hL
  have HN := Lib.hid hL.len
  obtain ⟨g, hg⟩ : ∃ g, max x 1 = g := ⟨_, rfl⟩
  rw [hg]
  have g1 : 1 ≤ g := by omega
  have B0 := Lib.hid (Below.refl w.heap.size w)
  clear hL
  by_cases hbig : 200 ≤ g
  · have t1 : decide (g < 200) = false := decide_eq_false (by omega)
    have SP := Lib.hid (watchS_from (U := L) (g := g) 200 (Nat.le_refl _) (by omega))
    rw [watFrom_end] at SP
    go_enter Tryd.func13, Tryd.ntmps13
    go_wp2_with (refine wpList_maxI rfl (.tmp 8) (.const (.int .i64 1)) rfl rfl rfl hg ?_)
    go_loopw [5] (fun iv wr => iv = .int .i64 g ∧ Below w.heap.size w wr) (fun _ _ => 0)
    case atStart => exact ⟨rfl, B0.out⟩
    case round =>
      obtain ⟨rfl, hB⟩ := hrel
      have HB := Lib.hid hB
      clear hB
      go_wp2_with fail
      go_ret
      exact ⟨by rw [SP.out]; rfl, HB.out⟩
  · obtain ⟨γ, rfl⟩ : ∃ γ : Nat, g = (γ : Int) := ⟨g.toNat, by omega⟩
    have S0 := Lib.hid (watchS_from (U := L) (g := (γ : Int)) γ (by omega) (Int.le_refl _)).symm
    go_enter Tryd.func13, Tryd.ntmps13
    go_wp2_with (refine wpList_maxI rfl (.tmp 8) (.const (.int .i64 1)) rfl rfl rfl hg ?_)
    go_loopw [5] (fun iv wr => ∃ k : Nat, iv = .int .i64 (k : Nat) ∧ γ ≤ k ∧ k ≤ 200 ∧ watFrom L (γ : Int) k = watchS L (γ : Int) ∧ Below w.heap.size w wr) (fun iv _ => 200 - (intOf iv).toNat)
    case atStart => exact ⟨γ, rfl, Nat.le_refl _, by omega, S0.out, B0.out⟩
    case round =>
      clear S0 B0 hg
      obtain ⟨k, rfl, hgk, hk, hS, hB⟩ := hrel
      have HS := Lib.hid hS
      have HB := Lib.hid hB
      clear hS hB
      by_cases hlt : k < 200
      · have t2 : decide ((k : Int) < 200) = true := decide_eq_true (by omega)
        have y1 : IntKind.i64.wrap ((k : Int) - (γ : Int)) = (k : Int) - (γ : Int) := by rw [IntWalk.i64_in _ (by omega)]
        go_wp2_with fail
        go_loopw [6, 7] (fun bv iv wr => ∃ (j : Nat) (b : Bool), bv = .bool b ∧ iv = .int .i64 (j : Nat) ∧ j ≤ n ∧ cleanAt (L.take j) (γ : Int) (k : Int) = b ∧ Below w.heap.size w wr) (fun _ iv _ => n - (intOf iv).toNat)
        case atStart => exact ⟨0, true, rfl, rfl, Nat.zero_le _, rfl, HB.out⟩
        case round =>
          clear HB
          obtain ⟨j, b, rfl, rfl, hj, hC, hB⟩ := hrel
          have HC := Lib.hid hC
          have HB := Lib.hid hB
          clear hC hB
          by_cases hlj : j < n
          · have t3 : decide ((j : Int) < (n : Int)) = true := decide_eq_true (by omega)
            have LW := HL.out.later HB.out
            obtain ⟨bb, o, rfl, hb, hc⟩ := LW.cel (by omega)
            have ad := add_at bb o
            have c1 := hc j hlj
            have TK := take_ith (L := L) (k := j) (by rw [HN.out]; exact hlj)
            obtain ⟨u, hu⟩ : ∃ u, ith L j = u := ⟨_, rfl⟩
            rw [hu] at c1 TK
            have NC : Hid (cleanAt (L.take (j + 1)) (γ : Int) (k : Int) = (b && !(decide (0 ≤ u) && decide (u < (k : Int)) && decide ((k : Int) - (γ : Int) ≤ u)))) := Lib.hid (by rw [TK, clean_snoc, HC.out])
            clear hu hb hc LW TK HC
            by_cases h1 : 0 ≤ u
            · have q1 : decide (0 ≤ u) = true := decide_eq_true h1
              by_cases h2 : u < (k : Int)
              · have q2 : decide (u < (k : Int)) = true := decide_eq_true h2
                by_cases h3 : (k : Int) - (γ : Int) ≤ u
                · have q3 : decide ((k : Int) - (γ : Int) ≤ u) = true := decide_eq_true h3
                  have NB : Hid (cleanAt (L.take (j + 1)) (γ : Int) (k : Int) = false) := Lib.hid (by rw [NC.out, q1, q2, q3]; simp)
                  clear NC
                  go_wp2_with fail
                  exact ⟨⟨j + 1, false, rfl, by go_num, by omega, NB.out, HB.out⟩, by simp [intOf]; omega⟩
                · have q3 : decide ((k : Int) - (γ : Int) ≤ u) = false := decide_eq_false h3
                  have NB : Hid (cleanAt (L.take (j + 1)) (γ : Int) (k : Int) = b) := Lib.hid (by rw [NC.out, q3]; simp)
                  clear NC
                  go_wp2_with fail
                  exact ⟨⟨j + 1, b, rfl, by go_num, by omega, NB.out, HB.out⟩, by simp [intOf]; omega⟩
              · have q2 : decide (u < (k : Int)) = false := decide_eq_false h2
                have NB : Hid (cleanAt (L.take (j + 1)) (γ : Int) (k : Int) = b) := Lib.hid (by rw [NC.out, q2]; simp)
                clear NC
                go_wp2_with fail
                exact ⟨⟨j + 1, b, rfl, by go_num, by omega, NB.out, HB.out⟩, by simp [intOf]; omega⟩
            · have q1 : decide (0 ≤ u) = false := decide_eq_false h1
              have NB : Hid (cleanAt (L.take (j + 1)) (γ : Int) (k : Int) = b) := Lib.hid (by rw [NC.out, q1]; simp)
              clear NC
              go_wp2_with fail
              exact ⟨⟨j + 1, b, rfl, by go_num, by omega, NB.out, HB.out⟩, by simp [intOf]; omega⟩
          · obtain rfl : j = n := by omega
            have t3 : decide ((j : Int) < (j : Int)) = false := decide_eq_false (by omega)
            rw [List.take_of_length_le (by rw [HN.out]; exact Nat.le_refl _)] at HC
            cases b with
            | true =>
              have SP := Lib.hid (watFrom_stop hlt (show (γ : Int) ≤ (k : Int) by omega) HC.out)
              go_wp2_with fail
              go_ret
              exact ⟨by rw [← HS.out, SP.out]; rfl, HB.out⟩
            | false =>
              have NX := Lib.hid (show watFrom L (γ : Int) (k + 1) = watchS L (γ : Int) by rw [← watFrom_next hlt (fun h => by rw [HC.out] at h; cases h.2)]; exact HS.out)
              go_wp2_with fail
              exact ⟨⟨k + 1, by go_num, by omega, by omega, NX.out, HB.out⟩, by simp [intOf]; omega⟩
      · obtain rfl : k = 200 := by omega
        have SP := Lib.hid HS.out
        rw [watFrom_end] at SP
        go_wp2_with fail
        go_ret
        exact ⟨by rw [← SP.out]; rfl, HB.out⟩
end Go.Proofs.YthglegjnkhifeaaDoor
