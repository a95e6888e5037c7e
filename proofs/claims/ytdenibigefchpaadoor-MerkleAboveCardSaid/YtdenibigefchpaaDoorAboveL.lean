/- MerkleAbove: the root of an even number of hashes is the root of the row above them; a branch of a hash is its partner, and the branch of the one above it. No condition but that the tables lie as laid. -/
import Derived.Test.YtdenibigefchpaaDoorTwin
import Derived.Test.YtdenibigefchpaaDoorOpenG
namespace Go.Proofs.YtdenibigefchpaaDoor
open Go.ChangeShapes Go.WideShapes Go.ChangeAt Go.RowKit Go.ChangeMaps

theorem Tryd.cellsPair : Tryd.prog.cellsOf 47 = 64 := by kernel_rfl
theorem flat_cons (p : List Nat × List Nat) (t : List (List Nat × List Nat)) : flat (p :: t) = p.1 :: p.2 :: flat t := rfl
def OkP (l : List (List Nat × List Nat)) : Prop := ∀ p ∈ l, (p.1.length = 32 ∧ AllB p.1) ∧ (p.2.length = 32 ∧ AllB p.2)
theorem okP_flat : ∀ l, OkP l → OkG (flat l)
  | [], _ => okG_nil
  | p :: t, h => OkG.app (a := [p.1]) (okG_one (h p List.mem_cons_self).1) (OkG.app (a := [p.2]) (okG_one (h p List.mem_cons_self).2) (okP_flat t fun x hx => h x (List.mem_cons_of_mem _ hx)))
section
variable {H : Type} {enc : TypeId × Value → H} {W : World} {base : Nat} {v : Value} {d : DataW H} {p : List MemPlace} {spare : Nat → Bool} {held : Bool} {fuel : Nat} {cs : List Value} {x : DataW H × List MemPlace}
theorem trod_pair (h : DataW.trod enc Tryd.prog W 0 spare held fuel 47 cs = some x) : ∃ q : List Nat × List Nat, ((q.1.length = 32 ∧ AllB q.1) ∧ (q.2.length = 32 ∧ AllB q.2)) ∧ cs = vals q.1 ++ vals q.2 := by
  obtain ⟨xs, m, _, _, hcl, hxl, hx⟩ := Go.DataW.trod_array Tryd.underlying47 h
  rw [Tryd.cellsPair] at hcl
  have g0 := hx 0 (by decide)
  have g1 := hx 1 (by decide)
  rw [Tryd.cellsHash, List.getElem?_eq_getElem (by omega)] at g0 g1
  obtain ⟨L0, a0, b0, e0⟩ := trod_hash g0
  obtain ⟨L1, a1, b1, e1⟩ := trod_hash g1
  refine ⟨(L0, L1), ⟨⟨a0, b0⟩, ⟨a1, b1⟩⟩, ?_⟩
  rw [← e0, ← e1, Nat.zero_mul, List.drop_zero, Nat.one_mul, List.take_of_length_le (l := cs.drop 32) (by rw [List.length_drop]; omega), List.take_append_drop]
theorem range_ps {w : World} {b : Nat} : ∀ (l : List (List Nat × List Nat)) (o : Nat), OkP l → (∀ i (hi : i < l.length), w.rangeAt b (o + i * 64) (vals l[i].1 ++ vals l[i].2)) → w.rangeAt b o (gsV (flat l))
  | [], _, _, _ => fun j v hv => by simp [gsV, flat] at hv
  | q :: t, o, k, hi => by
    have hq := k q List.mem_cons_self
    have h0 := hi 0 (by simp)
    rw [Nat.zero_mul, Nat.add_zero] at h0
    have hr := range_ps t (o + 64) (fun x hx => k x (List.mem_cons_of_mem _ hx)) (fun i hlt => by
      have := hi (i + 1) (by simp; omega)
      rw [show o + (i + 1) * 64 = o + 64 + i * 64 by omega] at this
      exact this)
    rw [flat_cons, gsV, gsV, ← List.append_assoc]
    intro j v hv
    by_cases hj : j < 64
    · rw [List.getElem?_append_left (by rw [List.length_append, vals_length, vals_length, hq.1.1, hq.2.1]; exact hj)] at hv
      exact h0 j v hv
    · rw [List.getElem?_append_right (by rw [List.length_append, vals_length, vals_length, hq.1.1, hq.2.1]; omega), List.length_append, vals_length, vals_length, hq.1.1, hq.2.1] at hv
      have := hr (j - 64) v hv
      rwa [show o + 64 + (j - 64) = o + j by omega] at this
theorem open_bl (hv : Value.okWide Tryd.prog W .any base 4 v) (h : DataW.Trod enc Tryd.prog W 0 (fun _ => true) true 4 v d p) : ∃ b : Bool, True ∧ v = .bool b := by
  obtain ⟨b, rfl, _⟩ := Go.RowKit.open_bool Tryd.underlying4 hv h
  exact ⟨b, trivial, rfl⟩
theorem open_pairs (hv : Value.okWide Tryd.prog W .any base 46 v) (h : DataW.Trod enc Tryd.prog W 0 (fun _ => true) true 46 v d p) :
    ∃ (A : Option Addr) (n c : Nat) (l : List (List Nat × List Nat)), (n ≤ c ∧ c ≤ 9223372036854775807 ∧ (l.length = n ∧ Gs W A (2 * n) (flat l))) ∧ v = .slice A n c := by
  obtain ⟨fuel, hf⟩ := h
  obtain ⟨A, n, c, rfl⟩ := okWide_slice Tryd.underlying46 hv
  rcases Deep.open_slice Tryd.underlying46 hf with ⟨e, _⟩ | ⟨a, len, cap, m, fu, D, Pl, e, _, hlc, hcm, hm, _, hx⟩
  · simp [Value.cells] at e
    obtain ⟨rfl, rfl, rfl⟩ := e
    exact ⟨none, 0, 0, [], ⟨Nat.le_refl _, by omega, rfl, Gs.nil _ _⟩, rfl⟩
  · simp [Value.cells] at e
    obtain ⟨rfl, rfl, rfl⟩ := e
    have hm' : n ≤ m := by rw [hm]; split <;> omega
    have each : ∀ i, i < n → ∃ q : List Nat × List Nat, ((q.1.length = 32 ∧ AllB q.1) ∧ (q.2.length = 32 ∧ AllB q.2)) ∧ ∀ j u, (vals q.1 ++ vals q.2)[j]? = some u → W.cell? ((a.add (i * 64)).add j) = some u := fun i hi => by
      obtain ⟨cs', h1, h2⟩ := hx i (by omega)
      rw [Tryd.cellsPair] at h1
      obtain ⟨_, hl, hc⟩ := World.cells?_some h1
      obtain ⟨q, hq1, e⟩ := trod_pair h2
      refine ⟨q, hq1, fun j u hq => ?_⟩
      have hq2 := (List.getElem?_eq_some_iff.1 hq).1
      rw [hc j (by rw [← hl, e]; exact hq2), e]
      exact hq
    obtain ⟨f, hf'⟩ := Deep.choose_lt (α := List Nat × List Nat) (p := fun i q => ((q.1.length = 32 ∧ AllB q.1) ∧ (q.2.length = 32 ∧ AllB q.2)) ∧ ∀ j u, (vals q.1 ++ vals q.2)[j]? = some u → W.cell? ((a.add (i * 64)).add j) = some u) each
    have okp : OkP ((List.range n).map f) := fun q hq => by
      simp only [List.mem_map, List.mem_range] at hq
      obtain ⟨i, hi, rfl⟩ := hq
      exact (hf' i hi).1
    refine ⟨some a, n, c, (List.range n).map f, ⟨hlc, by unfold maxLen at hcm; omega, by simp, by rw [flat_len]; simp, okP_flat _ okp, fun hn => ?_⟩, rfl⟩
    have hn0 : 0 < n := by omega
    have c0 := (hf' 0 hn0).2 0 _ (by rw [List.getElem?_append_left (by rw [vals_length, (hf' 0 hn0).1.1.1]; decide)]; exact vals_get (f 0).1 0 (by rw [(hf' 0 hn0).1.1.1]; decide))
    have e0 : (a.add (0 * 64)).add 0 = a := rfl
    rw [e0] at c0
    obtain ⟨b, o, rfl⟩ : ∃ b o, a = ⟨b, o, none⟩ := by
      unfold World.cell? at c0
      split at c0
      · split at c0
        · cases c0
        · rename_i hs
          obtain ⟨b, o, s⟩ := a
          cases s with
          | none => exact ⟨b, o, rfl⟩
          | some x => simp at hs
      · cases c0
    refine ⟨b, o, rfl, World.block_lt_of_cell? _ _ c0, range_ps _ _ okp (fun i hi => ?_)⟩
    have hi' : i < n := by simpa using hi
    have e : ((List.range n).map f)[i] = f i := by simp
    rw [e]
    intro q u hq
    have := (hf' i hi').2 q u hq
    rwa [add_at, add_at] at this
end
end Go.Proofs.YtdenibigefchpaaDoor

namespace Go.Proofs.YtdenibigefchpaaDoor
open Go.RowKit

theorem take_pr {l : List (List Nat × List Nat)} {j : Nat} (h : j < l.length) : l.take (j + 1) = l.take j ++ [pr l j] := by
  rw [List.take_succ_eq_append_getElem h]
  simp [pr, List.getD, h]
theorem flat_next {l : List (List Nat × List Nat)} {j : Nat} (h : j < l.length) : flat (l.take (j + 1)) = flat (l.take j) ++ [(pr l j).1, (pr l j).2] := by
  rw [take_pr h, flat_app]; rfl
theorem map_next {l : List (List Nat × List Nat)} {j : Nat} (h : j < l.length) : (l.take (j + 1)).map (fun p => joinS p.1 p.2) = (l.take j).map (fun p => joinS p.1 p.2) ++ [joinS (pr l j).1 (pr l j).2] := by
  rw [take_pr h, List.map_append]; rfl
theorem OwnG.apart {w W W' : World} {v : Value} {n : Nat} {l : List (List Nat)} (h : OwnG w v n l W) {row : Option Nat} (hg : W.grownBy W' row) (hr : ∀ q, row = some q → w.heap.size ≤ q) (hv : ∀ q, row = some q → v.ownBlock ≠ some q) : OwnG w v n l W' := by
  refine ⟨?_, h.ok, h.bel.grown hg h.bel.size hr⟩
  refine h.row.kept (row := row) hg ?_
  cases hv' : v.ownBlock with
  | none => exact .inl rfl
  | some q => exact .inr (fun e => hv q (by rw [← e]) hv')
/-- Two rows that grow side by side. -/
structure AbA (w : World) (m j : Nat) (R U : List (List Nat)) (v u : Value) (W : World) : Prop where
  o7 : OwnG w v m R W
  o8 : OwnG w u j U W
  ne : ∀ q, v.ownBlock = some q → u.ownBlock ≠ some q
section
variable {w W W' : World} {m j : Nat} {R U : List (List Nat)} {v u : Value}
theorem AbA.later (h : AbA w m j R U v u W) (g : Below W.heap.size W W') : AbA w m j R U v u W' := ⟨h.o7.later g, h.o8.later g, h.ne⟩
theorem AbA.app7 (h : AbA w m j R U v u W) {m' : Nat} {R' : List (List Nat)} {v' : Value} (O : OwnG w v' m' R' W') (g : W.grownBy W' v.ownBlock) (n : v'.ownBlock = v.ownBlock ∨ v'.ownBlock = some W.heap.size) : AbA w m' j R' U v' u W' :=
  ⟨O, h.o8.apart g (fun q e => (h.o7.new q e).1) h.ne, fun q e => by
    rcases n with n | n
    · exact h.ne q (by rw [← n]; exact e)
    · rw [n] at e
      injection e with e
      exact fun e2 => by have := (h.o8.new _ e2).2; omega⟩
theorem AbA.app8 (h : AbA w m j R U v u W) {j' : Nat} {U' : List (List Nat)} {u' : Value} (O : OwnG w u' j' U' W') (g : W.grownBy W' u.ownBlock) (n : u'.ownBlock = u.ownBlock ∨ u'.ownBlock = some W.heap.size) : AbA w m j' R U' v u' W' :=
  ⟨h.o7.apart g (fun q e => (h.o8.new q e).1) (fun q e e2 => h.ne q e2 e), O, fun q e e2 => by
    rcases n with n | n
    · exact h.ne q e (by rw [← n]; exact e2)
    · rw [n] at e2
      injection e2 with e2
      have := (h.o7.new _ e).2
      omega⟩
end

/-- The region, from its start, in worlds behind an earlier one. -/
theorem wp_region_segF {P : Program} {ops : Array Oper} {Q : Exit → Act → World → Prop} {W0 W : World} {id : Nat} {a : Act} (hm : P.follows .mixedOrders = true) (h : ∀ w', Grows W w' → wpK P .any ops Q W0 ops.size (Array.replicate ops.size false) a w') : (Code.region id ops true).wp P Q a W :=
  wp_region_any hm (wpAny_of_wpK (W := W0) _ _ _ _ (h _ ⟨rfl, rfl, rfl, Nat.le_refl _, fun _ _ => rfl⟩))

set_option maxRecDepth 100000 in
set_option maxHeartbeats 8000000 in
theorem above_law {A : Option Addr} {n c : Nat} {l : List (List Nat × List Nat)} {k : Nat} {s : Bool} {w : World} (_ : n ≤ c) (_ : c ≤ 9223372036854775807) (hl : l.length = n ∧ Gs w A (2 * n) (flat l)) (hk : k < 256) (_ : True) (hLd : Laid w) :
    Calls Tryd.prog 6 #[.slice A n c, .int .u8 (k : Nat), .bool s] w fun e w' => e = .returned (.bool true) ∧ Below w.heap.size w w' := by
  have HD := Lib.hid hLd
  have HN := Lib.hid hl.1
  have HL := Lib.hid hl.2
  have B0 := Lib.hid (Below.refl w.heap.size w)
  have lz := Lib.hid (show (vals z32).length = 32 by rw [vals_length]; exact z32_ok.1)
  clear hLd hl
  have fin : ∀ w1, Below w.heap.size w w1 → Calls Tryd.prog 9 #[] w1 fun e w' => e = .returned (.bool true) ∧ Below w.heap.size w w' := fun w1 b => (works_any w1 (HD.out.later HD.out.lt b)).mono fun e w' ⟨h1, h2⟩ => ⟨h1, b.trans (h2.mono b.size)⟩
  have FIN := Lib.hid fin
  clear fin
  have CE : Hid (Calls Tryd.prog 14 #[.slice none 0 0] w fun e w' => e = .returned (.agg (vals z32).toArray) ∧ Below w.heap.size w w') := Lib.hid (root_any (c := 0) w HD.out (by decide) (Gs.nil w none))
  have EQZ := eq_same z32_ok.1
  have BZ := build_0
  go_enter Tryd.func6, Tryd.ntmps6
  by_cases hn : 100 < n
  · have t0 : decide ((100 : Int) < (n : Int)) = true := decide_eq_true (by omega)
    go_wp2_with fail
    refine CE.out.mono ?_
    rintro e w1 ⟨rfl, hb⟩
    have B1 := Lib.hid (B0.out.trans (hb.mono B0.out.size))
    clear hb
    go_wp2_with (refine wpList_buildR rfl 24 #[] rfl (vs := #[]) (by simp [go_sem]) (BZ _) ?_)
    refine (FIN.out _ B1.out).mono ?_
    rintro e w2 ⟨rfl, hb⟩
    have HB := Lib.hid hb
    clear hb
    go_wp2_with fail
    go_ret
    exact ⟨rfl, HB.out⟩
  have t0 : decide ((100 : Int) < (n : Int)) = false := decide_eq_false (by omega)
  by_cases h0 : n = 0
  · have t1 : ((n : Int) == 0) = true := by rw [beq_iff_eq]; omega
    go_wp2_with fail
    refine CE.out.mono ?_
    rintro e w1 ⟨rfl, hb⟩
    have B1 := Lib.hid (B0.out.trans (hb.mono B0.out.size))
    clear hb
    go_wp2_with (refine wpList_buildR rfl 24 #[] rfl (vs := #[]) (by simp [go_sem]) (BZ _) ?_)
    refine (FIN.out _ B1.out).mono ?_
    rintro e w2 ⟨rfl, hb⟩
    have HB := Lib.hid hb
    clear hb
    go_wp2_with fail
    go_ret
    exact ⟨rfl, HB.out⟩
  have t1 : ((n : Int) == 0) = false := by rw [beq_eq_false_iff_ne]; omega
  obtain ⟨lb, lo, rfl, hlb, _⟩ := HL.out.cel (by omega)
  have ad := add_at lb lo
  have ad2 : ∀ o i, (⟨lb, o, none⟩ : Addr).add i = ⟨lb, o + i, none⟩ := add_at lb
  have LB := Lib.hid hlb
  have A0 : Hid (AbA w 0 0 (flat (l.take 0)) ((l.take 0).map fun p => joinS p.1 p.2) (.slice none 0 0) (.slice none 0 0) w) := Lib.hid ⟨OwnG.none_ (Below.refl _ _), OwnG.none_ (Below.refl _ _), fun q e => by cases e⟩
  clear hlb CE EQZ BZ B0
  go_wp2_with fail
  go_loopw [7, 8, 9] (fun v u iv wr => ∃ j : Nat, iv = .int .i64 (j : Nat) ∧ j ≤ n ∧ AbA w (2 * j) j (flat (l.take j)) ((l.take j).map fun p => joinS p.1 p.2) v u wr) (fun _ _ iv _ => n - (intOf iv).toNat)
  case atStart => exact ⟨0, rfl, Nat.zero_le _, A0.out⟩
  case round =>
    clear A0
    obtain ⟨j, rfl, hj, hA⟩ := hrel
    obtain ⟨vA, vc, rfl, hvc⟩ := hA.o7.shape
    obtain ⟨uA, uc, rfl, huc⟩ := hA.o8.shape
    have HAb := Lib.hid hA
    clear hA
    by_cases hlt : j < n
    · have t2 : decide ((j : Int) < (n : Int)) = true := decide_eq_true (by omega)
      have FN := Lib.hid (flat_next (l := l) (j := j) (by rw [HN.out]; exact hlt))
      have MN := Lib.hid (map_next (l := l) (j := j) (by rw [HN.out]; exact hlt))
      have fl := flat_nt l j
      have BW := Lib.hid HAb.out.o7.bel
      have LW := HL.out
      have r0 := (LW.at_ (k := 2 * j) (by omega)).2
      have r1 := (LW.at_ (k := 2 * j + 1) (by omega)).2
      have k0 := nt_ok LW.ok (k := 2 * j) (by rw [flat_len, HN.out]; omega)
      have k1 := nt_ok LW.ok (k := 2 * j + 1) (by rw [flat_len, HN.out]; omega)
      rw [fl.1, show lo + 2 * j * 32 = lo + j * 64 by omega] at r0
      rw [fl.2, show lo + (2 * j + 1) * 32 = lo + j * 64 + 32 by omega] at r1
      rw [fl.1] at k0
      rw [fl.2] at k1
      obtain ⟨X, hX⟩ : ∃ X, (pr l j).1 = X := ⟨_, rfl⟩
      obtain ⟨Y, hY⟩ : ∃ Y, (pr l j).2 = Y := ⟨_, rfl⟩
      rw [hX, hY] at FN MN
      rw [hX] at r0 k0
      rw [hY] at r1 k1
      have R0 := Lib.hid r0
      have R1 := Lib.hid r1
      have OX := Lib.hid k0
      have OY := Lib.hid k1
      have lX := Lib.hid (show (vals X).length = 32 by rw [vals_length]; exact k0.1)
      have lY := Lib.hid (show (vals Y).length = 32 by rw [vals_length]; exact k1.1)
      have e2 : Hid (gsV [X, Y] = vals X ++ vals Y) := Lib.hid (by simp [gsV])
      have ok2 : Hid (OkG [X, Y]) := Lib.hid (OkG.app (okG_one OX.out) (okG_one OY.out))
      have OI := Lib.hid (joinS_ok X Y)
      obtain ⟨I, hI⟩ : ∃ I, joinS X Y = I := ⟨_, rfl⟩
      rw [hI] at OI MN
      have HI := Lib.hid hI
      have lI := Lib.hid (show (vals I).length = 32 by rw [vals_length]; exact OI.out.1)
      clear fl LW r0 r1 k0 k1 hX hY hI
      go_wp2_with fail
      refine wp_region_segF (W0 := w) (by kernel_rfl) fun wa ga => ?_
      have GA := Lib.hid (BW.out.trans (Below.mono ga BW.out.size))
      have AB1 := Lib.hid (HAb.out.later ga)
      clear ga HAb BW
      refine wpK_seg 0 11 (f := 3) (by kernel_rfl) (fun _ _ _ _ _ h => h) (by kernel_rfl) (by kernel_rfl) (by kernel_rfl) GA.out ?_
      apply Exists.intro
      refine ⟨?_, ?_⟩
      · intro wg hg
        simp only [List.drop_zero, List.take_succ_cons, List.take_zero]
        repeat (go_big_quiet_step (fail))
        go_big_quiet_want
        refine quiet_load_part (.tmp 40) rfl rfl row26 (fun w9 h9 => by obtain ⟨u, rfl⟩ := h9; exact range_later R0.out LB.out (hg.trans u.below)) lX.out ?_
        simp only [Act.put, List.setIfInBounds_toArray, List.set_cons_succ, List.set_cons_zero]
        go_big_quiet_on
        repeat (go_big_quiet_step (fail))
        go_big_quiet_want
        refine quiet_load_part (.tmp 45) rfl rfl row26 (fun w9 h9 => by obtain ⟨u, rfl⟩ := h9; exact range_later R1.out LB.out (hg.trans u.below)) lY.out ?_
        simp only [Act.put, List.setIfInBounds_toArray, List.set_cons_succ, List.set_cons_zero]
        go_big_quiet_on
        refine wpQuiet_nil ?_
        exact rfl
      refine wpK_one (f := 2) (i := 11) (by kernel_rfl) rfl rfl ?_
      intro wb gx K hK
      have GX := Lib.hid (GA.out.trans (Below.mono gx GA.out.size))
      clear GA
      have GA := GX
      clear GX
      have ABn := Lib.hid (AB1.out.later gx)
      clear AB1
      refine wp_litG2 (d := some 47) rfl (.tmp 41) (.tmp 46) rfl rfl rfl lX.out lY.out ?_
      simp only [Act.put, List.setIfInBounds_toArray, List.set_cons_succ, List.set_cons_zero]
      have AL := Lib.hid (ABn.out.later ((Below.refl wb.heap.size wb).alloc (Nat.le_refl _) (.cells (vals X ++ vals Y).toArray 24)))
      have GL := Lib.hid (GA.out.alloc GA.out.size (.cells (vals X ++ vals Y).toArray 24))
      have RL := Lib.hid (Ro.new wb 24 (vals X ++ vals Y))
      obtain ⟨wc, hwn⟩ : ∃ wc, wc = wb.alloc (.cells (vals X ++ vals Y).toArray 24) := ⟨_, rfl⟩
      rw [← hwn] at AL GL RL ⊢
      rw [← e2.out] at RL
      obtain ⟨kwc, hkwc⟩ : ∃ k, wb.heap.size = k := ⟨_, rfl⟩
      rw [hkwc] at RL ⊢
      refine hK _ _ GL.out ?_
      clear hK K hwn hkwc GA ABn gx
      have GA := GL
      have AB2 := AL
      clear GL AL
      refine wpK_one (f := 1) (i := 12) (by kernel_rfl) rfl rfl ?_
      intro wd gx K hK
      have GX := Lib.hid (GA.out.trans (Below.mono gx GA.out.size))
      clear GA
      have GA := GX
      clear GX
      have ABn := Lib.hid (AB2.out.later gx)
      clear AB2
      have GL3 := Lib.hid ((RL.out.later gx).gs ok2.out)
      refine wp_appGs (d := some 48) rfl (.tmp 36) (.tmp 47) rfl rfl ABn.out.o7 rfl (by decide) GL3.out (by omega) ?_
      intro A6 c6 w6 O6 g6 n6
      simp only [Act.put, List.setIfInBounds_toArray, List.set_cons_succ, List.set_cons_zero]
      have AB6 := Lib.hid (ABn.out.app7 O6 g6 n6)
      have hc6 := O6.cap
      rw [← FN.out] at AB6
      clear O6 g6 n6 gx GL3 ABn RL
      refine hK _ _ AB6.out.o7.bel ?_
      clear hK K
      clear GA
      have GA := Lib.hid AB6.out.o7.bel
      refine wpK_one (f := 0) (i := 13) (by kernel_rfl) rfl rfl ?_
      intro we gx K hK
      have GX := Lib.hid (GA.out.trans (Below.mono gx GA.out.size))
      clear GA
      have GA := GX
      clear GX
      have ABn := Lib.hid (AB6.out.later gx)
      clear AB6
      go_simp
      refine hK _ _ GA.out ?_
      clear hK K gx
      try simp only [Act.put, List.setIfInBounds_toArray, List.set_cons_succ, List.set_cons_zero]
      refine wpK_end (by kernel_rfl) fun wf gf => ?_
      have AB7 := Lib.hid (ABn.out.later gf)
      clear gf GA ABn
      go_wp2_with fail
      refine wp_region_segF (W0 := w) (by kernel_rfl) fun wg0 gg => ?_
      have AB8 := Lib.hid (AB7.out.later gg)
      have GA := Lib.hid AB8.out.o7.bel
      clear gg AB7
      refine wpK_seg 0 12 (f := 3) (by kernel_rfl) (fun _ _ _ _ _ h => h) (by kernel_rfl) (by kernel_rfl) (by kernel_rfl) GA.out ?_
      apply Exists.intro
      refine ⟨?_, ?_⟩
      · intro wg hg
        simp only [List.drop_zero, List.take_succ_cons, List.take_zero]
        have CJ : Hid (∀ u : After wg, Calls Tryd.prog 12 #[.agg (vals X).toArray, .agg (vals Y).toArray] u.w fun e w' => e = .returned (.agg (vals I).toArray) ∧ Below u.w.heap.size u.w w') := Lib.hid (fun u => by
          rw [← HI.out]
          exact join_any OX.out OY.out u.w (HD.out.later HD.out.lt (hg.trans u.below)))
        repeat (go_big_quiet_step (fail))
        go_big_quiet_want
        refine quiet_load_part (.tmp 53) rfl rfl row26 (fun w9 h9 => by obtain ⟨u, rfl⟩ := h9; exact range_later R0.out LB.out (hg.trans u.below)) lX.out ?_
        simp only [Act.put, List.setIfInBounds_toArray, List.set_cons_succ, List.set_cons_zero]
        go_big_quiet_on
        repeat (go_big_quiet_step (fail))
        go_big_quiet_want
        refine quiet_load_part (.tmp 58) rfl rfl row26 (fun w9 h9 => by obtain ⟨u, rfl⟩ := h9; exact range_later R1.out LB.out (hg.trans u.below)) lY.out ?_
        simp only [Act.put, List.setIfInBounds_toArray, List.set_cons_succ, List.set_cons_zero]
        go_big_quiet_on
        go_big_quiet_step (exact after_call (CJ.out _))
        refine wpQuiet_nil ?_
        exact rfl
      have e1 : Hid (gsV [I] = vals I) := Lib.hid (by simp [gsV])
      refine wpK_one (f := 2) (i := 12) (by kernel_rfl) rfl rfl ?_
      intro wi gx K hK
      have GX := Lib.hid (GA.out.trans (Below.mono gx GA.out.size))
      clear GA
      have GA := GX
      clear GX
      have ABn := Lib.hid (AB8.out.later gx)
      clear AB8
      refine wp_litG (d := some 61) rfl (.tmp 60) rfl rfl lI.out ?_
      simp only [Act.put, List.setIfInBounds_toArray, List.set_cons_succ, List.set_cons_zero]
      have AL := Lib.hid (ABn.out.later ((Below.refl wi.heap.size wi).alloc (Nat.le_refl _) (.cells (vals I).toArray 24)))
      have GL := Lib.hid (GA.out.alloc GA.out.size (.cells (vals I).toArray 24))
      have RL := Lib.hid (Ro.new wi 24 (vals I))
      obtain ⟨wh, hwn⟩ : ∃ wh, wh = wi.alloc (.cells (vals I).toArray 24) := ⟨_, rfl⟩
      rw [← hwn] at AL GL RL ⊢
      rw [← e1.out] at RL
      obtain ⟨kwh, hkwh⟩ : ∃ k, wi.heap.size = k := ⟨_, rfl⟩
      rw [hkwh] at RL ⊢
      refine hK _ _ GL.out ?_
      clear hK K hwn hkwh GA ABn gx
      have GA := GL
      have AB9 := AL
      clear GL AL
      refine wpK_one (f := 1) (i := 13) (by kernel_rfl) rfl rfl ?_
      intro wj gx K hK
      have GX := Lib.hid (GA.out.trans (Below.mono gx GA.out.size))
      clear GA
      have GA := GX
      clear GX
      have ABn := Lib.hid (AB9.out.later gx)
      clear AB9
      have RL3 := RL.out.later gx
      rw [e1.out] at RL3
      have HRL3 := Lib.hid RL3
      refine wp_appG6 (ops := #[]) (d := some 62) rfl (.tmp 49) (.tmp 61) rfl rfl ABn.out.o8 rfl OI.out HRL3.out (by omega) ?_
      intro A8 c8 w8 O8 g8 n8
      simp only [Act.put, List.setIfInBounds_toArray, List.set_cons_succ, List.set_cons_zero]
      have AB10 := Lib.hid (ABn.out.app8 O8 g8 n8)
      rw [← MN.out] at AB10
      clear O8 g8 n8 gx RL3 HRL3 ABn RL
      refine hK _ _ AB10.out.o7.bel ?_
      clear hK K
      clear GA
      have GA := Lib.hid AB10.out.o7.bel
      refine wpK_one (f := 0) (i := 14) (by kernel_rfl) rfl rfl ?_
      intro wk gx K hK
      have GX := Lib.hid (GA.out.trans (Below.mono gx GA.out.size))
      clear GA
      have GA := GX
      clear GX
      have ABn := Lib.hid (AB10.out.later gx)
      clear AB10
      go_simp
      refine hK _ _ GA.out ?_
      clear hK K gx
      try simp only [Act.put, List.setIfInBounds_toArray, List.set_cons_succ, List.set_cons_zero]
      refine wpK_end (by kernel_rfl) fun wl gl => ?_
      have AB11 := Lib.hid (ABn.out.later gl)
      clear gl GA ABn
      go_wp2_with fail
      exact ⟨⟨j + 1, by go_num, by omega, AB11.out⟩, by simp [intOf]; omega⟩
    · obtain rfl : j = n := by omega
      have t2 : decide ((j : Int) < (j : Int)) = false := decide_eq_false (by omega)
      rw [List.take_of_length_le (by rw [HN.out]; exact Nat.le_refl _)] at HAb
      obtain ⟨q, hq⟩ : ∃ q, k % j = q := ⟨_, rfl⟩
      have qj : q < j := by rw [← hq]; exact Nat.mod_lt _ (by omega)
      have z1 : (k : Int) % (j : Int) = (q : Int) := by rw [← hq]; omega
      have y1 : IntKind.i64.wrap (k : Int) = (k : Int) := by rw [IntWalk.i64_in _ (by omega)]
      clear hq
      have ql : q < l.length := by rw [HN.out]; exact qj
      have fl := flat_nt l q
      have r0 := (HL.out.at_ (k := 2 * q) (by omega)).2
      have r1 := (HL.out.at_ (k := 2 * q + 1) (by omega)).2
      have k0 := nt_ok HL.out.ok (k := 2 * q) (by rw [flat_len]; omega)
      have k1 := nt_ok HL.out.ok (k := 2 * q + 1) (by rw [flat_len]; omega)
      rw [fl.1, show lo + 2 * q * 32 = lo + q * 64 by omega] at r0
      rw [fl.2, show lo + (2 * q + 1) * 32 = lo + q * 64 + 32 by omega] at r1
      rw [fl.1] at k0
      rw [fl.2] at k1
      have BF0 : branch joinS (flat l) (2 * q) = (pr l q).2 :: branch joinS (l.map fun p => joinS p.1 p.2) q := by
        have h := branch_flat joinS ql false
        simpa using h
      have BF1 : branch joinS (flat l) (2 * q + 1) = (pr l q).1 :: branch joinS (l.map fun p => joinS p.1 p.2) q := by
        have h := branch_flat joinS ql true
        simpa using h
      have RU : root joinS z32 (flat l) = root joinS z32 (l.map fun p => joinS p.1 p.2) := by
        rw [root_up joinS (by rw [flat_len]; omega), up_flat]
      have HRU := Lib.hid RU
      obtain ⟨X, hX⟩ : ∃ X, (pr l q).1 = X := ⟨_, rfl⟩
      obtain ⟨Y, hY⟩ : ∃ Y, (pr l q).2 = Y := ⟨_, rfl⟩
      rw [hX] at r0 k0 BF1
      rw [hY] at r1 k1 BF0
      have okR := (root_ok _ _ (Nat.le_refl _) HAb.out.o8.ok).1
      have EQR := eq_same okR
      obtain ⟨U, hU⟩ : ∃ U, (l.map fun p => joinS p.1 p.2) = U := ⟨_, rfl⟩
      rw [hU] at BF0 BF1 HRU HAb EQR
      have HBF0 := Lib.hid BF0
      have HBF1 := Lib.hid BF1
      have R0 := Lib.hid r0
      have R1 := Lib.hid r1
      have EQX := eq_same k0.1
      have EQY := eq_same k1.1
      have lX := Lib.hid (show (vals X).length = 32 by rw [vals_length]; exact k0.1)
      have lY := Lib.hid (show (vals Y).length = 32 by rw [vals_length]; exact k1.1)
      obtain ⟨R, hR⟩ : ∃ R, root joinS z32 U = R := ⟨_, rfl⟩
      rw [hR] at HRU EQR
      have HR := Lib.hid hR
      have BL := Lib.hid (branch_len joinS _ 8 U q (Nat.le_refl _) (by have := HAb.out.o8.len; omega))
      obtain ⟨bs, hbs⟩ : ∃ bs, branch joinS U q = bs := ⟨_, rfl⟩
      rw [hbs] at HBF0 HBF1 BL
      have HBS := Lib.hid hbs
      clear ql fl r0 r1 k0 k1 BF0 BF1 RU hX hY okR hU hR hbs
      have y2 : IntKind.i64.wrap (2 * (q : Int)) = 2 * (q : Int) := by rw [IntWalk.i64_in _ (by omega)]
      have y3 : IntKind.i64.wrap (2 * (q : Int) + 1) = 2 * (q : Int) + 1 := by rw [IntWalk.i64_in _ (by omega)]
      cases s
      · have CB := branch_any (c := vc) (k := 2 * q) wr (HD.out.later HD.out.lt HAb.out.o7.bel) (by omega) (by omega) HAb.out.o7.reads
        rw [HBF0.out, show ((2 * q : Nat) : Int) = 2 * (q : Int) by omega] at CB
        have HCB := Lib.hid CB
        clear CB
        go_wp2_with fail
        refine HCB.out.mono ?_
        rintro e w1 ⟨B1, m1, d1, rfl, O1⟩
        have hm1 := O1.len
        rw [List.length_cons] at hm1
        have hd1 := O1.cap
        have A1 := Lib.hid (HAb.out.later O1.bel)
        have G1 := Lib.hid O1.reads
        have CB := branch_any (c := uc) (k := q) w1 (HD.out.later HD.out.lt A1.out.o7.bel) (by omega) (by omega) A1.out.o8.reads
        rw [HBS.out] at CB
        have HCB2 := Lib.hid CB
        clear CB HCB O1 HAb
        go_wp2_with fail
        refine HCB2.out.mono ?_
        rintro e w2 ⟨B2, m2, d2, rfl, O2⟩
        have hm2 := O2.len
        have A2 := Lib.hid (A1.out.later O2.bel)
        have G2 := Lib.hid (G1.out.later O2.bel)
        have K2 := Lib.hid O2.reads
        have hb8 := BL.out
        obtain rfl : m1 = m2 + 1 := by omega
        clear HCB2 O2 A1 G1 hm1
        have y4 : IntKind.i64.wrap ((m2 : Int) + 1) = (m2 : Int) + 1 := by rw [IntWalk.i64_in _ (by omega)]
        obtain ⟨gb, go, rfl, hgb, _⟩ := G2.out.cel (by omega)
        have ag := add_at gb go
        have RB := (G2.out.at_ (k := 0) (by omega)).2
        rw [show nt (Y :: bs) 0 = Y from rfl, Nat.zero_mul, Nat.add_zero] at RB
        have HRB := Lib.hid RB
        have LGB : Hid (gb < w2.heap.size) := Lib.hid hgb
        have BW2 := Lib.hid A2.out.o7.bel
        have LBw : Hid (lb < w2.heap.size) := Lib.hid (Nat.lt_of_lt_of_le LB.out BW2.out.size)
        have RPw := Lib.hid (range_later R1.out LB.out BW2.out)
        have GT : Hid (Gs w2 (if d1 = 1 then some ⟨gb, go, none⟩ else some ⟨gb, go + 32, none⟩) m2 bs) := Lib.hid (by
          by_cases h0 : m2 = 0
          · subst h0
            rw [List.eq_nil_of_length_eq_zero hm2]
            exact Gs.nil _ _
          · rw [if_neg (by omega)]
            exact G2.out.right (k := 1) (by omega))
        have CS : Hid (∀ u : After w2, Calls Tryd.prog 16 #[.slice (if d1 = 1 then some ⟨gb, go, none⟩ else some ⟨gb, go + 32, none⟩) m2 (d1 - 1), .slice B2 m2 d2] u.w fun e w' => e = .returned (.bool true) ∧ Below u.w.heap.size u.w w') := Lib.hid (fun u => by
          have q := same_any (c := d1 - 1) (d := d2) u.w (by omega) (by omega) (GT.out.later u.below) (K2.out.later u.below)
          rw [decide_eq_true rfl] at q
          exact q)
        clear RB hgb GT
        go_wp2_with fail
        refine wp_region_after (by kernel_rfl) (by kernel_rfl) ?_
        repeat (go_big_quiet_step (fail))
        go_big_quiet_want
        refine quiet_load_part (.tmp 100) rfl rfl row26 (fun w9 h9 => by obtain ⟨u, rfl⟩ := h9; exact range_later HRB.out LGB.out u.below) lY.out ?_
        simp only [Act.put, List.setIfInBounds_toArray, List.set_cons_succ, List.set_cons_zero]
        go_big_quiet_on
        repeat (go_big_quiet_step (fail))
        go_big_quiet_want
        refine quiet_load_part (.tmp 107) rfl rfl row26 (fun w9 h9 => by obtain ⟨u, rfl⟩ := h9; exact range_later RPw.out LBw.out u.below) lY.out ?_
        simp only [Act.put, List.setIfInBounds_toArray, List.set_cons_succ, List.set_cons_zero]
        go_big_quiet_on
        repeat (go_big_quiet_step (fail))
        go_big_quiet_step (exact after_call (CS.out _))
        repeat (go_big_quiet_step (fail))
        refine wpQuiet_nil ?_
        rintro w3 ⟨u, hu⟩
        have hb3 : Below w2.heap.size w2 w3 := by rw [hu]; exact u.below
        have A3 := Lib.hid (A2.out.later hb3)
        clear hu u hb3 CS A2 HRB LGB RPw LBw BW2 G2 K2
        obtain ⟨TA, hTA⟩ : ∃ TA, (if d1 = 1 then some (⟨gb, go, none⟩ : Addr) else some ⟨gb, go + 32, none⟩) = TA := ⟨_, rfl⟩
        rw [hTA]
        clear hTA
        have CR := Lib.hid (root_any (c := vc) w3 (HD.out.later HD.out.lt A3.out.o7.bel) (by omega) A3.out.o7.reads)
        rw [HRU.out] at CR
        go_wp2_with fail
        refine CR.out.mono ?_
        rintro e w4 ⟨rfl, hb⟩
        have A4 := Lib.hid (A3.out.later hb)
        clear hb CR A3
        have CR := Lib.hid (root_any (c := uc) w4 (HD.out.later HD.out.lt A4.out.o7.bel) (by omega) A4.out.o8.reads)
        rw [HR.out] at CR
        go_wp2_with fail
        refine CR.out.mono ?_
        rintro e w5 ⟨rfl, hb⟩
        have A5 := Lib.hid (A4.out.o7.bel.trans (hb.mono A4.out.o7.bel.size))
        clear hb CR A4
        go_wp2_with fail
        refine (FIN.out _ A5.out).mono ?_
        rintro e w6 ⟨rfl, hb⟩
        have HB6 := Lib.hid hb
        clear hb
        go_wp2_with fail
        go_ret
        exact ⟨rfl, HB6.out⟩
      · have CB := branch_any (c := vc) (k := 2 * q + 1) wr (HD.out.later HD.out.lt HAb.out.o7.bel) (by omega) (by omega) HAb.out.o7.reads
        rw [HBF1.out, show ((2 * q + 1 : Nat) : Int) = 2 * (q : Int) + 1 by omega] at CB
        have HCB := Lib.hid CB
        clear CB
        go_wp2_with fail
        refine HCB.out.mono ?_
        rintro e w1 ⟨B1, m1, d1, rfl, O1⟩
        have hm1 := O1.len
        rw [List.length_cons] at hm1
        have hd1 := O1.cap
        have A1 := Lib.hid (HAb.out.later O1.bel)
        have G1 := Lib.hid O1.reads
        have CB := branch_any (c := uc) (k := q) w1 (HD.out.later HD.out.lt A1.out.o7.bel) (by omega) (by omega) A1.out.o8.reads
        rw [HBS.out] at CB
        have HCB2 := Lib.hid CB
        clear CB HCB O1 HAb
        go_wp2_with fail
        refine HCB2.out.mono ?_
        rintro e w2 ⟨B2, m2, d2, rfl, O2⟩
        have hm2 := O2.len
        have A2 := Lib.hid (A1.out.later O2.bel)
        have G2 := Lib.hid (G1.out.later O2.bel)
        have K2 := Lib.hid O2.reads
        have hb8 := BL.out
        obtain rfl : m1 = m2 + 1 := by omega
        clear HCB2 O2 A1 G1 hm1
        have y4 : IntKind.i64.wrap ((m2 : Int) + 1) = (m2 : Int) + 1 := by rw [IntWalk.i64_in _ (by omega)]
        obtain ⟨gb, go, rfl, hgb, _⟩ := G2.out.cel (by omega)
        have ag := add_at gb go
        have RB := (G2.out.at_ (k := 0) (by omega)).2
        rw [show nt (X :: bs) 0 = X from rfl, Nat.zero_mul, Nat.add_zero] at RB
        have HRB := Lib.hid RB
        have LGB : Hid (gb < w2.heap.size) := Lib.hid hgb
        have BW2 := Lib.hid A2.out.o7.bel
        have LBw : Hid (lb < w2.heap.size) := Lib.hid (Nat.lt_of_lt_of_le LB.out BW2.out.size)
        have RPw := Lib.hid (range_later R0.out LB.out BW2.out)
        have GT : Hid (Gs w2 (if d1 = 1 then some ⟨gb, go, none⟩ else some ⟨gb, go + 32, none⟩) m2 bs) := Lib.hid (by
          by_cases h0 : m2 = 0
          · subst h0
            rw [List.eq_nil_of_length_eq_zero hm2]
            exact Gs.nil _ _
          · rw [if_neg (by omega)]
            exact G2.out.right (k := 1) (by omega))
        have CS : Hid (∀ u : After w2, Calls Tryd.prog 16 #[.slice (if d1 = 1 then some ⟨gb, go, none⟩ else some ⟨gb, go + 32, none⟩) m2 (d1 - 1), .slice B2 m2 d2] u.w fun e w' => e = .returned (.bool true) ∧ Below u.w.heap.size u.w w') := Lib.hid (fun u => by
          have q := same_any (c := d1 - 1) (d := d2) u.w (by omega) (by omega) (GT.out.later u.below) (K2.out.later u.below)
          rw [decide_eq_true rfl] at q
          exact q)
        clear RB hgb GT
        go_wp2_with fail
        refine wp_region_after (by kernel_rfl) (by kernel_rfl) ?_
        repeat (go_big_quiet_step (fail))
        go_big_quiet_want
        refine quiet_load_part (.tmp 100) rfl rfl row26 (fun w9 h9 => by obtain ⟨u, rfl⟩ := h9; exact range_later HRB.out LGB.out u.below) lX.out ?_
        simp only [Act.put, List.setIfInBounds_toArray, List.set_cons_succ, List.set_cons_zero]
        go_big_quiet_on
        repeat (go_big_quiet_step (fail))
        go_big_quiet_want
        refine quiet_load_part (.tmp 107) rfl rfl row26 (fun w9 h9 => by obtain ⟨u, rfl⟩ := h9; exact range_later RPw.out LBw.out u.below) lX.out ?_
        simp only [Act.put, List.setIfInBounds_toArray, List.set_cons_succ, List.set_cons_zero]
        go_big_quiet_on
        repeat (go_big_quiet_step (fail))
        go_big_quiet_step (exact after_call (CS.out _))
        repeat (go_big_quiet_step (fail))
        refine wpQuiet_nil ?_
        rintro w3 ⟨u, hu⟩
        have hb3 : Below w2.heap.size w2 w3 := by rw [hu]; exact u.below
        have A3 := Lib.hid (A2.out.later hb3)
        clear hu u hb3 CS A2 HRB LGB RPw LBw BW2 G2 K2
        obtain ⟨TA, hTA⟩ : ∃ TA, (if d1 = 1 then some (⟨gb, go, none⟩ : Addr) else some ⟨gb, go + 32, none⟩) = TA := ⟨_, rfl⟩
        rw [hTA]
        clear hTA
        have CR := Lib.hid (root_any (c := vc) w3 (HD.out.later HD.out.lt A3.out.o7.bel) (by omega) A3.out.o7.reads)
        rw [HRU.out] at CR
        go_wp2_with fail
        refine CR.out.mono ?_
        rintro e w4 ⟨rfl, hb⟩
        have A4 := Lib.hid (A3.out.later hb)
        clear hb CR A3
        have CR := Lib.hid (root_any (c := uc) w4 (HD.out.later HD.out.lt A4.out.o7.bel) (by omega) A4.out.o8.reads)
        rw [HR.out] at CR
        go_wp2_with fail
        refine CR.out.mono ?_
        rintro e w5 ⟨rfl, hb⟩
        have A5 := Lib.hid (A4.out.o7.bel.trans (hb.mono A4.out.o7.bel.size))
        clear hb CR A4
        go_wp2_with fail
        refine (FIN.out _ A5.out).mono ?_
        rintro e w6 ⟨rfl, hb⟩
        have HB6 := Lib.hid hb
        clear hb
        go_wp2_with fail
        go_ret
        exact ⟨rfl, HB6.out⟩
end Go.Proofs.YtdenibigefchpaaDoor
