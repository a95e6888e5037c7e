/- merkle.Doubled. No condition but that the tables lie as laid. -/
import Derived.Test.YtdenibigefchpaaDoorBranchL
import Derived.Test.YtdenibigefchpaaDoorRefTwice
namespace Go.Proofs.YtdenibigefchpaaDoor
open Go.RowKit Go.Shelf
attribute [local go_sem] Oper.semAt_some

structure DbJ (w : World) (b : Bool) (W : World) : Prop where
  res : Boxed W w.heap.size 4 (.bool b)
  bel : Below w.heap.size w W
  size : w.heap.size + 2 ≤ W.heap.size
theorem DbJ.later {w W W' : World} {b : Bool} (h : DbJ w b W) (g : Below W.heap.size W W') : DbJ w b W' :=
  ⟨(g.block _ h.res.lt).trans h.res, h.bel.trans (g.mono h.bel.size), Nat.le_trans h.size g.size⟩
theorem DbJ.keep {w W W' : World} {b : Bool} (h : DbJ w b W) {row : Option Nat} (hg : W.grownBy W' row) (hr : ∀ r, row = some r → w.heap.size ≤ r ∧ ∃ o : Obj, W.heap[r]? = some o ∧ o.isCells = false) : DbJ w b W' :=
  ⟨(grownBy_keeps_cells hg (fun r e => (hr r e).2) h.res rfl).trans h.res, h.bel.grown hg h.bel.size (fun r e => (hr r e).1), Nat.le_trans h.size hg.size⟩
theorem DbJ.set {w W : World} {b : Bool} (h : DbJ w b W) (c : Bool) : DbJ w c (W.setCell ⟨w.heap.size, 0, none⟩ (.bool c)) :=
  ⟨h.res.set _, h.bel.setCell (Nat.le_refl _) _, by have := h.size; simpa [World.setCell] using this⟩

set_option maxRecDepth 100000 in
set_option maxHeartbeats 4000000 in
theorem doubled_in {A : Option Addr} {n c : Nat} {ids : List (List Nat)} (w : World) (hLd : Laid w) (hn : n ≤ 1000000) (hL : Gs w A n ids) : CallsIn Fence.wide 3 Tryd.prog 17 #[.slice A n c] w fun e w' => e = .returned (.bool (twice joinS ids)) ∧ Below w.heap.size w w' := by
  have HL := Lib.hid hL
  have HN := Lib.hid hL.len
  have HD := Lib.hid hLd
  have HA : Hid (∀ a, 0 < n → A = some a → a.block < w.heap.size) := Lib.hid (fun a h0 e => by
    obtain ⟨b, o, e2, hb, _⟩ := hL.cel h0
    rw [e] at e2
    injection e2 with e2
    subst e2
    exact hb)
  clear hL hLd
  refine callsIn_of_wp_marks Tryd.func17 rfl trivial ?_ rfl
  simp only [Tryd.ntmps17, List.size_toArray, List.length_cons, List.length_nil, Nat.reduceAdd, Nat.reduceSub, Array.replicate_succ, Array.replicate_zero, List.push_toArray, List.append_toArray, List.nil_append, List.cons_append]
  gi_wp2_with (refine ⟨trivial, ?_⟩; gi_at_call 23; refine (rows_in _ _ _ _).mono ?_; rintro e w2 ⟨rfl, rfl⟩)
  obtain ⟨W4, hW4⟩ : ∃ W4, W4 = (w.alloc (.cells #[.bool false] 4)).alloc (.cells #[.slice A n c] 22) := ⟨_, rfl⟩
  have z4 : W4.heap.size = w.heap.size + 2 := by rw [hW4]; simp
  have b4 : Below w.heap.size w W4 := by rw [hW4]; exact ((Below.refl _ w).alloc (Nat.le_refl _) _).alloc (by simp only [World.size_alloc]; omega) _
  have J4 : DbJ w false W4 := ⟨by rw [hW4]; exact (Boxed.new w _ _).alloc _, b4, by omega⟩
  have X4 : Boxed W4 (w.heap.size + 1) 22 (.slice A n c) := by
    rw [hW4]
    have := Boxed.new (w.alloc (.cells #[.bool false] 4)) 22 (.slice A n c)
    rwa [World.size_alloc] at this
  change Code.wpIn _ _ _ _ _ _ ((w.alloc (.cells #[.bool false] 4)).alloc (.cells #[.slice A n c] 22))
  rw [← hW4]
  have B4 := Lib.hid b4
  have Z4 := Lib.hid z4
  clear hW4 b4 z4
  refine range_tells (w := W4) rfl (by decide) (gf := 29) (lb := #[.pointer (some ⟨w.heap.size + 1, 0, none⟩)]) rfl trivial (enters_of Tryd.func29 (by kernel_rfl) rfl)
    (encs := rwE) (Tn := fun X Y => Below X.heap.size X Y) (Fr := RFr w.heap.size) (Rd := RRd) (S := RTell ids) (Sp := RPre ids)
    (rows_tells (w.heap.size + 1) w.heap.size A n c ids W4 X4 (HL.out.later B4.out) (HD.out.later HD.out.lt B4.out) HA.out hn) (fun X Y h => ⟨h.size, fun k o hk _ => by rw [h.block k (Array.getElem?_eq_some_iff.1 hk).1]; exact hk⟩)
    (rrd_own _) (fun _ => rfl)
    (fun pre W => DbJ w false W ∧ anyPairs (pre.map (·.l)) = false) (fun cd pre W => cd = .ret ∧ DbJ w true W ∧ anyPairs (pre.map (·.l)) = true)
    (fun s X Y row hs hg hr => ⟨hs.1.keep hg fun r e => ⟨by have := (hr r e).1; have := Z4.out; omega, (hr r e).2⟩, hs.2⟩)
    (fun cd s X Y row hs hg hr => ⟨hs.1, hs.2.1.keep hg fun r e => ⟨by have := (hr r e).1; have := Z4.out; omega, (hr r e).2⟩, hs.2.2⟩)
    (fun pre x W => (DbJ w false W ∧ anyPairs (pre.map (·.l)) = false) ∧ Gs W x.A x.n x.l ∧ 0 < x.n ∧ x.n ≤ 1000000)
    (fun x pre X Y row hs hg hr => ⟨⟨hs.1.1.keep hg fun r e => ⟨by have := (hr r e).1; have := Z4.out; omega, (hr r e).2⟩, hs.1.2⟩, hs.2.1.keep hg fun r e => (hr r e).2, hs.2.2⟩)
    (fun pre x X Y hs ht hf => ⟨⟨hs.1.later ht, hs.2⟩, hf.gs, hf.pos, hf.le⟩)
    ⟨J4, rfl⟩
    (fun x => { tmps := #[Value.slice A n c, undef, Value.pointer (some { block := w.heap.size, off := 0 }), .slice x.A x.n x.c, undef, Value.slice A n c, Value.func (Fn.func 29) #[] #[Value.pointer (some { block := w.heap.size + 1, off := 0 })], .slice x.A x.n x.c, undef, undef, undef, undef, undef, undef, undef, undef, undef, undef, undef, undef, undef, undef, undef, undef], defers := [] }) ?assign ?body ?done ?stop
  case assign =>
    intro l x W K hK
    obtain ⟨A', m, c', l'⟩ := x
    dsimp only [rwE] at hK ⊢
    gi_wp2
    exact hK
  case done =>
    rintro D ys W hD hS ⟨J, hP⟩ hK
    have TW : twice joinS ids = false := by
      rw [← any_rows joinS _ ids (Nat.le_refl _), ← show ys.map (·.l) = rowsOf joinS ids from hS]
      exact hP
    have HT := Lib.hid TW
    have c2 := J.res.cell
    have y2 := J.res.frozen
    have J2 := J.set false
    have HK2 : (W.setCell ⟨w.heap.size, 0, none⟩ (.bool false)).heap[D]? = some (.deferred (some [])) := (Below.heap_setCell W ⟨w.heap.size, 0, none⟩ _ D (by show D ≠ w.heap.size; have := Z4.out; omega)).trans hK
    have J9 := J2.keep (grownBy_putObj' (W.setCell ⟨w.heap.size, 0, none⟩ (.bool false)) D (.deferred none)) (fun r e => by cases e; exact ⟨by have := Z4.out; omega, _, HK2, rfl⟩)
    have HJ9 := Lib.hid J9
    have q9 := Lib.hid J9.res.cell
    have HK := Lib.hid HK2
    clear J J2 J9 hK HK2 hP hS TW
    gi_wp2
    refine ⟨by simp, .inl ⟨_, _, rfl, run_takeDeferred HK.out, .bool false, ?_, by rw [HT.out], HJ9.out.bel⟩⟩
    simp [results, Tryd.f17, go_sem, q9.out]
  case stop =>
    rintro D cd pre W hD ⟨r, hr⟩ ⟨rfl, J, hP⟩ hK
    have TW : twice joinS ids = true := by
      rw [← any_rows joinS _ ids (Nat.le_refl _), ← hr]
      unfold anyPairs at hP ⊢
      rw [List.any_append, hP, Bool.true_or]
    have HT := Lib.hid TW
    have J9 := J.keep (grownBy_putObj' W D (.deferred none)) (fun r e => by cases e; exact ⟨by have := Z4.out; omega, _, hK, rfl⟩)
    have HJ9 := Lib.hid J9
    have q9 := Lib.hid J9.res.cell
    have HK := Lib.hid hK
    clear J J9 hK hP hr TW
    gi_wp2
    refine ⟨by simp, .inl ⟨_, _, rfl, run_takeDeferred HK.out, .bool true, ?_, by rw [HT.out], HJ9.out.bel⟩⟩
    simp [results, Tryd.f17, go_sem, q9.out]
  case body =>
    rintro l pre ⟨A', m, c', l'⟩ W ⟨⟨J, hP⟩, hG, hp, hm⟩ hS
    dsimp only at hG hp hm ⊢
    have mixed : Tryd.prog.follows .mixedOrders = true := by kernel_rfl
    have HJ := Lib.hid J
    have HP := Lib.hid hP
    have HG := Lib.hid hG
    have HM := Lib.hid hG.len
    clear J hP hG
    gi_wp2
    gi_loopw [4] (fun i w5 => ∃ j : Nat, i = .int .i64 (j : Nat) ∧ j ≤ m + 1 ∧ j % 2 = 1 ∧ (∀ q, q < j → q % 2 = 1 → nt l' q ≠ nt l' (q - 1)) ∧ Below W.heap.size W w5) (fun i _ => m + 2 - (intOf i).toNat)
    case atStart => exact ⟨1, rfl, by omega, rfl, fun q h2 h3 => by omega, Below.refl _ _⟩
    case round =>
      obtain ⟨j, rfl, hj, hodd, hne, hb5⟩ := hrel
      have HNE := Lib.hid hne
      have HO := Lib.hid hodd
      have B5 := Lib.hid hb5
      clear hne hb5
      by_cases hlt : j < m
      · obtain ⟨p, rfl⟩ : ∃ p, j = p + 1 := ⟨j - 1, by omega⟩
        have HG5 := Lib.hid (HG.out.later B5.out)
        obtain ⟨b, o, rfl, hb, _⟩ := HG5.out.cel (by omega)
        have ad := add_at b o
        have L5 := Lib.hid hb
        have R1 := Lib.hid ((HG5.out.at_ hlt).2)
        have R0 := Lib.hid ((HG5.out.at_ (k := p) (by omega)).2)
        have ok1 := nt_ok HG.out.ok (k := p + 1) (by rw [HM.out]; exact hlt)
        have ok0 := nt_ok HG.out.ok (k := p) (by rw [HM.out]; omega)
        have l1 := Lib.hid (show (vals (nt l' (p + 1))).length = 32 by rw [vals_length]; exact ok1.1)
        have l0 := Lib.hid (show (vals (nt l' p)).length = 32 by rw [vals_length]; exact ok0.1)
        have EQ := fun w => eq_hash ok1.1 ok0.1 w
        have y1 : IntKind.i64.wrap (((p + 1 : Nat) : Int) - 1) = ((p : Nat) : Int) := by rw [IntWalk.i64_in _ (by omega)]; omega
        obtain ⟨h, e1⟩ : ∃ h, nt l' (p + 1) = h := ⟨_, rfl⟩
        obtain ⟨g, e2⟩ : ∃ g, nt l' p = g := ⟨_, rfl⟩
        rw [e1] at R1 l1
        rw [e2] at R0 l0
        rw [e1, e2] at EQ
        have E1 := Lib.hid e1
        have E2 := Lib.hid e2
        clear e1 e2 hb ok1 ok0 hodd
        by_cases hhg : h = g
        · have HHG := Lib.hid hhg
          rw [eqB_yes hhg] at EQ
          clear hhg
          gi_wp2
          refine wpIn_region_after mixed (fun ⟨_, _, h⟩ => h) (by kernel_rfl) (by kernel_rfl) ?_
          repeat (go_big_quiet_step (fail))
          go_big_quiet_want
          refine quiet_load_part (.tmp 16) rfl rfl row26 (fun w9 h9 => by obtain ⟨u, rfl⟩ := h9; exact range_later R1.out L5.out u.below) l1.out ?_
          simp only [Act.put, List.setIfInBounds_toArray, List.set_cons_succ, List.set_cons_zero]
          go_big_quiet_on
          repeat (go_big_quiet_step (fail))
          go_big_quiet_want
          refine quiet_load_part (.tmp 21) rfl rfl row26 (fun w9 h9 => by obtain ⟨u, rfl⟩ := h9; exact range_later R0.out L5.out u.below) l0.out ?_
          simp only [Act.put, List.setIfInBounds_toArray, List.set_cons_succ, List.set_cons_zero]
          go_big_quiet_on
          repeat (go_big_quiet_step (fail))
          refine wpQuiet_nil ?_
          rintro wz ⟨u, rfl⟩
          have Bz := Lib.hid (B5.out.trans (u.below.mono B5.out.size))
          have Jz := HJ.out.later Bz.out
          have c2 := Jz.res.cell
          have y2 := Jz.res.frozen
          have JS := Lib.hid (Jz.set true)
          have KE := Lib.hid ((Kf.below (s := w.heap.size + 2) Bz.out).trans (Kf.set (w.heap.size + 2) u.w ⟨w.heap.size, 0, none⟩ (.bool true)))
          have AP : Hid (anyPairs ((pre ++ [Rw.mk (some ⟨b, o, none⟩) m c' l']).map (·.l)) = true) := Lib.hid (by
            have hp := (pairs_iff l').2 ⟨p + 1, by rw [HM.out]; exact hlt, HO.out, by rw [E1.out, show p + 1 - 1 = p from rfl, E2.out, HHG.out]⟩
            unfold anyPairs
            rw [List.map_append, List.any_append]
            show (_ || (pairs l' || false)) = true
            rw [hp, Bool.true_or, Bool.or_true])
          clear Jz
          gi_wp2
          exact ⟨by rw [Z4.out]; exact KE.out, rfl, JS.out, AP.out⟩
        · have HHG := Lib.hid hhg
          rw [eqB_no hhg] at EQ
          clear hhg
          gi_wp2
          refine wpIn_region_after mixed (fun ⟨_, _, h⟩ => h) (by kernel_rfl) (by kernel_rfl) ?_
          repeat (go_big_quiet_step (fail))
          go_big_quiet_want
          refine quiet_load_part (.tmp 16) rfl rfl row26 (fun w9 h9 => by obtain ⟨u, rfl⟩ := h9; exact range_later R1.out L5.out u.below) l1.out ?_
          simp only [Act.put, List.setIfInBounds_toArray, List.set_cons_succ, List.set_cons_zero]
          go_big_quiet_on
          repeat (go_big_quiet_step (fail))
          go_big_quiet_want
          refine quiet_load_part (.tmp 21) rfl rfl row26 (fun w9 h9 => by obtain ⟨u, rfl⟩ := h9; exact range_later R0.out L5.out u.below) l0.out ?_
          simp only [Act.put, List.setIfInBounds_toArray, List.set_cons_succ, List.set_cons_zero]
          go_big_quiet_on
          repeat (go_big_quiet_step (fail))
          refine wpQuiet_nil ?_
          rintro wz ⟨u, rfl⟩
          have Bz := Lib.hid (B5.out.trans (u.below.mono B5.out.size))
          gi_wp2
          exact ⟨⟨p + 1 + 2, by go_num, by omega, by have := HO.out; omega, fun q h2 h3 => by
            by_cases e : q = p + 1
            · subst e
              rw [E1.out, show p + 1 - 1 = p from rfl, E2.out]
              exact HHG.out
            · exact HNE.out q (by have := HO.out; omega) h3, Bz.out⟩, by simp [intOf]; omega⟩
      · have NP := Lib.hid (pairs_no (l := l') (fun q h2 h3 => HNE.out q (by rw [HM.out] at h2; omega) h3))
        gi_wp2
        refine ⟨by rw [Z4.out]; exact Kf.below (s := w.heap.size + 2) B5.out, ⟨HG.out.later B5.out, HD.out.later HD.out.lt (HJ.out.bel.trans (B5.out.mono HJ.out.bel.size))⟩, HJ.out.later B5.out, ?_⟩
        have h1 := HP.out
        unfold anyPairs at h1 ⊢
        rw [List.map_append, List.any_append, h1]
        show (false || (pairs l' || false)) = false
        rw [NP.out]
        rfl
theorem doubled_any {A : Option Addr} {n c : Nat} {ids : List (List Nat)} (w : World) (hLd : Laid w) (hn : n ≤ 1000000) (hL : Gs w A n ids) : Calls Tryd.prog 17 #[.slice A n c] w fun e w' => e = .returned (.bool (twice joinS ids)) ∧ Below w.heap.size w w' :=
  callsIn_wide.1 (doubled_in w hLd hn hL)
end Go.Proofs.YtdenibigefchpaaDoor
