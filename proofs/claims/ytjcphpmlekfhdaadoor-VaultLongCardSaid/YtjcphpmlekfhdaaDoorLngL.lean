/- VaultLong: walked. Condition: the tables lie as laid. -/
import Derived.Test.YtjcphpmlekfhdaaDoorSms
import Derived.Deep.RegionWith
import Derived.IntWalk
namespace Go.Proofs.YtjcphpmlekfhdaaDoor
open Go.RowKit

theorem wide_two (K : Nat) : wideS [[97], List.replicate K 0] = 73 + K := by
  unfold wideS
  simp
  omega
theorem long_two {K : Nat} : longS [[97], List.replicate K 0] = decide (32768 < K) := by
  unfold longS
  simp
/-- What Add answers of them. -/
theorem long_add {S : Dk} {K : Nat} (A : Alive S 1 1 []) (m : S.most = 262144) (fu : S.fuse = -1) (c : S.cnt ≤ 4) (hK : K ≤ 32895) :
    (32768 < K → addT false 1 1 0 [[97], List.replicate K 0] S = (1, S, 0, false)) ∧
    (K ≤ 32768 → ∃ T, addT false 1 1 0 [[97], List.replicate K 0] S = (0, T, 2, false) ∧ Alive T 1 1 [[97], List.replicate K 0] ∧ T.fuse = -1 ∧ T.cnt ≤ 1000) := by
  refine ⟨fun h => ?_, fun h => ?_⟩
  · have hm : mayN false [[97], List.replicate K 0] = 1 := by unfold mayN; rw [long_two, decide_eq_true h]; rfl
    unfold addT
    rw [hm, if_neg (by decide)]
  · have hr := A.room
    rw [m] at hr
    have hr' : S.room = 262100 := hr
    obtain ⟨T, e, B, _, f⟩ := add_live (L := [[97], List.replicate K 0]) A (by rw [long_two, decide_eq_false (by omega)]) fu (by rw [hr', wide_two]; omega)
    have e' : addT false 1 1 0 [[97], List.replicate K 0] S = (0, T, 2, false) := e
    have cc : (addT false 1 1 0 [[97], List.replicate K 0] S).2.1.cnt ≤ S.cnt + 4 := by
      unfold addT
      split
      · exact cnt_addS 1 1 0 _ S
      · exact Nat.le_add_right _ _
    rw [e'] at cc
    dsimp only at cc
    exact ⟨T, e', B, f, by omega⟩
theorem long_compact {S : Dk} {K : Nat} (A : Alive S 1 1 []) (m : S.most = 262144) (fu : S.fuse = -1) (c : S.cnt ≤ 4) (hK : K ≤ 32895) :
    (32768 < K → compactT false 1 1 0 [[97], List.replicate K 0] S = (1, S, 1, 1, 0, false)) ∧
    (K ≤ 32768 → ∃ T, compactT false 1 1 0 [[97], List.replicate K 0] S = (0, T, 0, 2, 2, false) ∧ Alive T 0 2 [[97], List.replicate K 0] ∧ T.fuse = -1 ∧ T.cnt ≤ 1000) := by
  refine ⟨fun h => ?_, fun h => ?_⟩
  · have hm : mayN false [[97], List.replicate K 0] = 1 := by unfold mayN; rw [long_two, decide_eq_true h]; rfl
    unfold compactT
    rw [hm, if_neg (by decide)]
  · have hr := A.room
    rw [m] at hr
    have hr' : S.room = 262100 := hr
    obtain ⟨T, e, B, _, f⟩ := compact_live (L := [[97], List.replicate K 0]) A (by rw [long_two, decide_eq_false (by omega)]) fu (by decide) (by show 2 < 4294967296; decide) (by rw [hr', wide_two]; omega)
    have e' : compactT false 1 1 0 [[97], List.replicate K 0] S = (0, T, 0, 2, 2, false) := e
    have cc : (compactT false 1 1 0 [[97], List.replicate K 0] S).2.1.cnt ≤ S.cnt + 4 := by
      unfold compactT
      split
      · exact cnt_compactS 1 1 0 _ S
      · exact Nat.le_add_right _ _
    rw [e'] at cc
    dsimp only at cc
    exact ⟨T, e', B, f, by omega⟩
theorem zeros_at {K : Nat} {Z : List Value} (W : World) (h : vals (List.replicate K 0) = Z) : Bs (W.alloc (.cells Z.toArray 5)) (some ⟨W.heap.size, 0, none⟩) K (List.replicate K 0) := by
  have := Bs.lit W (List.replicate K 0) (fun x hx => by have := List.eq_of_mem_replicate hx; omega)
  rw [List.length_replicate, h] at this
  exact this
/-- The two records, made in either order. -/
theorem long_rows {w w2 : World} {T : TypeId} {A1 : Option Addr} {K k1 q : Nat} (l1 : 1 ≤ k1) (q1 : k1 ≤ 9223372036854775807) (g : Below w.heap.size w w2) (B1 : Bs w2 A1 1 [97]) (p1 : ∀ a, A1 = some a → w.heap.size ≤ a.block ∧ a.block < w2.heap.size) (B2 : Bs w2 (some ⟨q, 0, none⟩) K (List.replicate K 0)) (p2 : w.heap.size ≤ q ∧ q < w2.heap.size) (hK : K ≤ 32895) :
    Rows (w2.alloc (.cells #[.slice A1 1 k1, .slice (some ⟨q, 0, none⟩) K K] T)) (fun k => w.heap.size ≤ k ∧ k < (w2.alloc (.cells #[.slice A1 1 k1, .slice (some ⟨q, 0, none⟩) K K] T)).heap.size) 1 ByR (some ⟨w2.heap.size, 0, none⟩) 2 [[97], List.replicate K 0] ∧ Below w.heap.size w (w2.alloc (.cells #[.slice A1 1 k1, .slice (some ⟨q, 0, none⟩) K K] T)) := by
  have b3 : Below w2.heap.size w2 (w2.alloc (.cells #[.slice A1 1 k1, .slice (some ⟨q, 0, none⟩) K K] T)) := (Below.refl _ _).alloc (Nat.le_refl _) _
  have s2 := g.size
  refine ⟨lit_2 (Ro.new w2 T [.slice A1 1 k1, .slice (some ⟨q, 0, none⟩) K K]) ⟨by omega, by rw [World.size_alloc]; omega⟩ (B1.later b3) ⟨l1, by decide⟩ q1 (fun a e => ?_) (B2.later b3) ⟨Nat.le_refl _, by omega⟩ (by omega) fun a e => ?_, below_trn g b3⟩
  · have := p1 a e
    rw [World.size_alloc]
    omega
  · injection e with e
    subst e
    rw [World.size_alloc]
    show w.heap.size ≤ q ∧ q < _
    omega
set_option maxRecDepth 100000 in
set_option maxHeartbeats 4000000 in
theorem long_law {w : World} {over : Int} {compact : Bool} (ho : -128 ≤ over ∧ over < 128) (_ : True) (hLd : Laid w) : Calls Tryd.prog 6 #[.int .i8 over, .bool compact] w fun e W => e = .returned (.bool true) ∧ Below w.heap.size w W := by
  have HL := Lib.hid hLd
  have HO := Lib.hid ho
  have HN := Lib.hid (new_p (w0 := w) (w := w) (X := fun _ => False) (Below.refl _ _) (fun _ h => h.elim) (m := 262144) (by decide) (by decide))
  obtain ⟨T1, e1, AL, m1, f1⟩ := new_open (m := 262144) (by decide)
  have c1 := cnt_openS (newD 262144)
  rw [e1] at c1
  have c1' : T1.cnt ≤ 0 + 4 := c1
  have H1 := Lib.hid e1
  clear c1
  clear hLd e1
  go_enter Tryd.func6, Tryd.ntmps6
  go_wp2_with fail
  refine (HN.out).mono ?_
  rintro e W1 ⟨d, rfl, hd1, D1', b1⟩
  have D1 := Lib.hid D1'
  clear hd1 D1' b1 HN
  go_wp2_with fail
  have hop := open_any HL.out D1.out (fun _ h => h.elim) (Nat.le_trans (Nat.le_of_eq (rfl : (newD 262144).cnt = 0)) (by decide))
  rw [H1.out] at hop
  dsimp only at hop
  refine hop.mono ?_
  clear hop
  rintro e W2 h
  rcases h with ⟨h, _⟩ | ⟨_, v, r, Y, rfl, hv, hV, ⟨A, c, hr, hc, hR⟩, hY, hD, hK⟩
  · exact absurd rfl h
  have hr' : r = .slice A 0 c := hr
  subst hr'
  have V2 : Hid (Vs w d v (fun b => b = v) T1 1 1 0 false W2) := Lib.hid ⟨hD.narrow fun b h => .inr (.inl h), rfl, hV, by have := D1.out.lt; omega⟩
  clear hr hv hV hc hR hY hD hK D1 H1
  have o0 := ho.1
  have o1 := ho.2
  have hz : IntKind.i64.wrap over = over := IntWalk.i64_in _ (by omega)
  have hz2 : IntKind.i64.wrap (32768 + over) = 32768 + over := IntWalk.i64_in _ (by omega)
  have MK := run_make_bytes (32768 + over).toNat (32768 + over).toNat (32768 + over) (32768 + over) (by omega) (by omega) (Nat.le_refl _) (by omega)
  obtain ⟨K, hK⟩ : ∃ K, (32768 + over).toNat = K := ⟨_, rfl⟩
  rw [hK] at MK
  obtain ⟨Z, hZ⟩ : ∃ Z, vals (List.replicate K 0) = Z := ⟨_, rfl⟩
  rw [hZ] at MK
  have HZ := Lib.hid hZ
  have HK := Lib.hid hK
  clear hK hZ
  go_wp2_with fail
  go_region_with (go_at_call 24; refine (b_a _).mono ?_; rintro e W3 ⟨A1, k1, rfl, l1, q1, B1, g1, p1⟩)
  all_goals have o2 : K ≤ 32895 := by have := HK.out; omega
  all_goals first
    | (have RB := long_rows (T := 35) (w := W2) (w2 := W3) (q := W2.heap.size) l1 q1 (below_trn (Below.drew ((Below.refl _ _).alloc (Nat.le_refl _) _)) g1) B1 (fun a e => by have := p1 a e; simp at this; omega) (((zeros_at W2 HZ.out).later (Below.refl _ _).drew).later g1) ⟨Nat.le_refl _, by have := g1.size; simp at this; omega⟩ o2
       obtain ⟨Wf, hWf⟩ : ∃ Wf, W3.alloc (.cells #[.slice A1 1 k1, .slice (some ⟨W2.heap.size, 0, none⟩) K K] 35) = Wf := ⟨_, rfl⟩
       rw [hWf] at RB ⊢
       obtain ⟨r, hr⟩ : ∃ r, W3.heap.size = r := ⟨_, rfl⟩
       rw [hr] at RB ⊢
       obtain ⟨q, hq⟩ : ∃ q, W2.heap.size = q := ⟨_, rfl⟩
       rw [show Value.slice (some ⟨W2.heap.size, 0, none⟩) K K = Value.slice (some ⟨q, 0, none⟩) K K by rw [hq]]
       have HRB := Lib.hid RB
       clear RB hWf hr hq B1 g1 p1 l1 q1)
    | (have RB := long_rows (T := 35) (w := W2) (w2 := W3.alloc (.cells Z.toArray 5)) (q := W3.heap.size) l1 q1 (below_trn (below_trn (Below.refl _ _).drew g1) ((Below.refl _ _).alloc (Nat.le_refl _) _)) (B1.later ((Below.refl _ _).alloc (Nat.le_refl _) _)) (fun a e => by have := p1 a e; simp at this ⊢; omega) (zeros_at W3 HZ.out) ⟨by have := g1.size; simp at this; omega, by simp⟩ o2
       obtain ⟨Wf, hWf⟩ : ∃ Wf, (W3.alloc (.cells Z.toArray 5)).alloc (.cells #[.slice A1 1 k1, .slice (some ⟨W3.heap.size, 0, none⟩) K K] 35) = Wf := ⟨_, rfl⟩
       rw [hWf] at RB ⊢
       have hsz : (W3.alloc (.cells Z.toArray 5)).heap.size = W3.heap.size + 1 := by simp
       rw [hsz] at RB
       obtain ⟨r, hr⟩ : ∃ r, W3.heap.size + 1 = r := ⟨_, rfl⟩
       rw [hr] at RB ⊢
       obtain ⟨q, hq⟩ : ∃ q, W3.heap.size = q := ⟨_, rfl⟩
       rw [hq]
       have HRB := Lib.hid RB
       clear RB hWf hr hq hsz B1 g1 p1 l1 q1)
  -- TAIL
  all_goals clear MK HZ
  all_goals obtain ⟨X2, hX2⟩ : ∃ X2 : Nat → Prop, ∀ k, X2 k ↔ (k = v ∨ (W2.heap.size ≤ k ∧ k < Wf.heap.size)) := ⟨_, fun _ => Iff.rfl⟩
  all_goals have v3 : Vs w d v X2 T1 1 1 0 false Wf := V2.out.wide HRB.out.2 (fun k hk => (hX2 k).1 hk) ((hX2 v).2 (.inl rfl))
  all_goals have r3 := Rows.weak (Q := fun k => X2 k ∧ k ≠ v) byM HRB.out.1 fun k hk _ => ⟨(hX2 k).2 (.inr hk), by have := V2.out.vt.lt; omega⟩
  all_goals have hx : ∀ k, X2 k → k < Wf.heap.size := fun k hk => ((hX2 k).1 hk).elim (fun e => by rw [e]; exact v3.vt.lt) fun h => h.2
  all_goals have V3 := Lib.hid v3
  all_goals have R3 := Lib.hid r3
  all_goals have HX := Lib.hid hx
  all_goals clear v3 r3 hx hX2 HRB V2
  all_goals
    cases compact with
    | false =>
      by_cases hov : 32768 < K
      · have e := (long_add AL m1 f1 c1' o2).1 hov
        have t1 : decide (0 < over) = true := decide_eq_true (by have := HK.out; omega)
        have ha := add_s (n := 2) (c := 2) HL.out V3.out (Rows.weak byM R3.out fun _ _ _ => trivial) (by decide) (by decide) (by decide) (by rw [wide_two]; omega) (by omega)
        rw [e] at ha
        dsimp only at ha
        clear e
        go_wp2_with fail
        refine ha.mono ?_
        clear ha
        rintro e W5 ⟨rfl, V5, K5⟩
        have ho := open_any HL.out V5.dp (fun k hk => Nat.lt_of_lt_of_le (HX.out k hk) K5.size) (by omega)
        obtain ⟨U, eU, _⟩ := open_live AL V5.dp.ok f1
        rw [eU] at ho
        dsimp only at ho
        have R5 := R3.out.keep byM K5
        clear eU V3 R3 AL f1 K5
        go_wp2_with fail
        refine ho.mono ?_
        clear ho
        rintro e W6 h
        rcases h with ⟨h, _⟩ | ⟨_, v2, r2, Y2, rfl, hv, hV, ⟨A9, c9, hr, hc, hR⟩, hY, hD, hK6⟩
        · exact absurd rfl h
        have hr' : r2 = .slice A9 0 c9 := hr
        subst hr'
        have HB := Lib.hid hD.bel
        clear hr hv hV hc hR hY hD hK6 R5 V5
        go_wp2_with fail
        refine (works_any (HL.out.later HL.out.lt HB.out)).mono ?_
        rintro e W7 ⟨rfl, b7⟩
        have HC := Lib.hid (HB.out.trans (b7.mono HB.out.size))
        clear b7 HB
        go_wp2_with fail
        go_ret
        exact ⟨rfl, HC.out⟩
      · obtain ⟨T, e, AT, fT, cT⟩ := (long_add AL m1 f1 c1' o2).2 (by omega)
        have t1 : decide (0 < over) = false := decide_eq_false (by have := HK.out; omega)
        have ha := add_s (n := 2) (c := 2) HL.out V3.out (Rows.weak byM R3.out fun _ _ _ => trivial) (by decide) (by decide) (by decide) (by rw [wide_two]; omega) (by omega)
        rw [e] at ha
        dsimp only at ha
        clear e
        go_wp2_with fail
        refine ha.mono ?_
        clear ha
        rintro e W5 ⟨rfl, V5, K5⟩
        have ho := open_any HL.out V5.dp (fun k hk => Nat.lt_of_lt_of_le (HX.out k hk) K5.size) (by omega)
        obtain ⟨U, eU, _⟩ := open_live AT V5.dp.ok fT
        rw [eU] at ho
        dsimp only at ho
        have R5 := R3.out.keep byM K5
        clear eU V3 R3 AL f1 K5
        go_wp2_with fail
        refine ho.mono ?_
        clear ho
        rintro e W6 h
        rcases h with ⟨h, _⟩ | ⟨_, v2, r2, Y2, rfl, hv, hV, ⟨A9, c9, hr, hc, hR⟩, hY, hD, hK6⟩
        · exact absurd rfl h
        have hr' : r2 = .slice A9 2 c9 := hr
        subst hr'
        have R6 := (Rows.weak byM R5 fun k hk _ => hk.1).keep byM hK6
        have SM := Lib.hid (same_self (n := 2) (c := c9) (d := 2) W6 (Rows.weak byM hR fun _ _ _ => trivial) (Rows.weak byM R6 fun _ _ _ => trivial) (by decide))
        have HB := Lib.hid hD.bel
        clear hr hv hV hc hR hY hD hK6 R5 R6 V5
        go_wp2_with fail
        refine (SM.out).mono ?_
        rintro e W7 ⟨rfl, b7⟩
        have HB2 := Lib.hid (HB.out.trans (b7.mono HB.out.size))
        clear SM b7 HB
        go_wp2_with fail
        refine (works_any (HL.out.later HL.out.lt HB2.out)).mono ?_
        rintro e W8 ⟨rfl, b8⟩
        have HC := Lib.hid (HB2.out.trans (b8.mono HB2.out.size))
        clear b8 HB2
        go_wp2_with fail
        go_ret
        exact ⟨rfl, HC.out⟩
    | true =>
      by_cases hov : 32768 < K
      · have e := (long_compact AL m1 f1 c1' o2).1 hov
        have t1 : decide (0 < over) = true := decide_eq_true (by have := HK.out; omega)
        have ha := compact_s (n := 2) (c := 2) HL.out V3.out R3.out (by decide) (by decide) (by decide) (by rw [wide_two]; omega) (by omega)
        rw [e] at ha
        dsimp only at ha
        clear e
        go_wp2_with fail
        refine ha.mono ?_
        clear ha
        rintro e W5 ⟨rfl, V5, K5⟩
        have ho := open_any HL.out V5.dp (fun k hk => Nat.lt_of_lt_of_le (HX.out k hk) K5.size) (by omega)
        obtain ⟨U, eU, _⟩ := open_live AL V5.dp.ok f1
        rw [eU] at ho
        dsimp only at ho
        have R5 := R3.out.keep byM K5
        clear eU V3 R3 AL f1 K5
        go_wp2_with fail
        refine ho.mono ?_
        clear ho
        rintro e W6 h
        rcases h with ⟨h, _⟩ | ⟨_, v2, r2, Y2, rfl, hv, hV, ⟨A9, c9, hr, hc, hR⟩, hY, hD, hK6⟩
        · exact absurd rfl h
        have hr' : r2 = .slice A9 0 c9 := hr
        subst hr'
        have HB := Lib.hid hD.bel
        clear hr hv hV hc hR hY hD hK6 R5 V5
        go_wp2_with fail
        refine (works_any (HL.out.later HL.out.lt HB.out)).mono ?_
        rintro e W7 ⟨rfl, b7⟩
        have HC := Lib.hid (HB.out.trans (b7.mono HB.out.size))
        clear b7 HB
        go_wp2_with fail
        go_ret
        exact ⟨rfl, HC.out⟩
      · obtain ⟨T, e, AT, fT, cT⟩ := (long_compact AL m1 f1 c1' o2).2 (by omega)
        have t1 : decide (0 < over) = false := decide_eq_false (by have := HK.out; omega)
        have ha := compact_s (n := 2) (c := 2) HL.out V3.out R3.out (by decide) (by decide) (by decide) (by rw [wide_two]; omega) (by omega)
        rw [e] at ha
        dsimp only at ha
        clear e
        go_wp2_with fail
        refine ha.mono ?_
        clear ha
        rintro e W5 ⟨rfl, V5, K5⟩
        have ho := open_any HL.out V5.dp (fun k hk => Nat.lt_of_lt_of_le (HX.out k hk) K5.size) (by omega)
        obtain ⟨U, eU, _⟩ := open_live AT V5.dp.ok fT
        rw [eU] at ho
        dsimp only at ho
        have R5 := R3.out.keep byM K5
        clear eU V3 R3 AL f1 K5
        go_wp2_with fail
        refine ho.mono ?_
        clear ho
        rintro e W6 h
        rcases h with ⟨h, _⟩ | ⟨_, v2, r2, Y2, rfl, hv, hV, ⟨A9, c9, hr, hc, hR⟩, hY, hD, hK6⟩
        · exact absurd rfl h
        have hr' : r2 = .slice A9 2 c9 := hr
        subst hr'
        have R6 := (Rows.weak byM R5 fun k hk _ => hk.1).keep byM hK6
        have SM := Lib.hid (same_self (n := 2) (c := c9) (d := 2) W6 (Rows.weak byM hR fun _ _ _ => trivial) (Rows.weak byM R6 fun _ _ _ => trivial) (by decide))
        have HB := Lib.hid hD.bel
        clear hr hv hV hc hR hY hD hK6 R5 R6 V5
        go_wp2_with fail
        refine (SM.out).mono ?_
        rintro e W7 ⟨rfl, b7⟩
        have HB2 := Lib.hid (HB.out.trans (b7.mono HB.out.size))
        clear SM b7 HB
        go_wp2_with fail
        refine (works_any (HL.out.later HL.out.lt HB2.out)).mono ?_
        rintro e W8 ⟨rfl, b8⟩
        have HC := Lib.hid (HB2.out.trans (b8.mono HB2.out.size))
        clear b8 HB2
        go_wp2_with fail
        go_ret
        exact ⟨rfl, HC.out⟩
end Go.Proofs.YtjcphpmlekfhdaaDoor
