/- Whether two transactions are the same: the program's, and the reference's. No condition. -/
import Derived.Test.YtbdjcbdnhaddoaaDoorSameA
import Derived.Test.YtbdjcbdnhaddoaaDoorGc
namespace Go.Proofs.YtbdjcbdnhaddoaaDoor
open Go.RowKit

theorem wpList_load_stop {w : World} {ops : Array Oper} {rest : List Oper} {o : Oper} {a : Act} {Q : Exit → Act → World → Prop} {T : TypeId} {n b k : Nat} {vs : List Value} (hgd : o.guard = none) (x : Operand) (ho : o.op = .load T x) (hx : a.eval x = .pointer (some ⟨b, k, none⟩)) (hT : IsRow T n) (hr : w.rangeAt b k vs) (hl : vs.length = n)
    (h : Hid True → wpList Tryd.prog ops Q rest (a.put o.dst (.agg vs.toArray)) w) : wpList Tryd.prog ops Q (o :: rest) a w := wpList_load_part hgd x ho hx hT hr hl (h (Lib.hid trivial))
theorem txD_iff (x y : TxD) : (x = y) ↔ (x.ver = y.ver ∧ x.lock = y.lock ∧ x.ins = y.ins ∧ x.outs = y.outs) := by
  constructor
  · rintro rfl; exact ⟨rfl, rfl, rfl, rfl⟩
  · rintro ⟨a, b, c, d⟩
    cases x; cases y
    simp_all
set_option maxRecDepth 100000 in
set_option maxHeartbeats 8000000 in
theorem txSame_any {s t : TxD} {Ai : Option Addr} {ni ci : Nat} {Ao : Option Addr} {no co : Nat} {Bi : Option Addr} {mi di : Nat} {Bo : Option Addr} {mo do_ : Nat} (w : World) (hS : TxR w s Ai ni ci Ao no co) (hT : TxR w t Bi mi di Bo mo do_) :
    Calls Tryd.prog 26 #[.agg (txV s.ver Ai ni ci Ao no co s.lock).toArray, .agg (txV t.ver Bi mi di Bo mo do_ t.lock).toArray] w fun e w' => e = .returned (.bool (decide (s = t))) ∧ Below w.heap.size w w' := by
  have b1 := (Below.refl w.heap.size w).alloc (Nat.le_refl _) (.cells (txV s.ver Ai ni ci Ao no co s.lock).toArray 26)
  have b2 := b1.alloc b1.size (.cells (txV t.ver Bi mi di Bo mo do_ t.lock).toArray 26)
  have r1 := (Ro.new w 26 (txV s.ver Ai ni ci Ao no co s.lock)).alloc (.cells (txV t.ver Bi mi di Bo mo do_ t.lock).toArray 26)
  have r2 := Ro.new (w.alloc (.cells (txV s.ver Ai ni ci Ao no co s.lock).toArray 26)) 26 (txV t.ver Bi mi di Bo mo do_ t.lock)
  rw [World.size_alloc] at r2
  have S2 := Lib.hid (hS.later b2)
  have T2 := Lib.hid (hT.later b2)
  obtain ⟨w2, hw2⟩ : ∃ w2, (w.alloc (.cells (txV s.ver Ai ni ci Ao no co s.lock).toArray 26)).alloc (.cells (txV t.ver Bi mi di Bo mo do_ t.lock).toArray 26) = w2 := ⟨_, rfl⟩
  rw [hw2] at b2 r1 r2 S2 T2
  have B2 := Lib.hid b2
  have E := Lib.hid (txD_iff s t)
  have vb1 := hS.ver
  have vb2 := hT.ver
  have lb1 := hS.lock
  have lb2 := hT.lock
  obtain ⟨v1, hv1⟩ : ∃ z, s.ver = z := ⟨_, rfl⟩
  obtain ⟨v2, hv2⟩ : ∃ z, t.ver = z := ⟨_, rfl⟩
  obtain ⟨k1, hk1⟩ : ∃ z, s.lock = z := ⟨_, rfl⟩
  obtain ⟨k2, hk2⟩ : ∃ z, t.lock = z := ⟨_, rfl⟩
  rw [hv1] at vb1 hw2 r1 ⊢
  rw [hv2] at vb2 hw2 r2 ⊢
  rw [hk1] at lb1 hw2 r1 ⊢
  rw [hk2] at lb2 hw2 r2 ⊢
  have HV1 := Lib.hid hv1
  have HV2 := Lib.hid hv2
  have HK1 := Lib.hid hk1
  have HK2 := Lib.hid hk2
  obtain ⟨q1, hq1⟩ : ∃ q, w.heap.size = q := ⟨_, rfl⟩
  rw [hq1] at r1 r2
  have HX : Hid (∀ u, Below w2.heap.size w2 u → Ro u q1 26 (txV v1 Ai ni ci Ao no co k1)) := Lib.hid (fun u g => r1.later g)
  have HY : Hid (∀ u, Below w2.heap.size w2 u → Ro u (q1 + 1) 26 (txV v2 Bi mi di Bo mo do_ k2)) := Lib.hid (fun u g => r2.later g)
  have a0 := (HX.out w2 (Below.refl _ _)).cell (k := 0) (v := .int .u32 (v1 : Int)) rfl
  have a1 := (HX.out w2 (Below.refl _ _)).cell (k := 1) (v := .slice Ai ni ci) rfl
  have a2 := (HX.out w2 (Below.refl _ _)).cell (k := 2) (v := .slice Ao no co) rfl
  have a3 := (HX.out w2 (Below.refl _ _)).cell (k := 3) (v := .int .u32 (k1 : Int)) rfl
  have c0 := (HY.out w2 (Below.refl _ _)).cell (k := 0) (v := .int .u32 (v2 : Int)) rfl
  have c1 := (HY.out w2 (Below.refl _ _)).cell (k := 1) (v := .slice Bi mi di) rfl
  have c2 := (HY.out w2 (Below.refl _ _)).cell (k := 2) (v := .slice Bo mo do_) rfl
  have c3 := (HY.out w2 (Below.refl _ _)).cell (k := 3) (v := .int .u32 (k2 : Int)) rfl
  have CI := equalI_any (c := ci) (d := di) w2 S2.out.i2 S2.out.ins T2.out.ins
  obtain ⟨p, hp⟩ : ∃ p, decide (s.ins = t.ins) = p := ⟨_, rfl⟩
  rw [hp] at CI
  have HP := Lib.hid hp
  have HCI := Lib.hid CI
  obtain ⟨q, hq⟩ : ∃ p, decide (s.outs = t.outs) = p := ⟨_, rfl⟩
  have HQ := Lib.hid hq
  clear hS hT b1 b2 r1 r2 hv1 hv2 hk1 hk2 hp hq CI
  go_enter Tryd.func26, Tryd.ntmps26
  by_cases h1 : v1 = v2
  · subst h1
    have t0 : ((v1 : Int) == (v1 : Int)) = true := by simp
    by_cases h2 : k1 = k2
    · subst h2
      have t1 : ((k1 : Int) == (k1 : Int)) = true := by simp
      go_wp2_with fail
      refine HCI.out.mono ?_
      rintro e w3 ⟨rfl, hb⟩
      have B3 := Lib.hid hb
      clear HCI hb hw2 hq1 a0 a1 a2 a3 c0 c1 c2 c3
      cases p with
      | false =>
        have N := Lib.hid (fun h => of_decide_eq_false HP.out (E.out.1 h).2.2.1)
        go_wp2_with fail
        go_ret
        exact ⟨by rw [decide_eq_false N.out]; rfl, B2.out.trans (B3.out.mono B2.out.size)⟩
      | true =>
        have P0 := Lib.hid (of_decide_eq_true HP.out)
        have CO := equalO_any (c := co) (d := do_) w3 S2.out.o2 (S2.out.outs.later outR_mono B3.out) (T2.out.outs.later outR_mono B3.out)
        rw [HQ.out] at CO
        have HCO := Lib.hid CO
        clear CO
        have a0 := (HX.out w3 B3.out).cell (k := 0) (v := .int .u32 (v1 : Int)) rfl
        have a1 := (HX.out w3 B3.out).cell (k := 1) (v := .slice Ai ni ci) rfl
        have a2 := (HX.out w3 B3.out).cell (k := 2) (v := .slice Ao no co) rfl
        have a3 := (HX.out w3 B3.out).cell (k := 3) (v := .int .u32 (k1 : Int)) rfl
        have c0 := (HY.out w3 B3.out).cell (k := 0) (v := .int .u32 (v1 : Int)) rfl
        have c1 := (HY.out w3 B3.out).cell (k := 1) (v := .slice Bi mi di) rfl
        have c2 := (HY.out w3 B3.out).cell (k := 2) (v := .slice Bo mo do_) rfl
        have c3 := (HY.out w3 B3.out).cell (k := 3) (v := .int .u32 (k1 : Int)) rfl
        go_wp2_with fail
        refine HCO.out.mono ?_
        rintro e w4 ⟨rfl, hb⟩
        have B4 := Lib.hid ((B2.out.trans (B3.out.mono B2.out.size)).trans (hb.mono (Nat.le_trans B2.out.size B3.out.size)))
        clear HCO hb a0 a1 a2 a3 c0 c1 c2 c3
        go_wp2_with fail
        go_ret
        refine ⟨?_, B4.out⟩
        have : decide (s = t) = q := by
          rw [← HQ.out, decide_eq_decide, E.out]
          exact ⟨fun h => h.2.2.2, fun h => ⟨by rw [HV1.out, HV2.out], by rw [HK1.out, HK2.out], P0.out, h⟩⟩
        rw [this]; rfl
    · have t1 : ((k1 : Int) == (k2 : Int)) = false := by rw [beq_eq_false_iff_ne]; omega
      have N := Lib.hid (fun h => h2 (by rw [← HK1.out, ← HK2.out]; exact (E.out.1 h).2.1))
      clear h2
      go_wp2_with fail
      go_ret
      exact ⟨by rw [decide_eq_false N.out]; rfl, B2.out⟩
  · have t0 : ((v1 : Int) == (v2 : Int)) = false := by rw [beq_eq_false_iff_ne]; omega
    have N := Lib.hid (fun h => h1 (by rw [← HV1.out, ← HV2.out]; exact (E.out.1 h).1))
    clear h1
    go_wp2_with fail
    go_ret
    exact ⟨by rw [decide_eq_false N.out]; rfl, B2.out⟩
set_option maxRecDepth 100000 in
set_option maxHeartbeats 8000000 in
theorem refLists_any {A B : Option Addr} {n c m d : Nat} {l k : List (List Nat)} (w : World) (hn : n ≤ 140737488351232) (hA : Rows w anyP 1 BsR A n l) (hB : Rows w anyP 1 BsR B m k) :
    Calls Tryd.prog 44 #[.slice A n c, .slice B m d] w fun e w' => e = .returned (.bool (decide (l = k))) ∧ Below w.heap.size w w' := by
  have HA := Lib.hid hA
  have HB := Lib.hid hB
  have NA := Lib.hid hA.len
  have NB := Lib.hid hB.len
  clear hA hB
  go_enter Tryd.func44, Tryd.ntmps44
  by_cases hnm : n = m
  · subst hnm
    have t0 : ((n : Int) != (n : Int)) = false := by simp
    go_wp2_with fail
    clear t0
    go_loopw [5] (fun i wr => ∃ p : Nat, p ≤ n ∧ i = .int .i64 (p : Nat) ∧ l.take p = k.take p ∧ Below w.heap.size w wr) (fun i _ => n - (intOf i).toNat)
    case atStart => exact ⟨0, Nat.zero_le _, rfl, rfl, Below.refl _ _⟩
    case round =>
      obtain ⟨p, hp, rfl, ht, bel⟩ := hrel
      have HT := Lib.hid ht
      have BW := Lib.hid bel
      clear ht bel
      by_cases hlt : p < n
      · have t1 : decide ((p : Int) < (n : Int)) = true := decide_eq_true (by omega)
        obtain ⟨x, hx, hxk, hxm⟩ := getL NA.out hlt
        obtain ⟨y, hy, hyk, hym⟩ := getL NB.out hlt
        have TM := Lib.hid (takes_more hxk hyk HT.out)
        have NE := Lib.hid (ne_at hx hy)
        obtain ⟨b1, o1, _, rfl, _⟩ := HA.out.cel (by omega)
        obtain ⟨b2, o2, _, rfl, _⟩ := HB.out.cel (by omega)
        have ad1 := add_at b1 o1
        have ad2 := add_at b2 o2
        obtain ⟨hb1, V1, hV1, hr1, Bx, mx, cx, rfl, hx1, hx2, hBx⟩ := HA.out.nth hx
        obtain ⟨hb2, V2, hV2, hr2, By, my, cy, rfl, hy1, hy2, hBy⟩ := HB.out.nth hy
        have n1 : ∀ u : After wr, u.w.cell? ⟨b1, o1 + p, none⟩ = some (.slice Bx mx cx) := fun u => by
          have := range_later hr1 hb1 (BW.out.trans (u.below.mono BW.out.size)) 0 _ rfl
          rwa [Nat.mul_one, Nat.add_zero] at this
        have n2 : ∀ u : After wr, u.w.cell? ⟨b2, o2 + p, none⟩ = some (.slice By my cy) := fun u => by
          have := range_later hr2 hb2 (BW.out.trans (u.below.mono BW.out.size)) 0 _ rfl
          rwa [Nat.mul_one, Nat.add_zero] at this
        have e1 := str_dec hBx.bs.byt hBy.bs.byt
        have s1 : ∀ u : After wr, (convert 29 9 (.slice Bx mx cx)).run Tryd.prog u.w = .ok (.string (strB x)) u.w := fun u => run_str (hBx.keep (Kept.of_below (BW.out.trans (u.below.mono BW.out.size)))).bs
        have s2 : ∀ u : After wr, (convert 29 9 (.slice By my cy)).run Tryd.prog u.w = .ok (.string (strB y)) u.w := fun u => run_str (hBy.keep (Kept.of_below (BW.out.trans (u.below.mono BW.out.size)))).bs
        obtain ⟨q, hq⟩ : ∃ q, decide (x = y) = q := ⟨_, rfl⟩
        rw [hq] at e1
        have HQ := Lib.hid hq
        obtain ⟨S, hS⟩ : ∃ S, strB x = S := ⟨_, rfl⟩
        obtain ⟨T, hT⟩ : ∃ S, strB y = S := ⟨_, rfl⟩
        rw [hS] at s1 e1
        rw [hT] at s2 e1
        clear hx hxk hxm hy hyk hym hr1 hr2 hb1 hb2 hV1 hV2 hBx hBy hq hS hT
        go_wp2_with fail
        refine wp_region_after (by kernel_rfl) (by kernel_rfl) ?_
        repeat (go_big_quiet_step (fail))
        refine wpQuiet_nil ?_
        rintro wz ⟨u, rfl⟩
        have Bz := Lib.hid (BW.out.trans (u.below.mono BW.out.size))
        clear n1 n2 s1 s2 BW
        cases q with
        | true =>
          go_wp2_with fail
          exact ⟨⟨p + 1, by omega, by go_num, TM.out (of_decide_eq_true HQ.out), Bz.out⟩, by simp [intOf]; omega⟩
        | false =>
          go_wp2_with fail
          go_ret
          exact ⟨by rw [decide_eq_false (NE.out (of_decide_eq_false HQ.out))]; rfl, Bz.out⟩
      · have t1 : decide ((p : Int) < (n : Int)) = false := decide_eq_false (by omega)
        obtain rfl : p = n := by omega
        have E := Lib.hid (take_ext NA.out NB.out HT.out)
        go_wp2_with fail
        go_ret
        exact ⟨by rw [decide_eq_true E.out]; rfl, BW.out⟩
  · have t0 : ((n : Int) != (m : Int)) = true := by simp; omega
    have E := Lib.hid (len_ne NA.out NB.out hnm)
    clear hnm
    go_wp2_with fail
    go_ret
    exact ⟨by rw [decide_eq_false E.out]; rfl, Below.refl _ _⟩
set_option maxRecDepth 100000 in
set_option maxHeartbeats 16000000 in
theorem refSame_any {s t : TxD} {Ai : Option Addr} {ni ci : Nat} {Ao : Option Addr} {no co : Nat} {Bi : Option Addr} {mi di : Nat} {Bo : Option Addr} {mo do_ : Nat} (w : World) (hS : TxR w s Ai ni ci Ao no co) (hT : TxR w t Bi mi di Bo mo do_) :
    Calls Tryd.prog 25 #[.agg (txV s.ver Ai ni ci Ao no co s.lock).toArray, .agg (txV t.ver Bi mi di Bo mo do_ t.lock).toArray] w fun e w' => e = .returned (.bool (decide (s = t))) ∧ Below w.heap.size w w' := by
  have b1 := (Below.refl w.heap.size w).alloc (Nat.le_refl _) (.cells (txV s.ver Ai ni ci Ao no co s.lock).toArray 26)
  have b2 := b1.alloc b1.size (.cells (txV t.ver Bi mi di Bo mo do_ t.lock).toArray 26)
  have r1 := (Ro.new w 26 (txV s.ver Ai ni ci Ao no co s.lock)).alloc (.cells (txV t.ver Bi mi di Bo mo do_ t.lock).toArray 26)
  have r2 := Ro.new (w.alloc (.cells (txV s.ver Ai ni ci Ao no co s.lock).toArray 26)) 26 (txV t.ver Bi mi di Bo mo do_ t.lock)
  rw [World.size_alloc] at r2
  have S2 := Lib.hid (hS.later b2)
  have T2 := Lib.hid (hT.later b2)
  obtain ⟨w2, hw2⟩ : ∃ w2, (w.alloc (.cells (txV s.ver Ai ni ci Ao no co s.lock).toArray 26)).alloc (.cells (txV t.ver Bi mi di Bo mo do_ t.lock).toArray 26) = w2 := ⟨_, rfl⟩
  rw [hw2] at b2 r1 r2 S2 T2
  have B2 := Lib.hid b2
  have E := Lib.hid (txD_iff s t)
  have vb1 := hS.ver
  have vb2 := hT.ver
  have lb1 := hS.lock
  have lb2 := hT.lock
  obtain ⟨v1, hv1⟩ : ∃ z, s.ver = z := ⟨_, rfl⟩
  obtain ⟨v2, hv2⟩ : ∃ z, t.ver = z := ⟨_, rfl⟩
  obtain ⟨k1, hk1⟩ : ∃ z, s.lock = z := ⟨_, rfl⟩
  obtain ⟨k2, hk2⟩ : ∃ z, t.lock = z := ⟨_, rfl⟩
  rw [hv1] at vb1 hw2 r1 ⊢
  rw [hv2] at vb2 hw2 r2 ⊢
  rw [hk1] at lb1 hw2 r1 ⊢
  rw [hk2] at lb2 hw2 r2 ⊢
  have HV1 := Lib.hid hv1
  have HV2 := Lib.hid hv2
  have HK1 := Lib.hid hk1
  have HK2 := Lib.hid hk2
  obtain ⟨q1, hq1⟩ : ∃ q, w.heap.size = q := ⟨_, rfl⟩
  rw [hq1] at r1 r2
  have HX : Hid (∀ u, Below w2.heap.size w2 u → Ro u q1 26 (txV v1 Ai ni ci Ao no co k1)) := Lib.hid (fun u g => r1.later g)
  have HY : Hid (∀ u, Below w2.heap.size w2 u → Ro u (q1 + 1) 26 (txV v2 Bi mi di Bo mo do_ k2)) := Lib.hid (fun u g => r2.later g)
  have a0 := (HX.out w2 (Below.refl _ _)).cell (k := 0) (v := .int .u32 (v1 : Int)) rfl
  have a1 := (HX.out w2 (Below.refl _ _)).cell (k := 1) (v := .slice Ai ni ci) rfl
  have a2 := (HX.out w2 (Below.refl _ _)).cell (k := 2) (v := .slice Ao no co) rfl
  have a3 := (HX.out w2 (Below.refl _ _)).cell (k := 3) (v := .int .u32 (k1 : Int)) rfl
  have c0 := (HY.out w2 (Below.refl _ _)).cell (k := 0) (v := .int .u32 (v2 : Int)) rfl
  have c1 := (HY.out w2 (Below.refl _ _)).cell (k := 1) (v := .slice Bi mi di) rfl
  have c2 := (HY.out w2 (Below.refl _ _)).cell (k := 2) (v := .slice Bo mo do_) rfl
  have c3 := (HY.out w2 (Below.refl _ _)).cell (k := 3) (v := .int .u32 (k2 : Int)) rfl
  have NS := Lib.hid hS.ins.len
  have NT := Lib.hid hT.ins.len
  have MS := Lib.hid hS.outs.len
  have MT := Lib.hid hT.outs.len
  have hni := hS.i2
  have hno := hS.o2
  have hmi := hT.i2
  have hmo := hT.o2
  clear hS hT b1 b2 r1 r2 hv1 hv2 hk1 hk2
  go_enter Tryd.func25, Tryd.ntmps25
  by_cases h1 : v1 = v2
  case neg =>
    have t0 : ((v1 : Int) != (v2 : Int)) = true := by simp; omega
    have N := Lib.hid (fun h => h1 (by rw [← HV1.out, ← HV2.out]; exact (E.out.1 h).1))
    clear h1
    go_wp2_with fail
    go_ret
    exact ⟨by rw [decide_eq_false N.out]; rfl, B2.out⟩
  subst h1
  have t0 : ((v1 : Int) != (v1 : Int)) = false := by simp
  by_cases h2 : k1 = k2
  case neg =>
    have t1 : ((k1 : Int) != (k2 : Int)) = true := by simp; omega
    have N := Lib.hid (fun h => h2 (by rw [← HK1.out, ← HK2.out]; exact (E.out.1 h).2.1))
    clear h2
    go_wp2_with fail
    go_ret
    exact ⟨by rw [decide_eq_false N.out]; rfl, B2.out⟩
  subst h2
  have t1 : ((k1 : Int) != (k1 : Int)) = false := by simp
  by_cases h3 : ni = mi
  case neg =>
    have t2 : ((ni : Int) != (mi : Int)) = true := by simp; omega
    have N := Lib.hid (fun h => h3 (by rw [← NS.out, ← NT.out, (E.out.1 h).2.2.1]))
    clear h3
    go_wp2_with fail
    go_ret
    exact ⟨by rw [decide_eq_false N.out]; rfl, B2.out⟩
  subst h3
  have t2 : ((ni : Int) != (ni : Int)) = false := by simp
  by_cases h4 : no = mo
  case neg =>
    have t3 : ((no : Int) != (mo : Int)) = true := by simp; omega
    have N := Lib.hid (fun h => h4 (by rw [← MS.out, ← MT.out, (E.out.1 h).2.2.2]))
    clear h4
    go_wp2_with fail
    go_ret
    exact ⟨by rw [decide_eq_false N.out]; rfl, B2.out⟩
  subst h4
  have t3 : ((no : Int) != (no : Int)) = false := by simp
  go_wp2_with fail
  clear t0 t1 t2 t3 hw2 hq1 a0 a1 a2 a3 c0 c1 c2 c3
  go_loopw [5] (fun i wr => ∃ p : Nat, p ≤ ni ∧ i = .int .i64 (p : Nat) ∧ s.ins.take p = t.ins.take p ∧ Below w2.heap.size w2 wr) (fun i _ => ni - (intOf i).toNat)
  case atStart => exact ⟨0, Nat.zero_le _, rfl, rfl, Below.refl _ _⟩
  case round =>
    obtain ⟨p, hp, rfl, ht, bel⟩ := hrel
    have HT := Lib.hid ht
    have BW := Lib.hid bel
    clear ht bel
    have a1 := (HX.out wr BW.out).cell (k := 1) (v := .slice Ai ni ci) rfl
    by_cases hlt : p < ni
    · have t1 : decide ((p : Int) < (ni : Int)) = true := decide_eq_true (by omega)
      obtain ⟨x, hx, hxk, hxm⟩ := getL NS.out hlt
      obtain ⟨y, hy, hyk, hym⟩ := getL NT.out hlt
      have TM := Lib.hid (takes_more hxk hyk HT.out)
      have NE := Lib.hid (ne_at hx hy)
      obtain ⟨b1, o1, _, rfl, _⟩ := S2.out.ins.cel (by omega)
      obtain ⟨b2, o2, _, rfl, _⟩ := T2.out.ins.cel (by omega)
      have ad1 := add_at b1 o1
      have ad2 := add_at b2 o2
      obtain ⟨hb1, V1, hV1, hr1, As, ns, cs, Aw, nw, cw, rfl, hI⟩ := S2.out.ins.nth hx
      obtain ⟨hb2, V2, hV2, hr2, Bs_, ms, ds, Bw, mw, dw, rfl, hJ⟩ := T2.out.ins.nth hy
      have IX := Lib.hid hI
      have IY := Lib.hid hJ
      have W1 := Lib.hid hV1
      have W2 := Lib.hid hV2
      have Q1 : Hid (∀ u, Below w2.heap.size w2 u → u.rangeAt b1 (o1 + p * 36) (inV x.h x.n As ns cs x.q Aw nw cw)) := Lib.hid (fun u g => range_later hr1 hb1 g)
      have Q2 : Hid (∀ u, Below w2.heap.size w2 u → u.rangeAt b2 (o2 + p * 36) (inV y.h y.n Bs_ ms ds y.q Bw mw dw)) := Lib.hid (fun u g => range_later hr2 hb2 g)
      clear hx hxk hxm hy hyk hym hr1 hr2 hb1 hb2 hV1 hV2 hI hJ
      go_wp2_with fail
      clear a1
      refine wp_region_grow (W := wr) 10 (by kernel_rfl) (Nat.le_of_ble_eq_true (by kernel_rfl)) (by kernel_rfl) (by kernel_rfl) (fun _ _ _ _ _ h => h) ?_
      apply Exists.intro
      refine ⟨?_, ?_⟩
      · intro wg hg
        simp only [List.take_succ_cons, List.take_zero]
        have HU : Hid (∀ u : After wg, Below w2.heap.size w2 u.w) := Lib.hid (fun u => BW.out.trans ((hg.trans u.below).mono BW.out.size))
        have a1 : ∀ u : After wg, u.w.cell? ⟨q1, 1, none⟩ = some (.slice (some ⟨b1, o1, none⟩) ni ci) := fun u => (HX.out u.w (HU.out u)).cell (k := 1) rfl
        have c1 : ∀ u : After wg, u.w.cell? ⟨q1 + 1, 1, none⟩ = some (.slice (some ⟨b2, o2, none⟩) ni di) := fun u => (HY.out u.w (HU.out u)).cell (k := 1) rfl
        repeat (go_big_quiet_step (fail))
        go_big_quiet_want
        refine quiet_load_part (.tmp 49) rfl rfl rowIn (fun w9 h9 => by obtain ⟨u, rfl⟩ := h9; exact Q1.out u.w (HU.out u)) W1.out ?_
        simp only [Act.put, List.setIfInBounds_toArray, List.set_cons_succ, List.set_cons_zero]
        go_big_quiet_on
        repeat (go_big_quiet_step (fail))
        go_big_quiet_want
        refine quiet_load_part (.tmp 54) rfl rfl rowIn (fun w9 h9 => by obtain ⟨u, rfl⟩ := h9; exact Q2.out u.w (HU.out u)) W2.out ?_
        simp only [Act.put, List.setIfInBounds_toArray, List.set_cons_succ, List.set_cons_zero]
        go_big_quiet_on
        refine wpQuiet_nil ?_
        exact rfl
      intro wg hg
      show wpK _ _ _ _ _ 4 _ _ _
      refine wpK_box2 (f := 2) (i := 10) (k := 11) (c := zIn.toArray) (c2 := zIn.toArray) (T := 56) (T2 := 56) (by kernel_rfl) (by kernel_rfl) (by kernel_rfl) (by decide) rfl rfl rfl rfl rfl rfl (by decide) (fun a w => by go_simp; rfl) (fun a w => by go_simp; rfl) hg ?_
      intro B C wh gh lB lC ne HB_ HC_
      have ge := Lib.hid (Grows.trans hg gh)
      have LB := Nat.le_trans hg.size lB
      have LC := Nat.le_trans hg.size lC
      clear hg gh lB lC
      refine wpK_one (f := 1) (i := 12) (by kernel_rfl) rfl rfl ?_
      intro wc gc K hK
      refine wp_store_ro (.tmp 6) (.tmp 50) rfl rfl rfl rowIn (HB_.later gc) zIn_len W1.out (inV_one _ _ _ _ _ _ _ _ _) ?_
      intro wd RB gB
      have gd : Hid (Grows wr wd) := Lib.hid ((ge.out.trans gc).grown gB (Nat.le_trans ge.out.size gc.size) (fun q e => by injection e; omega))
      refine hK _ _ gd.out ?_
      have HC2 := Ro.far (HC_.later gc) gB (fun e => by injection e; omega)
      clear hK K gB gc HB_ HC_ ge
      refine wpK_one (f := 0) (i := 13) (by kernel_rfl) rfl rfl ?_
      intro we gc K hK
      refine wp_store_ro (.tmp 7) (.tmp 55) rfl rfl rfl rowIn (HC2.later gc) zIn_len W2.out (inV_one _ _ _ _ _ _ _ _ _) ?_
      intro wf RC gC
      have RB2 := Ro.far (RB.later gc) gC (fun e => by injection e; omega)
      have gf : Hid (Grows wr wf) := Lib.hid ((gd.out.trans gc).grown gC (Nat.le_trans gd.out.size gc.size) (fun q e => by injection e; omega))
      refine hK _ _ gf.out ?_
      clear hK K gC gc HC2 RB gd
      refine wpK_end (by kernel_rfl) ?_
      intro wi gi
      have RBi := Lib.hid (RB2.later gi)
      have RCi := Lib.hid (RC.later gi)
      have BI := Lib.hid (BW.out.trans ((Below.trans gf.out (gi.mono gf.out.size)).mono BW.out.size))
      clear RB2 RC gi gf BW LB LC ne Q1 Q2
      have f1 := Lib.hid (from_range RBi.out.whole)
      have f2 := Lib.hid (from_range RCi.out.whole)
      have l1 := Lib.hid (fromV_len IX.out.ok.h x.n)
      have l2 := Lib.hid (fromV_len IY.out.ok.h y.n)
      have EQ := eq_place (n := x.n) (m := y.n) IX.out.ok.h IY.out.ok.h
      have D := Lib.hid (inD_iff x y)
      obtain ⟨p0, hp0⟩ : ∃ p, decide ((x.h, x.n) = (y.h, y.n)) = p := ⟨_, rfl⟩
      rw [hp0] at EQ
      obtain ⟨F1, hF1⟩ : ∃ F, fromV x.h x.n = F := ⟨_, rfl⟩
      obtain ⟨F2, hF2⟩ : ∃ F, fromV y.h y.n = F := ⟨_, rfl⟩
      rw [hF1] at f1 l1 EQ
      rw [hF2] at f2 l2 EQ
      have HP0 := Lib.hid hp0
      have m2 := RBi.out.cell (inV_at x.h IX.out.ok.h x.n As ns cs x.q Aw nw cw).2.1
      have m3 := RBi.out.cell (inV_at x.h IX.out.ok.h x.n As ns cs x.q Aw nw cw).2.2.1
      have m4 := RBi.out.cell (inV_at x.h IX.out.ok.h x.n As ns cs x.q Aw nw cw).2.2.2
      have d2 := RCi.out.cell (inV_at y.h IY.out.ok.h y.n Bs_ ms ds y.q Bw mw dw).2.1
      have d3 := RCi.out.cell (inV_at y.h IY.out.ok.h y.n Bs_ ms ds y.q Bw mw dw).2.2.1
      have d4 := RCi.out.cell (inV_at y.h IY.out.ok.h y.n Bs_ ms ds y.q Bw mw dw).2.2.2
      have s1 := run_str (c := cs) (IX.out.s.keep (Kept.of_below BI.out)).bs
      have s2 := run_str (c := ds) (IY.out.s.keep (Kept.of_below BI.out)).bs
      have e1 := str_dec IX.out.s.bs.byt IY.out.s.bs.byt
      have CL := refLists_any (c := cw) (d := dw) wi IX.out.w2 (IX.out.w.later bsR_mono BI.out) (IY.out.w.later bsR_mono BI.out)
      have xb := IX.out.ok.q
      have yb := IY.out.ok.q
      obtain ⟨xq, hxq⟩ : ∃ z, x.q = z := ⟨_, rfl⟩
      obtain ⟨yq, hyq⟩ : ∃ z, y.q = z := ⟨_, rfl⟩
      rw [hxq] at xb m3
      rw [hyq] at yb d3
      have HXQ := Lib.hid hxq
      have HYQ := Lib.hid hyq
      obtain ⟨q, hq⟩ : ∃ q, decide (x.s = y.s) = q := ⟨_, rfl⟩
      rw [hq] at e1
      have HQ := Lib.hid hq
      obtain ⟨z, hz⟩ : ∃ q, decide (x.w = y.w) = q := ⟨_, rfl⟩
      rw [hz] at CL
      have HZ := Lib.hid hz
      have HCL := Lib.hid CL
      obtain ⟨S, hS⟩ : ∃ S, strB x.s = S := ⟨_, rfl⟩
      obtain ⟨T, hT⟩ : ∃ S, strB y.s = S := ⟨_, rfl⟩
      rw [hS] at s1 e1
      rw [hT] at s2 e1
      clear hq CL hz hp0 hF1 hF2 hxq hyq hS hT
      cases p0 with
      | false =>
        have N := Lib.hid (NE.out fun h => of_decide_eq_false HP0.out (D.out.1 h).1)
        go_wp2_with (first | (refine wpList_load_part rfl (.tmp 56) rfl rfl rowPlace f1.out l1.out ?_) | (refine wpList_load_stop rfl (.tmp 58) rfl rfl rowPlace f2.out l2.out ?_))
        intro _
        go_wp2_with fail
        go_ret
        exact ⟨by rw [decide_eq_false (fun h => N.out (E.out.1 h).2.2.1)]; rfl, B2.out.trans (BI.out.mono B2.out.size)⟩
      | true =>
        have P0 := Lib.hid (of_decide_eq_true HP0.out)
        cases q with
        | false =>
          have N := Lib.hid (NE.out fun h => of_decide_eq_false HQ.out (D.out.1 h).2.2.1)
          go_wp2_with (first | (refine wpList_load_part rfl (.tmp 56) rfl rfl rowPlace f1.out l1.out ?_) | (refine wpList_load_stop rfl (.tmp 58) rfl rfl rowPlace f2.out l2.out ?_))
          intro _
          go_wp2_with fail
          go_ret
          exact ⟨by rw [decide_eq_false (fun h => N.out (E.out.1 h).2.2.1)]; rfl, B2.out.trans (BI.out.mono B2.out.size)⟩
        | true =>
          have Q0 := Lib.hid (of_decide_eq_true HQ.out)
          by_cases hv : xq = yq
          · subst hv
            have t4 : ((xq : Int) != (xq : Int)) = false := by simp
            go_wp2_with (first | (refine wpList_load_part rfl (.tmp 56) rfl rfl rowPlace f1.out l1.out ?_) | (refine wpList_load_stop rfl (.tmp 58) rfl rfl rowPlace f2.out l2.out ?_))
            intro _
            go_wp2_with fail
            refine HCL.out.mono ?_
            rintro e w4 ⟨rfl, hb4⟩
            have B4 := Lib.hid (BI.out.trans (hb4.mono BI.out.size))
            clear HCL hb4 m2 m3 m4 d2 d3 d4 s1 s2
            cases z with
            | false =>
              have N := Lib.hid (NE.out fun h => of_decide_eq_false HZ.out (D.out.1 h).2.2.2)
              go_wp2_with fail
              go_ret
              exact ⟨by rw [decide_eq_false (fun h => N.out (E.out.1 h).2.2.1)]; rfl, B2.out.trans (B4.out.mono B2.out.size)⟩
            | true =>
              have X := Lib.hid (TM.out (D.out.2 ⟨P0.out, by rw [HXQ.out, HYQ.out], Q0.out, of_decide_eq_true HZ.out⟩))
              go_wp2_with fail
              exact ⟨⟨p + 1, by omega, by go_num, X.out, B4.out⟩, by simp [intOf]; omega⟩
          · have t4 : ((xq : Int) != (yq : Int)) = true := by simp; omega
            have N := Lib.hid (NE.out fun h => hv (by rw [← HXQ.out, ← HYQ.out]; exact (D.out.1 h).2.1))
            clear hv
            go_wp2_with (first | (refine wpList_load_part rfl (.tmp 56) rfl rfl rowPlace f1.out l1.out ?_) | (refine wpList_load_stop rfl (.tmp 58) rfl rfl rowPlace f2.out l2.out ?_))
            intro _
            go_wp2_with fail
            go_ret
            exact ⟨by rw [decide_eq_false (fun h => N.out (E.out.1 h).2.2.1)]; rfl, B2.out.trans (BI.out.mono B2.out.size)⟩
    · have t1 : decide ((p : Int) < (ni : Int)) = false := decide_eq_false (by omega)
      obtain rfl : p = ni := by omega
      have EI := Lib.hid (take_ext NS.out NT.out HT.out)
      go_wp2_with fail
      clear a1 t1 HT hp hlt
      go_loopw [8] (fun i wr2 => ∃ j : Nat, j ≤ no ∧ i = .int .i64 (j : Nat) ∧ s.outs.take j = t.outs.take j ∧ Below w2.heap.size w2 wr2) (fun i _ => no - (intOf i).toNat)
      case atStart => exact ⟨0, Nat.zero_le _, rfl, rfl, BW.out⟩
      case round =>
        clear BW
        obtain ⟨j, hj, rfl, ht, bel⟩ := hrel
        have HT := Lib.hid ht
        have BW := Lib.hid bel
        clear ht bel
        have a2 := (HX.out wr BW.out).cell (k := 2) (v := .slice Ao no co) rfl
        by_cases hlt : j < no
        · have t1 : decide ((j : Int) < (no : Int)) = true := decide_eq_true (by omega)
          obtain ⟨x, hx, hxk, hxm⟩ := getL MS.out hlt
          obtain ⟨y, hy, hyk, hym⟩ := getL MT.out hlt
          have TM := Lib.hid (takes_more hxk hyk HT.out)
          have NE := Lib.hid (ne_at hx hy)
          obtain ⟨b1, o1, _, rfl, _⟩ := S2.out.outs.cel (by omega)
          obtain ⟨b2, o2, _, rfl, _⟩ := T2.out.outs.cel (by omega)
          have ad1 := add_at b1 o1
          have ad2 := add_at b2 o2
          obtain ⟨hb1, V1, hV1, hr1, As, ns, cs, rfl, hI⟩ := S2.out.outs.nth hx
          obtain ⟨hb2, V2, hV2, hr2, Bs_, ms, ds, rfl, hJ⟩ := T2.out.outs.nth hy
          have HU : Hid (∀ u : After wr, Below w2.heap.size w2 u.w) := Lib.hid (fun u => BW.out.trans (u.below.mono BW.out.size))
          have a2u : ∀ u : After wr, u.w.cell? ⟨q1, 2, none⟩ = some (.slice (some ⟨b1, o1, none⟩) no co) := fun u => (HX.out u.w (HU.out u)).cell (k := 2) rfl
          have c2u : ∀ u : After wr, u.w.cell? ⟨q1 + 1, 2, none⟩ = some (.slice (some ⟨b2, o2, none⟩) no do_) := fun u => (HY.out u.w (HU.out u)).cell (k := 2) rfl
          have n1 : ∀ u : After wr, u.w.cell? ⟨b1, o1 + j * 2, none⟩ = some (.int .u64 (x.v : Int)) := fun u => range_later hr1 hb1 (HU.out u) 0 _ rfl
          have n2 : ∀ u : After wr, u.w.cell? ⟨b1, o1 + j * 2 + 1, none⟩ = some (.slice As ns cs) := fun u => range_later hr1 hb1 (HU.out u) 1 _ rfl
          have n3 : ∀ u : After wr, u.w.cell? ⟨b2, o2 + j * 2, none⟩ = some (.int .u64 (y.v : Int)) := fun u => range_later hr2 hb2 (HU.out u) 0 _ rfl
          have n4 : ∀ u : After wr, u.w.cell? ⟨b2, o2 + j * 2 + 1, none⟩ = some (.slice Bs_ ms ds) := fun u => range_later hr2 hb2 (HU.out u) 1 _ rfl
          have s1 : ∀ u : After wr, (convert 29 9 (.slice As ns cs)).run Tryd.prog u.w = .ok (.string (strB x.s)) u.w := fun u => run_str (hI.s.keep (Kept.of_below (HU.out u))).bs
          have s2 : ∀ u : After wr, (convert 29 9 (.slice Bs_ ms ds)).run Tryd.prog u.w = .ok (.string (strB y.s)) u.w := fun u => run_str (hJ.s.keep (Kept.of_below (HU.out u))).bs
          have e1 := str_dec hI.s.bs.byt hJ.s.bs.byt
          have xb := hI.ok.v
          have yb := hJ.ok.v
          have D : Hid ((x = y) ↔ (x.v = y.v ∧ x.s = y.s)) := Lib.hid (by
            constructor
            · rintro rfl; exact ⟨rfl, rfl⟩
            · rintro ⟨a, b⟩; cases x; cases y; simp_all)
          obtain ⟨xv, hxv⟩ : ∃ z, x.v = z := ⟨_, rfl⟩
          obtain ⟨yv, hyv⟩ : ∃ z, y.v = z := ⟨_, rfl⟩
          rw [hxv] at n1 xb D
          rw [hyv] at n3 yb D
          obtain ⟨q, hq⟩ : ∃ q, decide (x.s = y.s) = q := ⟨_, rfl⟩
          rw [hq] at e1
          have HQ := Lib.hid hq
          obtain ⟨S, hS⟩ : ∃ S, strB x.s = S := ⟨_, rfl⟩
          obtain ⟨T, hT⟩ : ∃ S, strB y.s = S := ⟨_, rfl⟩
          rw [hS] at s1 e1
          rw [hT] at s2 e1
          clear hx hxk hxm hy hyk hym hr1 hr2 hb1 hb2 hV1 hV2 hI hJ hq hS hT hxv hyv
          by_cases hv : xv = yv
          · subst hv
            have t4 : ((xv : Int) != (xv : Int)) = false := by simp
            go_wp2_with fail
            clear a2
            refine wp_region_after (by kernel_rfl) (by kernel_rfl) ?_
            repeat (go_big_quiet_step (fail))
            refine wpQuiet_nil ?_
            rintro wz ⟨u, rfl⟩
            have Bz := Lib.hid (HU.out u)
            clear n1 n2 n3 n4 s1 s2 BW a2u c2u HU
            cases q with
            | true =>
              have X := Lib.hid (TM.out (D.out.2 ⟨by trivial, of_decide_eq_true HQ.out⟩))
              go_wp2_with fail
              exact ⟨⟨j + 1, by omega, by go_num, X.out, Bz.out⟩, by simp [intOf]; omega⟩
            | false =>
              have N := Lib.hid (NE.out fun h => of_decide_eq_false HQ.out (D.out.1 h).2)
              go_wp2_with fail
              go_ret
              exact ⟨by rw [decide_eq_false (fun h => N.out (E.out.1 h).2.2.2)]; rfl, B2.out.trans (Bz.out.mono B2.out.size)⟩
          · have t4 : ((xv : Int) != (yv : Int)) = true := by simp; omega
            have N := Lib.hid (NE.out fun h => hv (D.out.1 h).1)
            clear hv
            go_wp2_with fail
            clear a2
            refine wp_region_after (by kernel_rfl) (by kernel_rfl) ?_
            repeat (go_big_quiet_step (fail))
            refine wpQuiet_nil ?_
            rintro wz ⟨u, rfl⟩
            have Bz := Lib.hid (HU.out u)
            clear n1 n2 n3 n4 s1 s2 BW a2u c2u HU
            go_wp2_with fail
            go_ret
            exact ⟨by rw [decide_eq_false (fun h => N.out (E.out.1 h).2.2.2)]; rfl, B2.out.trans (Bz.out.mono B2.out.size)⟩
        · have t1 : decide ((j : Int) < (no : Int)) = false := decide_eq_false (by omega)
          obtain rfl : j = no := by omega
          have EO := Lib.hid (take_ext MS.out MT.out HT.out)
          go_wp2_with fail
          go_ret
          exact ⟨by rw [decide_eq_true (E.out.2 ⟨by rw [HV1.out, HV2.out], by rw [HK1.out, HK2.out], EI.out, EO.out⟩)]; rfl, B2.out.trans (BW.out.mono B2.out.size)⟩
end Go.Proofs.YtbdjcbdnhaddoaaDoor
