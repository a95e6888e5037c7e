/- Whether two transactions are the same, as the program says it. No condition. -/
import Derived.Test.YtbdjcbdnhaddoaaDoorGs
namespace Go.Proofs.YtbdjcbdnhaddoaaDoor
open Go.RowKit

theorem ne_at {α : Type} {l m : List α} {k : Nat} {x y : α} (h1 : l[k]? = some x) (h2 : m[k]? = some y) (h : x ≠ y) : l ≠ m := fun e => h (by rw [e, h2] at h1; injection h1 with h1; exact h1.symm)
theorem len_ne {α : Type} {l m : List α} {a b : Nat} (h1 : l.length = a) (h2 : m.length = b) (h : a ≠ b) : l ≠ m := fun e => h (by rw [← h1, ← h2, e])
theorem take_ext {α : Type} {l m : List α} {k : Nat} (h1 : l.length = k) (h2 : m.length = k) (h : l.take k = m.take k) : l = m := by
  rwa [List.take_of_length_le (by omega), List.take_of_length_le (by omega)] at h
theorem takes_more {α : Type} {l m : List α} {k : Nat} {x y : α} (h1 : l.take (k + 1) = l.take k ++ [x]) (h2 : m.take (k + 1) = m.take k ++ [y]) (h : l.take k = m.take k) (e : x = y) : l.take (k + 1) = m.take (k + 1) := by rw [h1, h2, h, e]
set_option maxRecDepth 100000 in
set_option maxHeartbeats 8000000 in
theorem equalB_any {A B : Option Addr} {n c m d : Nat} {l k : List (List Nat)} (w : World) (hn : n ≤ 140737488351232) (hA : Rows w anyP 1 BsR A n l) (hB : Rows w anyP 1 BsR B m k) :
    Calls Tryd.prog 61 #[.slice A n c, .slice B m d, .func (.func 59) #[] #[]] w fun e w' => e = .returned (.bool (decide (l = k))) ∧ Below w.heap.size w w' := by
  have HA := Lib.hid hA
  have HB := Lib.hid hB
  have NA := Lib.hid hA.len
  have NB := Lib.hid hB.len
  clear hA hB
  go_enter Tryd.func61, Tryd.ntmps61
  by_cases hnm : n = m
  · subst hnm
    have t0 : ((n : Int) != (n : Int)) = false := by simp
    go_wp2_with fail
    clear t0
    go_loopw [17] (fun i wr => ∃ p : Nat, p ≤ n ∧ i = .int .i64 (p : Nat) ∧ l.take p = k.take p ∧ Below w.heap.size w wr) (fun i _ => n - (intOf i).toNat)
    case atStart => exact ⟨0, Nat.zero_le _, rfl, rfl, Below.refl _ _⟩
    case round =>
      obtain ⟨p, hp, rfl, ht, bel⟩ := hrel
      have HT := Lib.hid ht
      have BW := Lib.hid bel
      clear ht bel
      by_cases hlt : p < n
      · have t1 : decide ((p : Int) < (n : Int)) = true := decide_eq_true (by omega)
        obtain ⟨x, hx, hxk, hxm⟩ := getL NA.out hlt
        obtain ⟨y, hy, hyk, hym⟩ := getL NB.out hlt
        have TM := Lib.hid (takes_more hxk hyk HT.out)
        have NE := Lib.hid (ne_at hx hy)
        obtain ⟨b1, o1, _, rfl, _⟩ := HA.out.cel (by omega)
        obtain ⟨b2, o2, _, rfl, _⟩ := HB.out.cel (by omega)
        have ad1 := add_at b1 o1
        have ad2 := add_at b2 o2
        obtain ⟨hb1, V1, hV1, hr1, Bx, mx, cx, rfl, hx1, hx2, hBx⟩ := HA.out.nth hx
        obtain ⟨hb2, V2, hV2, hr2, By, my, cy, rfl, hy1, hy2, hBy⟩ := HB.out.nth hy
        have R1 : Hid (∀ u, Below w.heap.size w u → u.rangeAt b1 (o1 + p * 1) ([.slice Bx mx cx])) := Lib.hid (fun u g => range_later hr1 hb1 g)
        have R2 : Hid (∀ u, Below w.heap.size w u → u.rangeAt b2 (o2 + p * 1) ([.slice By my cy])) := Lib.hid (fun u g => range_later hr2 hb2 g)
        have v1 := Lib.hid hV1
        have v2 := Lib.hid hV2
        have n1 : wr.cell? ⟨b1, o1 + p, none⟩ = some (.slice Bx mx cx) := by
          have := R1.out wr BW.out 0 _ rfl
          rwa [Nat.mul_one, Nat.add_zero] at this
        have n2 : wr.cell? ⟨b2, o2 + p, none⟩ = some (.slice By my cy) := by
          have := R2.out wr BW.out 0 _ rfl
          rwa [Nat.mul_one, Nat.add_zero] at this
        have CE := bytesEqual_any (c := cx) (d := cy) wr (hBx.keep (Kept.of_below BW.out)).bs (hBy.keep (Kept.of_below BW.out)).bs
        obtain ⟨q, hq⟩ : ∃ q, decide (x = y) = q := ⟨_, rfl⟩
        rw [hq] at CE
        have HQ := Lib.hid hq
        have HCE := Lib.hid CE
        clear hx hxk hxm hy hyk hym hr1 hr2 hb1 hb2 hV1 hV2 hBx hBy hq CE
        go_wp2_with fail
        refine HCE.out.mono ?_
        rintro e w3 ⟨rfl, rfl⟩
        have B3 := Lib.hid BW.out
        clear n1 n2 HCE BW
        cases q with
        | true =>
          go_wp2_with fail
          exact ⟨⟨p + 1, by omega, by go_num, TM.out (of_decide_eq_true HQ.out), B3.out⟩, by simp [intOf]; omega⟩
        | false =>
          go_wp2_with fail
          go_ret
          exact ⟨by rw [decide_eq_false (NE.out (of_decide_eq_false HQ.out))]; rfl, B3.out⟩
      · have t1 : decide ((p : Int) < (n : Int)) = false := decide_eq_false (by omega)
        obtain rfl : p = n := by omega
        have E := Lib.hid (take_ext NA.out NB.out HT.out)
        go_wp2_with fail
        go_ret
        exact ⟨by rw [decide_eq_true E.out]; rfl, BW.out⟩
  · have t0 : ((n : Int) != (m : Int)) = true := by simp; omega
    have E := Lib.hid (len_ne NA.out NB.out hnm)
    clear hnm
    go_wp2_with fail
    go_ret
    exact ⟨by rw [decide_eq_false E.out]; rfl, Below.refl _ _⟩
set_option maxRecDepth 100000 in
set_option maxHeartbeats 8000000 in
theorem sameOut_any {x y : OutD} {As : Option Addr} {ns cs : Nat} {Bs_ : Option Addr} {ms ds : Nat} (w : World) (hI : OutSl w anyP x As ns cs) (hJ : OutSl w anyP y Bs_ ms ds) :
    Calls Tryd.prog 48 #[.agg (outV x.v As ns cs).toArray, .agg (outV y.v Bs_ ms ds).toArray] w fun e w' => e = .returned (.bool (decide (x = y))) ∧ Below w.heap.size w w' := by
  have b1 := (Below.refl w.heap.size w).alloc (Nat.le_refl _) (.cells (outV x.v As ns cs).toArray 46)
  have b2 := b1.alloc b1.size (.cells (outV y.v Bs_ ms ds).toArray 46)
  have r1 := (Ro.new w 46 (outV x.v As ns cs)).alloc (.cells (outV y.v Bs_ ms ds).toArray 46)
  have r2 := Ro.new (w.alloc (.cells (outV x.v As ns cs).toArray 46)) 46 (outV y.v Bs_ ms ds)
  rw [World.size_alloc] at r2
  have CE := bytesEqual_any (c := cs) (d := ds) _ (hI.s.keep (Kept.of_below b2)).bs (hJ.s.keep (Kept.of_below b2)).bs
  obtain ⟨w2, hw2⟩ : ∃ w2, (w.alloc (.cells (outV x.v As ns cs).toArray 46)).alloc (.cells (outV y.v Bs_ ms ds).toArray 46) = w2 := ⟨_, rfl⟩
  rw [hw2] at b2 r1 r2 CE
  have B2 := Lib.hid b2
  obtain ⟨xv, hxv⟩ : ∃ z, x.v = z := ⟨_, rfl⟩
  obtain ⟨yv, hyv⟩ : ∃ z, y.v = z := ⟨_, rfl⟩
  have E : Hid ((x = y) ↔ (xv = yv ∧ x.s = y.s)) := Lib.hid (by
    rw [← hxv, ← hyv]
    constructor
    · rintro rfl; exact ⟨rfl, rfl⟩
    · rintro ⟨a, b⟩; cases x; cases y; simp_all)
  rw [hxv] at hw2 r1 ⊢
  rw [hyv] at hw2 r2 ⊢
  have xb := hI.ok.v
  have yb := hJ.ok.v
  rw [hxv] at xb
  rw [hyv] at yb
  have c1 := r1.cell (k := 0) (v := .int .u64 (xv : Int)) rfl
  have c2 := r1.cell (k := 1) (v := .slice As ns cs) rfl
  have c3 := r2.cell (k := 0) (v := .int .u64 (yv : Int)) rfl
  have c4 := r2.cell (k := 1) (v := .slice Bs_ ms ds) rfl
  obtain ⟨q, hq⟩ : ∃ q, decide (x.s = y.s) = q := ⟨_, rfl⟩
  rw [hq] at CE
  have HQ := Lib.hid hq
  have HCE := Lib.hid CE
  clear hI hJ b1 b2 r1 r2 CE hq hxv hyv
  go_enter Tryd.func48, Tryd.ntmps48
  by_cases hv : xv = yv
  · subst hv
    have t0 : ((xv : Int) == (xv : Int)) = true := by simp
    go_wp2_with fail
    refine HCE.out.mono ?_
    rintro e w3 ⟨rfl, rfl⟩
    clear HCE c1 c2 c3 c4 hw2
    go_wp2_with fail
    go_ret
    refine ⟨?_, B2.out⟩
    have : decide (x = y) = q := by rw [← HQ.out, decide_eq_decide, E.out]; exact ⟨fun h => h.2, fun h => ⟨by trivial, h⟩⟩
    rw [this]; rfl
  · have t0 : ((xv : Int) == (yv : Int)) = false := by rw [beq_eq_false_iff_ne]; omega
    have E2 := Lib.hid (fun h => hv (E.out.1 h).1)
    clear hv
    go_wp2_with fail
    go_ret
    exact ⟨by rw [decide_eq_false E2.out]; rfl, B2.out⟩
set_option maxRecDepth 100000 in
set_option maxHeartbeats 8000000 in
theorem equalO_any {A B : Option Addr} {n c m d : Nat} {l k : List OutD} (w : World) (hn : n ≤ 140737488351232) (hA : Rows w anyP 2 OutR A n l) (hB : Rows w anyP 2 OutR B m k) :
    Calls Tryd.prog 47 #[.slice A n c, .slice B m d, .func (.func 48) #[] #[]] w fun e w' => e = .returned (.bool (decide (l = k))) ∧ Below w.heap.size w w' := by
  have HA := Lib.hid hA
  have HB := Lib.hid hB
  have NA := Lib.hid hA.len
  have NB := Lib.hid hB.len
  clear hA hB
  go_enter Tryd.func47, Tryd.ntmps47
  by_cases hnm : n = m
  · subst hnm
    have t0 : ((n : Int) != (n : Int)) = false := by simp
    go_wp2_with fail
    clear t0
    go_loopw [17] (fun i wr => ∃ p : Nat, p ≤ n ∧ i = .int .i64 (p : Nat) ∧ l.take p = k.take p ∧ Below w.heap.size w wr) (fun i _ => n - (intOf i).toNat)
    case atStart => exact ⟨0, Nat.zero_le _, rfl, rfl, Below.refl _ _⟩
    case round =>
      obtain ⟨p, hp, rfl, ht, bel⟩ := hrel
      have HT := Lib.hid ht
      have BW := Lib.hid bel
      clear ht bel
      by_cases hlt : p < n
      · have t1 : decide ((p : Int) < (n : Int)) = true := decide_eq_true (by omega)
        obtain ⟨x, hx, hxk, hxm⟩ := getL NA.out hlt
        obtain ⟨y, hy, hyk, hym⟩ := getL NB.out hlt
        have TM := Lib.hid (takes_more hxk hyk HT.out)
        have NE := Lib.hid (ne_at hx hy)
        obtain ⟨b1, o1, _, rfl, _⟩ := HA.out.cel (by omega)
        obtain ⟨b2, o2, _, rfl, _⟩ := HB.out.cel (by omega)
        have ad1 := add_at b1 o1
        have ad2 := add_at b2 o2
        obtain ⟨hb1, V1, hV1, hr1, As, ns, cs, rfl, hI⟩ := HA.out.nth hx
        obtain ⟨hb2, V2, hV2, hr2, Bs_, ms, ds, rfl, hJ⟩ := HB.out.nth hy
        have R1 : Hid (∀ u, Below w.heap.size w u → u.rangeAt b1 (o1 + p * 2) (outV x.v As ns cs)) := Lib.hid (fun u g => range_later hr1 hb1 g)
        have R2 : Hid (∀ u, Below w.heap.size w u → u.rangeAt b2 (o2 + p * 2) (outV y.v Bs_ ms ds)) := Lib.hid (fun u g => range_later hr2 hb2 g)
        have v1 := Lib.hid hV1
        have v2 := Lib.hid hV2
        have IX := Lib.hid hI
        have IY := Lib.hid hJ
        have z0 := zeroOut
        clear hx hxk hxm hy hyk hym hr1 hr2 hb1 hb2 hV1 hV2 hI hJ
        have r1 := Lib.hid (R1.out wr BW.out)
        go_wp2_with (first | (refine wpList_load_part rfl (.tmp 20) rfl rfl rowOut r1.out v1.out ?_) | (refine wpList_store_ro rfl (.tmp 8) (.tmp 21) rfl rfl rfl rowOut (Ro.new wr 46 zOut) rfl v1.out (outV_one _ _ _ _) ?_))
        intro x1 X1 g1
        have b1' := box_store g1
        have S1 := Lib.hid X1
        have BX := Lib.hid (BW.out.trans (b1'.mono BW.out.size))
        have r2 := Lib.hid (R2.out x1 BX.out)
        obtain ⟨q1, hq1⟩ : ∃ q, wr.heap.size = q := ⟨_, rfl⟩
        rw [hq1] at S1 ⊢
        clear X1 g1 b1' BW r1 hq1
        go_wp2_with (first | (refine wpList_load_part rfl (.tmp 24) rfl rfl rowOut r2.out v2.out ?_) | (refine wpList_store_ro rfl (.tmp 9) (.tmp 25) rfl rfl rfl rowOut (Ro.new x1 46 zOut) rfl v2.out (outV_one _ _ _ _) ?_))
        intro x2 X2 g2
        have b2' := box_store g2
        have S1b := Lib.hid (S1.out.later b2')
        have S2 := Lib.hid X2
        have BY := Lib.hid (BX.out.trans (b2'.mono BX.out.size))
        obtain ⟨q2, hq2⟩ : ∃ q, x1.heap.size = q := ⟨_, rfl⟩
        rw [hq2] at S2 ⊢
        clear X2 g2 b2' BX r2 S1 hq2 z0
        have CE := sameOut_any x2 (IX.out.keep (Kept.of_below BY.out)) (IY.out.keep (Kept.of_below BY.out))
        obtain ⟨q, hq⟩ : ∃ q, decide (x = y) = q := ⟨_, rfl⟩
        rw [hq] at CE
        have HQ := Lib.hid hq
        have HCE := Lib.hid CE
        clear hq CE
        go_wp2_with (first | (refine wpList_load_ro rfl (.tmp 8) rfl rfl rowOut S1b.out v1.out ?_) | (refine wpList_load_ro rfl (.tmp 9) rfl rfl rowOut S2.out v2.out ?_))
        refine HCE.out.mono ?_
        rintro e w3 ⟨rfl, hb3⟩
        have B3 := Lib.hid (BY.out.trans (hb3.mono BY.out.size))
        clear hb3 HCE BY S1b S2
        cases q with
        | true =>
          go_wp2_with fail
          exact ⟨⟨p + 1, by omega, by go_num, TM.out (of_decide_eq_true HQ.out), B3.out⟩, by simp [intOf]; omega⟩
        | false =>
          go_wp2_with fail
          go_ret
          exact ⟨by rw [decide_eq_false (NE.out (of_decide_eq_false HQ.out))]; rfl, B3.out⟩
      · have t1 : decide ((p : Int) < (n : Int)) = false := decide_eq_false (by omega)
        obtain rfl : p = n := by omega
        have E := Lib.hid (take_ext NA.out NB.out HT.out)
        go_wp2_with fail
        go_ret
        exact ⟨by rw [decide_eq_true E.out]; rfl, BW.out⟩
  · have t0 : ((n : Int) != (m : Int)) = true := by simp; omega
    have E := Lib.hid (len_ne NA.out NB.out hnm)
    clear hnm
    go_wp2_with fail
    go_ret
    exact ⟨by rw [decide_eq_false E.out]; rfl, Below.refl _ _⟩
theorem inD_iff (x y : InD) : (x = y) ↔ ((x.h, x.n) = (y.h, y.n) ∧ x.q = y.q ∧ x.s = y.s ∧ x.w = y.w) := by
  constructor
  · rintro rfl; exact ⟨rfl, rfl, rfl, rfl⟩
  · rintro ⟨a, b, c, d⟩
    cases x; cases y
    simp_all
set_option maxRecDepth 100000 in
set_option maxHeartbeats 8000000 in
theorem sameIn_any {x y : InD} {As : Option Addr} {ns cs : Nat} {Aw : Option Addr} {nw cw : Nat} {Bs_ : Option Addr} {ms ds : Nat} {Bw : Option Addr} {mw dw : Nat} (w : World) (hI : InS w anyP x As ns cs Aw nw cw) (hJ : InS w anyP y Bs_ ms ds Bw mw dw) :
    Calls Tryd.prog 46 #[.agg (inV x.h x.n As ns cs x.q Aw nw cw).toArray, .agg (inV y.h y.n Bs_ ms ds y.q Bw mw dw).toArray] w fun e w' => e = .returned (.bool (decide (x = y))) ∧ Below w.heap.size w w' := by
  have b1 := (Below.refl w.heap.size w).alloc (Nat.le_refl _) (.cells (inV x.h x.n As ns cs x.q Aw nw cw).toArray 56)
  have b2 := b1.alloc b1.size (.cells (inV y.h y.n Bs_ ms ds y.q Bw mw dw).toArray 56)
  have r1 := (Ro.new w 56 (inV x.h x.n As ns cs x.q Aw nw cw)).alloc (.cells (inV y.h y.n Bs_ ms ds y.q Bw mw dw).toArray 56)
  have r2 := Ro.new (w.alloc (.cells (inV x.h x.n As ns cs x.q Aw nw cw).toArray 56)) 56 (inV y.h y.n Bs_ ms ds y.q Bw mw dw)
  rw [World.size_alloc] at r2
  have CE := bytesEqual_any (c := cs) (d := ds) _ (hI.s.keep (Kept.of_below b2)).bs (hJ.s.keep (Kept.of_below b2)).bs
  have CW := equalB_any (c := cw) (d := dw) _ hI.w2 (hI.w.later bsR_mono b2) (hJ.w.later bsR_mono b2)
  obtain ⟨w2, hw2⟩ : ∃ w2, (w.alloc (.cells (inV x.h x.n As ns cs x.q Aw nw cw).toArray 56)).alloc (.cells (inV y.h y.n Bs_ ms ds y.q Bw mw dw).toArray 56) = w2 := ⟨_, rfl⟩
  rw [hw2] at b2 r1 r2 CE CW
  have B2 := Lib.hid b2
  have E := Lib.hid (inD_iff x y)
  have f1 := Lib.hid (from_range r1.whole)
  have f2 := Lib.hid (from_range r2.whole)
  have l1 := Lib.hid (fromV_len hI.ok.h x.n)
  have l2 := Lib.hid (fromV_len hJ.ok.h y.n)
  have EQ := eq_place (n := x.n) (m := y.n) hI.ok.h hJ.ok.h
  obtain ⟨p0, hp0⟩ : ∃ p, decide ((x.h, x.n) = (y.h, y.n)) = p := ⟨_, rfl⟩
  rw [hp0] at EQ
  obtain ⟨F1, hF1⟩ : ∃ F, fromV x.h x.n = F := ⟨_, rfl⟩
  obtain ⟨F2, hF2⟩ : ∃ F, fromV y.h y.n = F := ⟨_, rfl⟩
  rw [hF1] at f1 l1 EQ
  rw [hF2] at f2 l2 EQ
  have HP0 := Lib.hid hp0
  have c2 := r1.cell (inV_at x.h hI.ok.h x.n As ns cs x.q Aw nw cw).2.1
  have c3 := r1.cell (inV_at x.h hI.ok.h x.n As ns cs x.q Aw nw cw).2.2.1
  have c4 := r1.cell (inV_at x.h hI.ok.h x.n As ns cs x.q Aw nw cw).2.2.2
  have d2 := r2.cell (inV_at y.h hJ.ok.h y.n Bs_ ms ds y.q Bw mw dw).2.1
  have d3 := r2.cell (inV_at y.h hJ.ok.h y.n Bs_ ms ds y.q Bw mw dw).2.2.1
  have d4 := r2.cell (inV_at y.h hJ.ok.h y.n Bs_ ms ds y.q Bw mw dw).2.2.2
  obtain ⟨V1, hV1⟩ : ∃ V, inV x.h x.n As ns cs x.q Aw nw cw = V := ⟨_, rfl⟩
  obtain ⟨V2, hV2⟩ : ∃ V, inV y.h y.n Bs_ ms ds y.q Bw mw dw = V := ⟨_, rfl⟩
  rw [hV1] at hw2 ⊢
  rw [hV2] at hw2 ⊢
  have xb := hI.ok.q
  have yb := hJ.ok.q
  obtain ⟨xq, hxq⟩ : ∃ z, x.q = z := ⟨_, rfl⟩
  obtain ⟨yq, hyq⟩ : ∃ z, y.q = z := ⟨_, rfl⟩
  rw [hxq] at xb c3
  rw [hyq] at yb d3
  have HXQ := Lib.hid hxq
  have HYQ := Lib.hid hyq
  obtain ⟨q, hq⟩ : ∃ q, decide (x.s = y.s) = q := ⟨_, rfl⟩
  rw [hq] at CE
  have HQ := Lib.hid hq
  have HCE := Lib.hid CE
  obtain ⟨z, hz⟩ : ∃ q, decide (x.w = y.w) = q := ⟨_, rfl⟩
  rw [hz] at CW
  have HZ := Lib.hid hz
  have HCW := Lib.hid CW
  clear hI hJ b1 b2 r1 r2 CE hq CW hz hp0 hF1 hF2 hxq hyq hV1 hV2
  go_enter Tryd.func46, Tryd.ntmps46
  cases p0 with
  | false =>
    have N := Lib.hid (fun h => of_decide_eq_false HP0.out (E.out.1 h).1)
    go_wp2_with (first | (refine wpList_load_part rfl (.tmp 5) rfl rfl rowPlace f1.out l1.out ?_) | (refine wpList_load_part rfl (.tmp 7) rfl rfl rowPlace f2.out l2.out ?_))
    go_ret
    exact ⟨by rw [decide_eq_false N.out]; rfl, B2.out⟩
  | true =>
    have P0 := Lib.hid (of_decide_eq_true HP0.out)
    by_cases hv : xq = yq
    · subst hv
      have t0 : ((xq : Int) == (xq : Int)) = true := by simp
      go_wp2_with (first | (refine wpList_load_part rfl (.tmp 5) rfl rfl rowPlace f1.out l1.out ?_) | (refine wpList_load_part rfl (.tmp 7) rfl rfl rowPlace f2.out l2.out ?_))
      refine HCE.out.mono ?_
      rintro e w3 ⟨rfl, rfl⟩
      clear HCE hw2
      cases q with
      | false =>
        have N := Lib.hid (fun h => of_decide_eq_false HQ.out (E.out.1 h).2.2.1)
        go_wp2_with fail
        go_ret
        exact ⟨by rw [decide_eq_false N.out]; rfl, B2.out⟩
      | true =>
        have Q0 := Lib.hid (of_decide_eq_true HQ.out)
        go_wp2_with fail
        refine HCW.out.mono ?_
        rintro e w4 ⟨rfl, hb4⟩
        have B4 := Lib.hid (B2.out.trans (hb4.mono B2.out.size))
        clear HCW hb4 c2 c3 c4 d2 d3 d4
        go_wp2_with fail
        go_ret
        refine ⟨?_, B4.out⟩
        have : decide (x = y) = z := by
          rw [← HZ.out, decide_eq_decide, E.out]
          exact ⟨fun h => h.2.2.2, fun h => ⟨P0.out, by rw [HXQ.out, HYQ.out], Q0.out, h⟩⟩
        rw [this]; rfl
    · have t0 : ((xq : Int) == (yq : Int)) = false := by rw [beq_eq_false_iff_ne]; omega
      have N := Lib.hid (fun h => hv (by rw [← HXQ.out, ← HYQ.out]; exact (E.out.1 h).2.1))
      clear hv
      go_wp2_with (first | (refine wpList_load_part rfl (.tmp 5) rfl rfl rowPlace f1.out l1.out ?_) | (refine wpList_load_part rfl (.tmp 7) rfl rfl rowPlace f2.out l2.out ?_))
      go_ret
      exact ⟨by rw [decide_eq_false N.out]; rfl, B2.out⟩
set_option maxRecDepth 100000 in
set_option maxHeartbeats 8000000 in
theorem equalI_any {A B : Option Addr} {n c m d : Nat} {l k : List InD} (w : World) (hn : n ≤ 140737488351232) (hA : Rows w anyP 36 InR A n l) (hB : Rows w anyP 36 InR B m k) :
    Calls Tryd.prog 45 #[.slice A n c, .slice B m d, .func (.func 46) #[] #[]] w fun e w' => e = .returned (.bool (decide (l = k))) ∧ Below w.heap.size w w' := by
  have HA := Lib.hid hA
  have HB := Lib.hid hB
  have NA := Lib.hid hA.len
  have NB := Lib.hid hB.len
  clear hA hB
  go_enter Tryd.func45, Tryd.ntmps45
  by_cases hnm : n = m
  · subst hnm
    have t0 : ((n : Int) != (n : Int)) = false := by simp
    go_wp2_with fail
    clear t0
    go_loopw [17] (fun i wr => ∃ p : Nat, p ≤ n ∧ i = .int .i64 (p : Nat) ∧ l.take p = k.take p ∧ Below w.heap.size w wr) (fun i _ => n - (intOf i).toNat)
    case atStart => exact ⟨0, Nat.zero_le _, rfl, rfl, Below.refl _ _⟩
    case round =>
      obtain ⟨p, hp, rfl, ht, bel⟩ := hrel
      have HT := Lib.hid ht
      have BW := Lib.hid bel
      clear ht bel
      by_cases hlt : p < n
      · have t1 : decide ((p : Int) < (n : Int)) = true := decide_eq_true (by omega)
        obtain ⟨x, hx, hxk, hxm⟩ := getL NA.out hlt
        obtain ⟨y, hy, hyk, hym⟩ := getL NB.out hlt
        have TM := Lib.hid (takes_more hxk hyk HT.out)
        have NE := Lib.hid (ne_at hx hy)
        obtain ⟨b1, o1, _, rfl, _⟩ := HA.out.cel (by omega)
        obtain ⟨b2, o2, _, rfl, _⟩ := HB.out.cel (by omega)
        have ad1 := add_at b1 o1
        have ad2 := add_at b2 o2
        obtain ⟨hb1, V1, hV1, hr1, As, ns, cs, Aw, nw, cw, rfl, hI⟩ := HA.out.nth hx
        obtain ⟨hb2, V2, hV2, hr2, Bs_, ms, ds, Bw, mw, dw, rfl, hJ⟩ := HB.out.nth hy
        have R1 : Hid (∀ u, Below w.heap.size w u → u.rangeAt b1 (o1 + p * 36) (inV x.h x.n As ns cs x.q Aw nw cw)) := Lib.hid (fun u g => range_later hr1 hb1 g)
        have R2 : Hid (∀ u, Below w.heap.size w u → u.rangeAt b2 (o2 + p * 36) (inV y.h y.n Bs_ ms ds y.q Bw mw dw)) := Lib.hid (fun u g => range_later hr2 hb2 g)
        have v1 := Lib.hid hV1
        have v2 := Lib.hid hV2
        have IX := Lib.hid hI
        have IY := Lib.hid hJ
        have z0 := zeroIn
        clear hx hxk hxm hy hyk hym hr1 hr2 hb1 hb2 hV1 hV2 hI hJ
        have r1 := Lib.hid (R1.out wr BW.out)
        go_wp2_with (first | (refine wpList_load_part rfl (.tmp 20) rfl rfl rowIn r1.out v1.out ?_) | (refine wpList_store_ro rfl (.tmp 8) (.tmp 21) rfl rfl rfl rowIn (Ro.new wr 56 zIn) rfl v1.out (inV_one _ _ _ _ _ _ _ _ _) ?_))
        intro x1 X1 g1
        have b1' := box_store g1
        have S1 := Lib.hid X1
        have BX := Lib.hid (BW.out.trans (b1'.mono BW.out.size))
        have r2 := Lib.hid (R2.out x1 BX.out)
        obtain ⟨q1, hq1⟩ : ∃ q, wr.heap.size = q := ⟨_, rfl⟩
        rw [hq1] at S1 ⊢
        clear X1 g1 b1' BW r1 hq1
        go_wp2_with (first | (refine wpList_load_part rfl (.tmp 24) rfl rfl rowIn r2.out v2.out ?_) | (refine wpList_store_ro rfl (.tmp 9) (.tmp 25) rfl rfl rfl rowIn (Ro.new x1 56 zIn) rfl v2.out (inV_one _ _ _ _ _ _ _ _ _) ?_))
        intro x2 X2 g2
        have b2' := box_store g2
        have S1b := Lib.hid (S1.out.later b2')
        have S2 := Lib.hid X2
        have BY := Lib.hid (BX.out.trans (b2'.mono BX.out.size))
        obtain ⟨q2, hq2⟩ : ∃ q, x1.heap.size = q := ⟨_, rfl⟩
        rw [hq2] at S2 ⊢
        clear X2 g2 b2' BX r2 S1 hq2 z0
        have CE := sameIn_any x2 (IX.out.keep (Kept.of_below BY.out)) (IY.out.keep (Kept.of_below BY.out))
        obtain ⟨q, hq⟩ : ∃ q, decide (x = y) = q := ⟨_, rfl⟩
        rw [hq] at CE
        have HQ := Lib.hid hq
        have HCE := Lib.hid CE
        clear hq CE
        go_wp2_with (first | (refine wpList_load_ro rfl (.tmp 8) rfl rfl rowIn S1b.out v1.out ?_) | (refine wpList_load_ro rfl (.tmp 9) rfl rfl rowIn S2.out v2.out ?_))
        refine HCE.out.mono ?_
        rintro e w3 ⟨rfl, hb3⟩
        have B3 := Lib.hid (BY.out.trans (hb3.mono BY.out.size))
        clear hb3 HCE BY S1b S2
        cases q with
        | true =>
          go_wp2_with fail
          exact ⟨⟨p + 1, by omega, by go_num, TM.out (of_decide_eq_true HQ.out), B3.out⟩, by simp [intOf]; omega⟩
        | false =>
          go_wp2_with fail
          go_ret
          exact ⟨by rw [decide_eq_false (NE.out (of_decide_eq_false HQ.out))]; rfl, B3.out⟩
      · have t1 : decide ((p : Int) < (n : Int)) = false := decide_eq_false (by omega)
        obtain rfl : p = n := by omega
        have E := Lib.hid (take_ext NA.out NB.out HT.out)
        go_wp2_with fail
        go_ret
        exact ⟨by rw [decide_eq_true E.out]; rfl, BW.out⟩
  · have t0 : ((n : Int) != (m : Int)) = true := by simp; omega
    have E := Lib.hid (len_ne NA.out NB.out hnm)
    clear hnm
    go_wp2_with fail
    go_ret
    exact ⟨by rw [decide_eq_false E.out]; rfl, Below.refl _ _⟩
end Go.Proofs.YtbdjcbdnhaddoaaDoor
