/- GapMore: one more that is used makes it no less; one that is not watched turns nothing; the order says nothing. No condition but that the tables lie as laid. -/
import Derived.Test.YthglegjnkhifeaaDoorMoreM
namespace Go.Proofs.YthglegjnkhifeaaDoor
open Go.RowKit

set_option maxRecDepth 100000 in
set_option maxHeartbeats 8000000 in
theorem more_law {A : Option Addr} {n c : Nat} {L : List Int} {x : Int} {by_ : Nat} {w : World} (_ : n ≤ c) (_ : c ≤ 9223372036854775807) (hl : Is w A n L) (hx : -9223372036854775808 ≤ x ∧ x ≤ 9223372036854775807) (hy : by_ < 256) (hLd : Laid w) :
    Calls Tryd.prog 5 #[.slice A n c, .int .i64 x, .int .u8 (by_ : Nat)] w fun e w' => e = .returned (.bool true) ∧ Below w.heap.size w w' := by
  have HD := Lib.hid hLd
  have HL := Lib.hid hl
  have HN := Lib.hid hl.len
  have B0 := Lib.hid (Below.refl w.heap.size w)
  clear hLd hl
  have fin : ∀ w1, Below w.heap.size w w1 → Calls Tryd.prog 7 #[] w1 fun e w' => e = .returned (.bool true) ∧ Below w.heap.size w w' := fun w1 b => (works_any w1 (HD.out.later HD.out.lt b)).mono fun e w' ⟨h1, h2⟩ => ⟨h1, b.trans (h2.mono b.size)⟩
  have FIN := Lib.hid fin
  clear fin
  go_enter Tryd.func5, Tryd.ntmps5
  by_cases hn : 200 < n
  · have t0 : decide ((200 : Int) < (n : Int)) = true := decide_eq_true (by omega)
    go_wp2_with fail
    refine (FIN.out _ B0.out).mono ?_
    rintro e w1 ⟨rfl, hb⟩
    have HB := Lib.hid hb
    clear hb
    go_wp2_with fail
    go_ret
    exact ⟨rfl, HB.out⟩
  have t0 : decide ((200 : Int) < (n : Int)) = false := decide_eq_false (by omega)
  obtain ⟨r, hr⟩ : ∃ r, by_ % 50 = r := ⟨_, rfl⟩
  have z1 : (by_ : Int) % 50 = (r : Int) := by omega
  have r50 : r < 50 := by omega
  obtain ⟨γ, hγ⟩ : ∃ γ, 1 + r = γ := ⟨_, rfl⟩
  have z2 : (1 : Int) + (r : Int) = (γ : Int) := by omega
  have g1 : 1 ≤ γ ∧ γ ≤ 50 := by omega
  have mx : max (γ : Int) 1 = (γ : Int) := by omega
  have WM := watch_more L x (γ : Int)
  have WO := Lib.hid (fun h => watch_out (U := L) (x := x) (g := (γ : Int)) h)
  have WR := Lib.hid (watch_rev L (γ : Int))
  have CW := watch_any (c := c) (x := (γ : Int)) w (by omega) (by omega) HL.out
  rw [mx] at CW
  have C2 : Hid (∀ w1 A1 c1, Is w1 A1 (1 + n) ([x] ++ L) → Calls Tryd.prog 12 #[.slice A1 (1 + n) c1, .int .i64 (γ : Nat)] w1 fun e w' => e = .returned (.int .i64 (watchS (x :: L) (γ : Int) : Nat)) ∧ Below w1.heap.size w1 w') := Lib.hid (fun w1 A1 c1 h => by
    have q := watch_any (c := c1) (x := (γ : Int)) w1 (by omega) (by omega) h
    rw [mx] at q
    exact q)
  have C3 : Hid (∀ w1 A1 c1, Is w1 A1 n L.reverse → Calls Tryd.prog 12 #[.slice A1 n c1, .int .i64 (γ : Nat)] w1 fun e w' => e = .returned (.int .i64 (watchS L (γ : Int) : Nat)) ∧ Below w1.heap.size w1 w') := Lib.hid (fun w1 A1 c1 h => by
    have q := watch_any (c := c1) (x := (γ : Int)) w1 (by omega) (by omega) h
    rw [mx, WR.out] at q
    exact q)
  obtain ⟨W, hW⟩ : ∃ W, watchS L (γ : Int) = W := ⟨_, rfl⟩
  obtain ⟨M, hM⟩ : ∃ M, watchS (x :: L) (γ : Int) = M := ⟨_, rfl⟩
  rw [hW] at CW WM WO C3
  rw [hM] at WM WO C2
  have HCW := Lib.hid CW
  clear hr hγ CW hW hM mx WR
  go_wp2_with fail
  refine HCW.out.mono ?_
  rintro e w1 ⟨rfl, hb⟩
  have B1 := Lib.hid (B0.out.trans (hb.mono B0.out.size))
  clear hb HCW B0
  have OL := Lib.hid (OwnI.lit1 B1.out hx)
  have IL := Lib.hid (HL.out.later OL.out.bel)
  go_wp2_with (refine wpList_appIs rfl (.tmp 24) (.tmp 25) rfl rfl OL.out rfl IL.out (by omega) ?_)
  intro A2 c2 w2 hc2 O2 g2 n2
  have R2 := Lib.hid O2.reads
  have B2 := Lib.hid O2.bel
  clear O2 g2 n2 OL IL B1
  go_wp2_with fail
  refine (C2.out _ _ _ R2.out).mono ?_
  rintro e w3 ⟨rfl, hb⟩
  have B3 := Lib.hid (B2.out.trans (hb.mono B2.out.size))
  clear hb C2 R2 B2
  have O0 := Lib.hid (OwnI.none_ B3.out)
  have DN : Hid (L.drop n = []) := Lib.hid (List.drop_eq_nil_of_le (by rw [HN.out]; exact Nat.le_refl _))
  go_wp2_with fail
  go_loopw [10, 11] (fun v iv wr => ∃ p : Nat, iv = .int .i64 ((p : Int) - 1) ∧ p ≤ n ∧ OwnI w v (n - p) (L.drop p).reverse wr) (fun _ iv _ => (intOf iv + 1).toNat)
  case atStart => exact ⟨n, rfl, Nat.le_refl _, by rw [DN.out, Nat.sub_self]; exact O0.out⟩
  case round =>
    clear O0 B3
    obtain ⟨p, rfl, hp, O⟩ := hrel
    obtain ⟨vA, vc, rfl, hvc⟩ := O.shape
    have HO := Lib.hid O
    clear O
    by_cases h0 : p = 0
    · subst h0
      have e1 : ((0 : Nat) : Int) - 1 = -1 := rfl
      have R3 := HO.out.reads
      rw [List.drop_zero, Nat.sub_zero] at R3
      have HR3 := Lib.hid R3
      have BB := Lib.hid HO.out.bel
      have t1 : decide ((W : Int) ≤ (M : Int)) = true := decide_eq_true (by omega)
      have t2 : decide (W ≤ M) = true := decide_eq_true WM
      clear R3 HO
      rw [Nat.sub_zero]
      go_wp2_with fail
      refine (C3.out _ _ _ HR3.out).mono ?_
      rintro e w4 ⟨rfl, hb⟩
      have B4 := Lib.hid (BB.out.trans (hb.mono BB.out.size))
      clear hb C3 HR3 BB
      by_cases h1 : 0 ≤ x
      · have q1 : decide (0 ≤ x) = true := decide_eq_true h1
        by_cases h2 : x < (W : Int)
        · have q2 : decide (x < (W : Int)) = true := decide_eq_true h2
          go_wp2_with fail
          refine (FIN.out _ B4.out).mono ?_
          rintro e w9 ⟨rfl, hb⟩
          have HB9 := Lib.hid hb
          clear hb
          go_wp2_with fail
          go_ret
          exact ⟨rfl, HB9.out⟩
        · have q2 : decide (x < (W : Int)) = false := decide_eq_false h2
          obtain rfl : M = W := WO.out (by omega)
          go_wp2_with fail
          refine (FIN.out _ B4.out).mono ?_
          rintro e w9 ⟨rfl, hb⟩
          have HB9 := Lib.hid hb
          clear hb
          go_wp2_with fail
          go_ret
          exact ⟨rfl, HB9.out⟩
      · have q1 : decide (0 ≤ x) = false := decide_eq_false h1
        obtain rfl : M = W := WO.out (by omega)
        go_wp2_with fail
        refine (FIN.out _ B4.out).mono ?_
        rintro e w9 ⟨rfl, hb⟩
        have HB9 := Lib.hid hb
        clear hb
        go_wp2_with fail
        go_ret
        exact ⟨rfl, HB9.out⟩
    · obtain ⟨q, rfl⟩ : ∃ q, p = q + 1 := ⟨p - 1, by omega⟩
      have e1 : ((q + 1 : Nat) : Int) - 1 = (q : Int) := by omega
      have t3 : decide ((0 : Int) ≤ (q : Int)) = true := decide_eq_true (by omega)
      have LW := HL.out.later HO.out.bel
      obtain ⟨bb, o, rfl, hb, hc⟩ := LW.cel (by omega)
      have ad := add_at bb o
      have c1 := hc q (by omega)
      have DR := Lib.hid (drop_ith (L := L) (q := q) (by rw [HN.out]; omega))
      have ok := HL.out.ok _ (ith_mem (L := L) (k := q) (by rw [HN.out]; omega))
      obtain ⟨u, hu⟩ : ∃ u, ith L q = u := ⟨_, rfl⟩
      rw [hu] at c1 DR ok
      have O1 := Lib.hid (HO.out.later ((Below.refl wr.heap.size wr).alloc (Nat.le_refl _) (.cells #[.int .i64 u] 3)))
      have IU := Lib.hid (Is.lit1 wr ok)
      clear hu hb hc LW ok HO
      rw [e1]
      go_wp2_with (refine wpList_appIs rfl (.tmp 36) (.tmp 41) rfl rfl O1.out rfl IU.out (by omega) ?_)
      intro A6 c6 w6 hc6 O6 g6 n6
      rw [← DR.out, show n - (q + 1) + 1 = n - q by omega] at O6
      have HO6 := Lib.hid O6
      clear O6 g6 n6 O1 IU
      rw [show n - (q + 1) + 1 = n - q by omega]
      go_wp2_with fail
      exact ⟨⟨q, by go_num, by omega, HO6.out⟩, by simp [intOf]⟩
end Go.Proofs.YthglegjnkhifeaaDoor
