/- Read. No condition but a bound on what is loose. -/
import Derived.Test.YtgnomopiofpknaaWrite2
namespace Go.Proofs.Ytgnomopiofpknaa
open Go.RowKit

theorem Dsk.file {w0 w : World} {d : Nat} {F : Nat → Prop} {S : Dk} (D : Dsk w0 d F S w) {i : Nat} (hi : i = 0 ∨ i = 1) : ∃ P vs vl, FlAt w0 P vs vl (S.at i) w ∧ w.cell? ⟨d, 3 + 3 * i, none⟩ = some vs ∧ w.cell? ⟨d, 3 + 3 * i + 1, none⟩ = some vl := by
  obtain ⟨P0, P1, vs0, vl0, vs1, vl1, D, _⟩ := D
  obtain ⟨_, _, _, k3, k4, _, k6, k7, _⟩ := D.cells
  rcases hi with rfl | rfl
  · exact ⟨P0, vs0, vl0, D.f0, k3, k4⟩
  · exact ⟨P1, vs1, vl1, D.f1, k6, k7⟩
/-- What Read gives. -/
def ReadIs (w : World) (L : List Nat) (x : Int) (e : Ending) (W : World) : Prop := ∃ A n c, e = .returned (.tuple #[.slice A n c, .int .i64 x]) ∧ n ≤ c ∧ Own w (.slice A n c) n L W
theorem read_nil (w : World) (f : Int) : Calls Try.prog 21 #[.pointer none, .int .i64 f] w fun e w' => e = .returned (.tuple #[.slice none 0 0, .int .i64 2]) ∧ w' = w := by
  go_enter Try.func21, Try.ntmps21
  go_wp2_with fail
  refine (ask_nil w f).mono ?_
  rintro e w' ⟨rfl, rfl⟩
  go_wp2_with fail
  go_returns
  exact ⟨rfl, rfl⟩
/-- What the rounds hand on. -/
def ReadAt (w : World) (S : Fl) (k : Nat) (v : Value) (wr : World) : Prop := ∃ A m c, v = .slice A m c ∧ m ≤ c ∧ Own w (.slice A m c) m (appl S.sure (S.loose.take k)) wr
theorem ReadAt.next {w w' : World} {S : Fl} {k : Nat} {x : Chg} {A : Option Addr} {m c : Nat} (hx : S.loose[k]? = some x) {M : List Nat} (hM : appl S.sure (S.loose.take k) = M) (hc : m ≤ c) (O : Own w (.slice A m c) m (doC M x) w') : ReadAt w S (k + 1) (.slice A m c) w' :=
  ⟨A, m, c, rfl, hc, by
    rw [List.take_add_one, hx, appl_app, hM]
    exact O⟩
set_option maxRecDepth 100000 in
set_option maxHeartbeats 8000000 in
theorem read_any {w0 w : World} {d : Nat} {F : Nat → Prop} {S : Dk} (D : Dsk w0 d F S w) (hn : S.cnt ≤ 1073741823) (f : Int) :
    Calls Try.prog 21 #[.pointer (some ⟨d, 0, none⟩), .int .i64 f] w (ReadIs w (S.read f).1 (S.read f).2) := by
  have HA := Lib.hid (ask_any D.c1 f)
  have HD := Lib.hid D
  clear D
  by_cases h : S.ask f = 0
  · obtain ⟨i, rfl, hi⟩ := Dk.ask_ok h
    have es : S.read (i : Int) = ((S.at i).at, 0) := by
      unfold Dk.read
      rw [if_neg (fun q => q h)]
      rfl
    rw [es]
    rw [h] at HA
    obtain ⟨P, vs, vl, FL, k3, k4⟩ := HD.out.file hi
    have ok := HD.out.ok.at_ i
    have hni := S.cnt_at i
    have hmost := HD.out.ok.most
    obtain ⟨x, hx⟩ : ∃ x, S.at i = x := ⟨_, rfl⟩
    rw [hx] at FL ok hni ⊢
    obtain ⟨As, cs, rfl, hcs⟩ := FL.sure.shape
    obtain ⟨Al, cl, rfl, hcl⟩ := FL.loose.shape
    have hsl := ok.f.start
    have CC := Lib.hid (clone_any (c := cs) FL.sure.reads (by omega) hcs)
    have HF := Lib.hid FL
    have HO := Lib.hid ok
    have hE : Hid (x.at = appl x.sure x.loose) := Lib.hid rfl
    clear FL ok h es hx
    rcases hi with rfl | rfl
    · have q3 : w.cell? ⟨d, 3, none⟩ = some (.slice As x.sure.length cs) := k3
      have q4 : w.cell? ⟨d, 4, none⟩ = some (.slice Al x.loose.length cl) := k4
      clear k3 k4
      go_enter Try.func21, Try.ntmps21
      go_wp2_with fail
      refine (HA.out).mono ?_
      rintro e w' ⟨rfl, rfl⟩
      go_wp2_with fail
      refine (CC.out).mono ?_
      rintro e w1 ⟨A1, n1, c1, rfl, hc1, hO1⟩
      have r4 := (HF.out.grow hO1.bel)
      have q5 : w1.cell? ⟨d, 4, none⟩ = some (.slice Al x.loose.length cl) := cell_later hO1.bel q4
      have HO1 := Lib.hid hO1
      clear r4 hO1
      go_wp2_with fail
      go_loopw [7, 32] (fun v i wr => ∃ k : Nat, k ≤ x.loose.length ∧ i = .int .i64 (k : Nat) ∧ ReadAt w' x k v wr) (fun _ i _ => x.loose.length - (intOf i).toNat)
      case atStart => exact ⟨0, Nat.zero_le _, rfl, A1, n1, c1, rfl, hc1, HO1.out⟩
      case round =>
        obtain ⟨k, hk, rfl, A2, m2, c2, rfl, hc2, hO2⟩ := hrel
        obtain ⟨M, hM⟩ : ∃ M, appl x.sure (x.loose.take k) = M := ⟨_, rfl⟩
        rw [hM] at hO2
        have HM := Lib.hid hM
        have H2 := Lib.hid hO2
        clear hM hO2
        by_cases hlt : k < x.loose.length
        · obtain ⟨g, c', V, e1, hc', CV, RV⟩ := (HF.out.grow H2.out.bel).at_ (i := k) hlt
          injection e1 with e1 _ e2
          subst e1 e2
          obtain ⟨y, hy⟩ : ∃ y, x.loose[k]? = some y := ⟨_, List.getElem?_eq_getElem hlt⟩
          have hy' : x.loose[k] = y := by simpa [hlt] using hy
          rw [hy'] at RV
          have ft := Fits.at_ HO.out.f hy
          rw [HM.out] at ft
          have hm2 := H2.out.len
          have HY := Lib.hid hy
          clear hy hy' q3 q4 q5
          cases y with
          | w L =>
            obtain ⟨A', c'', e2, hL, hc3, _, _⟩ := RV
            obtain rfl : V = wV A' L.length c'' := by simpa using e2
            have C := Lib.hid (writeDo_any (c := c'') H2.out hL.bs (by have := ft.2.2; simp only [doC, List.length_append] at this; omega))
            have mw := metW A' L.length c''
            clear hL ft e2
            unfold wV at *
            go_wp2_with fail
            refine (C.out).mono ?_
            rintro e w3 ⟨A3, n3, c3, rfl, h3, O3, _⟩
            have H3 := Lib.hid (ReadAt.next (x := .w L) HY.out HM.out h3 O3)
            clear O3
            go_wp2_with fail
            go_roundw
            case rel => exact ⟨k + 1, by omega, by go_num, H3.out⟩
            case measure => simp [intOf]; omega
          | c q =>
            obtain rfl : V = cV q := by simpa using RV.1
            have hq : q ≤ m2 := by have := ft.2.1; simp only at this; omega
            have C := Lib.hid (cutDo_any (w := wr) (A := A2) hq hc2)
            have mw := metC q
            clear RV ft
            unfold cV at *
            go_wp2_with fail
            refine (C.out).mono ?_
            rintro e w3 ⟨rfl, g3⟩
            have H3 := Lib.hid (ReadAt.next (x := .c q) HY.out HM.out (by omega) ((H2.out.later g3).short hq))
            clear g3
            go_wp2_with fail
            go_roundw
            case rel => exact ⟨k + 1, by omega, by go_num, H3.out⟩
            case measure => simp [intOf]; omega
        · have hk2 : x.loose.length ≤ k := by omega
          go_wp2_with fail
          go_returns
          rw [hE.out, ← List.take_of_length_le hk2, HM.out]
          exact ⟨A2, m2, c2, rfl, hc2, H2.out⟩
    · have q3 : w.cell? ⟨d, 6, none⟩ = some (.slice As x.sure.length cs) := k3
      have q4 : w.cell? ⟨d, 7, none⟩ = some (.slice Al x.loose.length cl) := k4
      clear k3 k4
      go_enter Try.func21, Try.ntmps21
      go_wp2_with fail
      refine (HA.out).mono ?_
      rintro e w' ⟨rfl, rfl⟩
      go_wp2_with fail
      refine (CC.out).mono ?_
      rintro e w1 ⟨A1, n1, c1, rfl, hc1, hO1⟩
      have r4 := (HF.out.grow hO1.bel)
      have q5 : w1.cell? ⟨d, 7, none⟩ = some (.slice Al x.loose.length cl) := cell_later hO1.bel q4
      have HO1 := Lib.hid hO1
      clear r4 hO1
      go_wp2_with fail
      go_loopw [7, 32] (fun v i wr => ∃ k : Nat, k ≤ x.loose.length ∧ i = .int .i64 (k : Nat) ∧ ReadAt w' x k v wr) (fun _ i _ => x.loose.length - (intOf i).toNat)
      case atStart => exact ⟨0, Nat.zero_le _, rfl, A1, n1, c1, rfl, hc1, HO1.out⟩
      case round =>
        obtain ⟨k, hk, rfl, A2, m2, c2, rfl, hc2, hO2⟩ := hrel
        obtain ⟨M, hM⟩ : ∃ M, appl x.sure (x.loose.take k) = M := ⟨_, rfl⟩
        rw [hM] at hO2
        have HM := Lib.hid hM
        have H2 := Lib.hid hO2
        clear hM hO2
        by_cases hlt : k < x.loose.length
        · obtain ⟨g, c', V, e1, hc', CV, RV⟩ := (HF.out.grow H2.out.bel).at_ (i := k) hlt
          injection e1 with e1 _ e2
          subst e1 e2
          obtain ⟨y, hy⟩ : ∃ y, x.loose[k]? = some y := ⟨_, List.getElem?_eq_getElem hlt⟩
          have hy' : x.loose[k] = y := by simpa [hlt] using hy
          rw [hy'] at RV
          have ft := Fits.at_ HO.out.f hy
          rw [HM.out] at ft
          have hm2 := H2.out.len
          have HY := Lib.hid hy
          clear hy hy' q3 q4 q5
          cases y with
          | w L =>
            obtain ⟨A', c'', e2, hL, hc3, _, _⟩ := RV
            obtain rfl : V = wV A' L.length c'' := by simpa using e2
            have C := Lib.hid (writeDo_any (c := c'') H2.out hL.bs (by have := ft.2.2; simp only [doC, List.length_append] at this; omega))
            have mw := metW A' L.length c''
            clear hL ft e2
            unfold wV at *
            go_wp2_with fail
            refine (C.out).mono ?_
            rintro e w3 ⟨A3, n3, c3, rfl, h3, O3, _⟩
            have H3 := Lib.hid (ReadAt.next (x := .w L) HY.out HM.out h3 O3)
            clear O3
            go_wp2_with fail
            go_roundw
            case rel => exact ⟨k + 1, by omega, by go_num, H3.out⟩
            case measure => simp [intOf]; omega
          | c q =>
            obtain rfl : V = cV q := by simpa using RV.1
            have hq : q ≤ m2 := by have := ft.2.1; simp only at this; omega
            have C := Lib.hid (cutDo_any (w := wr) (A := A2) hq hc2)
            have mw := metC q
            clear RV ft
            unfold cV at *
            go_wp2_with fail
            refine (C.out).mono ?_
            rintro e w3 ⟨rfl, g3⟩
            have H3 := Lib.hid (ReadAt.next (x := .c q) HY.out HM.out (by omega) ((H2.out.later g3).short hq))
            clear g3
            go_wp2_with fail
            go_roundw
            case rel => exact ⟨k + 1, by omega, by go_num, H3.out⟩
            case measure => simp [intOf]; omega
        · have hk2 : x.loose.length ≤ k := by omega
          go_wp2_with fail
          go_returns
          rw [hE.out, ← List.take_of_length_le hk2, HM.out]
          exact ⟨A2, m2, c2, rfl, hc2, H2.out⟩
  · have es : S.read f = ([], S.ask f) := by
      unfold Dk.read
      rw [if_pos h]
    rw [es]
    obtain ⟨q, hq⟩ : ∃ q, S.ask f = q := ⟨_, rfl⟩
    rw [hq] at HA h ⊢
    have t1 : (q != 0) = true := by simp [h]
    have t2 : decide (q = 0) = false := decide_eq_false h
    go_enter Try.func21, Try.ntmps21
    go_wp2_with fail
    refine (HA.out).mono ?_
    rintro e w' ⟨rfl, rfl⟩
    go_wp2_with fail
    go_returns
    exact ⟨none, 0, 0, rfl, Nat.le_refl _, World.ownsRow_nil _ _ _ _, allB_nil, Below.refl _ _⟩
end Go.Proofs.Ytgnomopiofpknaa
