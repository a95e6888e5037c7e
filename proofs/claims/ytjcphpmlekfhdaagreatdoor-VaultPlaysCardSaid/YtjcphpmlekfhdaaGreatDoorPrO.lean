/- The pair: both vaults opened, alike. Condition: the tables lie as laid. -/
import Derived.Test.YtjcphpmlekfhdaaGreatDoorPrT
import Derived.Test.YtjcphpmlekfhdaaGreatDoorGk
import Derived.Test.YtjcphpmlekfhdaaGreatDoorGn
namespace Go.Proofs.YtjcphpmlekfhdaaGreatDoor
open Go.RowKit

theorem soundS_wide {f g gd : Nat} {l : List (List Nat)} {s : List Nat} (h : soundS f s = some (g, l, gd)) : wideS l ≤ s.length := by
  unfold soundS at h
  split at h
  · cases h
  · split at h
    · cases h
    · split at h
      · cases h
      · split at h
        · cases h
        · injection h with h
          injection h with h1 h2
          injection h2 with h2 h3
          subst h1 h2
          unfold recsS
          exact Nat.le_trans (wide_whole (num (s.take 8)) (s.drop 44).length 0 (s.drop 44)) (by rw [List.length_drop]; omega)
theorem openS_gen {S : Dk} (O : S.Ok) (on : (openS S).1 = 0) : (openS S).2.2.1 ≤ 1 ∧ 1 ≤ (openS S).2.2.2.1 ∧ (openS S).2.2.2.1 ≤ 4611686018427387904 ∧ wideS (openS S).2.2.2.2 ≤ S.most := by
  unfold openS at on ⊢
  by_cases ho : S.off = true
  · rw [if_pos ho] at on
    exact absurd (show (8 : Int) = 0 from on) (by decide)
  · rw [if_neg ho]
    cases hb : bestS (fun i => (S.at i).at) 2 with
    | none => exact ⟨Nat.le_refl _, Nat.le_refl _, (show (1 : Nat) ≤ 4611686018427387904 by decide), Nat.zero_le _⟩
    | some y =>
      obtain ⟨h1, h2, _⟩ := best_is hb
      have h3 := soundS_gen h2
      have h4 := soundS_wide (g := y.2.1) (l := y.2.2.1) (gd := y.2.2.2) h2
      have h5 := at_most O y.1
      exact ⟨h1, h3.1, h3.2, Nat.le_trans h4 h5⟩
structure PrJ (w : World) (d r p : Nat) (S : Dk) (a y : Value) (f g n : Nat) (b : Bool) (X : Nat → Prop) (wr : World) : Prop where
  two : Two w d r X S S wr
  box : Ro wr p 37 [.pointer (some ⟨d, 0, none⟩), .pointer (some ⟨r, 0, none⟩), a, y]
  xp : X p
  low : w.heap.size ≤ p
  st : (a = .pointer none ∧ y = .pointer none) ∨ ∃ v x, a = .pointer (some ⟨v, 0, none⟩) ∧ y = .pointer (some ⟨x, 0, none⟩) ∧ Ro wr v 90 (vtV d f g n b) ∧ Ro wr x 78 (rvV r f g n b) ∧ (X v ∧ X x) ∧ (w.heap.size ≤ v ∧ w.heap.size ≤ x) ∧ v ≠ x ∧ v ≠ p ∧ x ≠ p
  bf : f ≤ 1 ∧ 1 ≤ g ∧ g ≤ 4611686018427387904
  xo : ∀ b, b < w.heap.size → X b
section
variable {w wr : World} {d r p k : Nat} {S : Dk} {a0 y0 : Value} {X : Nat → Prop}
set_option maxRecDepth 100000 in
set_option maxHeartbeats 8000000 in
theorem popen_any (hLd : Laid w) (T : Two w d r X S S wr) (box : Ro wr p 37 [.pointer (some ⟨d, 0, none⟩), .pointer (some ⟨r, 0, none⟩), a0, y0]) (xp : X p) (low : w.heap.size ≤ p) (lt : Ltk k S) (hk : k ≤ 10) (hm : S.most ≤ 65535) (hcn : S.cnt ≤ 1000000000) (xo : ∀ b, b < w.heap.size → X b) :
    Calls Tryz.prog 8 #[.pointer (some ⟨p, 0, none⟩)] wr fun e W => e = .returned (.bool true) ∧ ∃ a y f g n b X2, PrJ w d r p (openS S).2.1 a y f g n b X2 W ∧ n ≤ 65536 := by
  have CV := Lib.hid (vopen_two hLd T hcn)
  have hgen := openS_gen T.ok
  have x0 := box.cell (k := 0) rfl
  have x1 := box.cell (k := 1) rfl
  have y2 := box.free 2
  have y3 := box.free 3
  have HBX := Lib.hid box
  have HXP := Lib.hid xp
  have HLW := Lib.hid low
  have HLT := Lib.hid lt
  have HGN := Lib.hid hgen
  have HT := Lib.hid T
  have HXO := Lib.hid xo
  obtain ⟨q, hq⟩ : ∃ q, openS S = q := ⟨_, rfl⟩
  have HQ := Lib.hid hq
  rw [hq] at CV HGN ⊢
  clear T box xp low lt hgen hq xo
  go_enter Tryz.func8, Tryz.ntmps8
  go_wp2_with fail
  refine (CV.out).mono ?_
  rintro e W1 h
  rcases h with ⟨hx, rfl, T1', K1'⟩ | ⟨hx, v, A, c, Y, rfl, hv, hV, hR, hY, T1', K1'⟩
  · have T1 := Lib.hid T1'
    have K1 := Lib.hid K1'
    have B1 : Hid (Ro W1 p 37 [.pointer (some ⟨d, 0, none⟩), .pointer (some ⟨r, 0, none⟩), a0, y0]) := Lib.hid ((K1'.blk p HXP.out HBX.out.lt).trans HBX.out)
    have x0 := B1.out.cell (k := 0) rfl
    have x1 := B1.out.cell (k := 1) rfl
    have CO := ropen_two T1' HLT.out hk (by omega)
    rw [HQ.out] at CO
    have HCO := Lib.hid CO
    have HX := Lib.hid hx
    clear T1' K1' CO hx CV
    go_wp2_with fail
    refine (HCO.out).mono ?_
    rintro e W2 h
    rcases h with ⟨_, rfl, T2', K2'⟩ | ⟨h, _⟩
    · have T2 := Lib.hid T2'
      have B2 : Hid (Ro W2 p 37 [.pointer (some ⟨d, 0, none⟩), .pointer (some ⟨r, 0, none⟩), a0, y0]) := Lib.hid ((K2'.blk p HXP.out B1.out.lt).trans B1.out)
      have x0 := B2.out.cell (k := 0) rfl
      have x2 := B2.out.cell (k := 2) rfl
      have x3 := B2.out.cell (k := 3) rfl
      have y2 := B2.out.free 2
      have y3 := B2.out.free 3
      obtain ⟨W3, hW3⟩ : ∃ W3, (W2.setCell ⟨p, 2, none⟩ (.pointer none)).setCell ⟨p, 3, none⟩ (.pointer none) = W3 := ⟨_, rfl⟩
      have hkp : Kept (fun b => b ≠ p) W2 W3 := by
        rw [← hW3]
        exact ⟨Nat.le_of_eq (by simp), fun q hq _ => (Below.heap_setCell _ ⟨p, 3, none⟩ _ q hq).trans (Below.heap_setCell _ ⟨p, 2, none⟩ _ q hq)⟩
      have J3 : Hid (PrJ w d r p q.2.1 (.pointer none) (.pointer none) 1 1 0 false X W3) := Lib.hid ⟨T2'.put (hkp.weak fun b hb _ e => hb (by rw [e]; exact HXP.out)) (by rw [← hW3]; exact (T2'.bel.setCell (p := ⟨p, 2, none⟩) HLW.out _).setCell (p := ⟨p, 3, none⟩) HLW.out _), by rw [← hW3]; exact (B2.out.set 2 _).set 3 _, HXP.out, HLW.out, .inl ⟨rfl, rfl⟩, ⟨Nat.le_refl _, Nat.le_refl _, by decide⟩, HXO.out⟩
      have SM := Lib.hid (same_self (c := 0) (d := 0) W3 (Rows.nil W3 anyP 1 ByR none) (Rows.nil W3 anyP 1 ByR none) (Nat.zero_le _))
      have t1 : (q.1 == q.1) = true := beq_self_eq_true _
      clear T2' K2' hkp HCO
      go_wp2_with fail
      refine (SM.out).mono ?_
      rintro e W4 ⟨rfl, b4⟩
      have FIN : Hid (∃ a y f g n b X2, PrJ w d r p q.2.1 a y f g n b X2 W4 ∧ n ≤ 65536) := Lib.hid ⟨_, _, 1, 1, 0, false, X, ⟨J3.out.two.later b4, J3.out.box.later b4, J3.out.xp, J3.out.low, .inl ⟨rfl, rfl⟩, J3.out.bf, J3.out.xo⟩, Nat.zero_le _⟩
      clear b4
      go_wp2_with fail
      go_ret
      exact ⟨rfl, FIN.out⟩
    · exact absurd h HX.out
  · obtain ⟨hf1, hg1, hg2, hwd⟩ := HGN.out hx
    have hp := HBX.out.lt
    have hnr : q.2.2.2.2.length ≤ 65536 := by have := wide_len q.2.2.2.2; omega
    have B1 : Hid (Ro W1 p 37 [.pointer (some ⟨d, 0, none⟩), .pointer (some ⟨r, 0, none⟩), a0, y0]) := Lib.hid ((K1'.blk p HXP.out HBX.out.lt).trans HBX.out)
    have x0 := B1.out.cell (k := 0) rfl
    have x1 := B1.out.cell (k := 1) rfl
    have CO := ropen_two T1' HLT.out hk (by omega)
    rw [HQ.out] at CO
    have HCO := Lib.hid CO
    have HV1 := Lib.hid hV
    have HR1 := Lib.hid hR
    have HY1 := Lib.hid hY
    have hv1 := hV.lt
    clear T1' K1' CO CV hV hR hY
    go_wp2_with fail
    refine (HCO.out).mono ?_
    rintro e W2 h
    rcases h with ⟨h, _⟩ | ⟨_, x, A2, c2, rfl, hxx, hV2, hR2, T2', K2'⟩
    · exact absurd hx h
    · have B2 : Hid (Ro W2 p 37 [.pointer (some ⟨d, 0, none⟩), .pointer (some ⟨r, 0, none⟩), a0, y0]) := Lib.hid ((K2'.blk p (.inl HXP.out) B1.out.lt).trans B1.out)
      have hV12 : Ro W2 v 90 _ := (K2'.blk v (.inr (.inl rfl)) HV1.out.lt).trans HV1.out
      have hR12 := Rows.keep byM HR1.out (K2'.narrow fun b hb => .inr (.inr hb))
      have hp1 := B1.out.lt
      have x0 := B2.out.cell (k := 0) rfl
      have x2 := B2.out.cell (k := 2) rfl
      have x3 := B2.out.cell (k := 3) rfl
      have y2 := B2.out.free 2
      have y3 := B2.out.free 3
      obtain ⟨W3, hW3⟩ : ∃ W3, (W2.setCell ⟨p, 2, none⟩ (.pointer (some ⟨v, 0, none⟩))).setCell ⟨p, 3, none⟩ (.pointer (some ⟨x, 0, none⟩)) = W3 := ⟨_, rfl⟩
      have hkp : Kept (fun b => b ≠ p) W2 W3 := by
        rw [← hW3]
        exact ⟨Nat.le_of_eq (by simp), fun q hq _ => (Below.heap_setCell _ ⟨p, 3, none⟩ _ q hq).trans (Below.heap_setCell _ ⟨p, 2, none⟩ _ q hq)⟩
      have J3 : Hid (PrJ w d r p q.2.1 (.pointer (some ⟨v, 0, none⟩)) (.pointer (some ⟨x, 0, none⟩)) q.2.2.1 q.2.2.2.1 q.2.2.2.2.length false (fun b => (X b ∨ b = v ∨ Y b) ∨ b = x) W3) := Lib.hid ⟨T2'.put (hkp.weak fun b hb _ e => hb (by rw [e]; exact .inl (.inl HXP.out))) (by rw [← hW3]; exact (T2'.bel.setCell (p := ⟨p, 2, none⟩) HLW.out _).setCell (p := ⟨p, 3, none⟩) HLW.out _), by rw [← hW3]; exact (B2.out.set 2 _).set 3 _, .inl (.inl HXP.out), HLW.out, .inr ⟨v, x, rfl, rfl, (hkp.blk v (by omega) hV12.lt).trans hV12, (hkp.blk x (by omega) hV2.lt).trans hV2, ⟨.inl (.inr (.inl rfl)), .inr rfl⟩, ⟨by have := HT.out.bel.size; omega, by have := HT.out.bel.size; omega⟩, by omega, by omega, by omega⟩, ⟨hf1, hg1, hg2⟩, fun b h => .inl (.inl (HXO.out b h))⟩
      have SM := Lib.hid (same_self (c := c) (d := c2) W3 (Rows.weak byM (Rows.keep byM hR12 (hkp.narrow fun b hb => by have := (HY1.out b hb).1; omega)) fun _ _ _ => trivial) (Rows.weak byM (Rows.keep byM hR2 (hkp.narrow fun b hb => by omega)) fun _ _ _ => trivial) (by omega))
      have t1 : (q.1 == q.1) = true := beq_self_eq_true _
      have hq0 : q.1 = 0 := hx
      obtain ⟨nn, hnn⟩ : ∃ nn, q.2.2.2.2.length = nn := ⟨_, rfl⟩
      rw [hnn] at J3 SM hnr ⊢
      clear T2' K2' hkp HCO hV12 hR12 hV2 hR2 hnn
      go_wp2_with fail
      refine (SM.out).mono ?_
      rintro e W4 ⟨rfl, b4⟩
      have FIN : Hid (∃ a y f g n b X2, PrJ w d r p q.2.1 a y f g n b X2 W4 ∧ n ≤ 65536) := Lib.hid (by
        obtain ⟨h1, h2, h3, h4, h5, h6, h7⟩ := J3.out
        rcases h5 with ⟨h, _⟩ | ⟨v', x', e1, e2, V1, V2, hX, hlo, hn1, hn2, hn3⟩
        · cases h
        · exact ⟨_, _, _, _, _, _, _, ⟨h1.later b4, h2.later b4, h3, h4, .inr ⟨v', x', e1, e2, V1.later b4, V2.later b4, hX, hlo, hn1, hn2, hn3⟩, h6, h7⟩, hnr⟩)
      clear b4
      go_wp2_with fail
      go_ret
      exact ⟨rfl, FIN.out⟩
end
end Go.Proofs.YtjcphpmlekfhdaaGreatDoor
