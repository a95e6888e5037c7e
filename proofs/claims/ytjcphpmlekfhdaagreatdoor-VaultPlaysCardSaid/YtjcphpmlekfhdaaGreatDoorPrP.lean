/- VaultPlays: walked. Condition: the tables lie as laid. -/
import Derived.Test.YtjcphpmlekfhdaaGreatDoorPrD
import Derived.Test.YtjcphpmlekfhdaaGreatDoorGl
import Derived.IntWalk
namespace Go.Proofs.YtjcphpmlekfhdaaGreatDoor
open Go.RowKit

theorem kwts_len : ∀ (l : List CallD), 32 * l.length ≤ kwts l
  | [] => Nat.zero_le _
  | x :: l => by
    have e : kwts (x :: l) = kwt x + kwts l := by unfold kwts; simp
    have := kwts_len l
    rw [e, List.length_cons]
    unfold kwt
    omega
theorem two_new {w w1 w2 : World} {d m : Nat} {X : Nat → Prop} (D : Dp w d X (newD m) w1) (b1 : Below w1.heap.size w1 w2) (K : Rsk w w1.heap.size (fun k => k = w1.heap.size) (newD m) w2) : Two w d w1.heap.size X (newD m) (newD m) w2 := by
  obtain ⟨F, D, hX⟩ := D
  refine ⟨F, _, D.later b1, K, fun b hf hg => ?_, fun b hb => ⟨(hX b hb).1, fun e => ?_, Nat.lt_of_lt_of_le (hX b hb).2 b1.size⟩⟩
  · obtain ⟨_, _, _, _, _, _, _, _, hl⟩ := D
    have := (hl b hf).2
    have e : b = w1.heap.size := hg
    omega
  · have := (hX b hb).2
    have e : b = w1.heap.size := e
    omega
set_option maxRecDepth 100000 in
set_option maxHeartbeats 16000000 in
theorem vplays_law {w : World} {m n c : Nat} {A : Option Addr} {l : List CallD} (hm : m < 65536) (hnc : n ≤ c) (hn : n ≤ 140737488351232) (hcm : c ≤ 9223372036854775807) (hR : Rows w anyP 7 CallR A n l) (hLd : Laid w) : Calls Tryz.prog 3 #[.int .u16 (m : Nat), .slice A n c] w fun e W => e = .returned (.bool true) ∧ Below w.heap.size w W := by
  have hln := hR.len
  have HL := Lib.hid hLd
  have HR := Lib.hid hR
  have HH := Lib.hid (heavy_any (c := c) w hn hR)
  clear hLd hR
  by_cases hv : 16384 < kwts l
  · go_enter Tryz.func3, Tryz.ntmps3
    go_wp2_with fail
    refine (HH.out).mono ?_
    rw [decide_eq_true hv]
    rintro e W ⟨rfl, b⟩
    have HB := Lib.hid b
    clear b HH hv
    go_wp2_with fail
    refine (works_any (HL.out.later HL.out.lt HB.out)).mono ?_
    rintro e W ⟨rfl, bW⟩
    have HC := Lib.hid (below_trn HB.out bW)
    clear bW HB
    go_wp2_with fail
    go_ret
    exact ⟨rfl, HC.out⟩
  have HV := Lib.hid hv
  by_cases hm0 : m = 0
  · subst hm0
    go_enter Tryz.func3, Tryz.ntmps3
    go_wp2_with fail
    refine (HH.out).mono ?_
    rw [decide_eq_false hv]
    rintro e W ⟨rfl, b⟩
    have HB := Lib.hid b
    clear b HH hv
    go_wp2_with fail
    refine (new_not (m := 0) (.inl (by decide))).mono ?_
    rintro e w2 ⟨rfl, rfl⟩
    go_wp2_with fail
    refine (rnew_not (m := 0) (.inl (by decide))).mono ?_
    rintro e w3 ⟨rfl, rfl⟩
    go_wp2_with fail
    refine (works_any (HL.out.later HL.out.lt HB.out)).mono ?_
    rintro e W ⟨rfl, bW⟩
    have HC := Lib.hid (below_trn HB.out bW)
    clear bW HB
    go_wp2_with fail
    go_ret
    exact ⟨rfl, HC.out⟩
  go_enter Tryz.func3, Tryz.ntmps3
  go_wp2_with fail
  refine (HH.out).mono ?_
  rw [decide_eq_false hv]
  rintro e W0 ⟨rfl, b0⟩
  have HN := Lib.hid (new_p (w0 := w) (w := W0) (X := fun b => b < w.heap.size) b0 (fun _ h => Nat.lt_of_lt_of_le h b0.size) (m := m) (by omega) (by omega))
  clear b0 HH hv
  go_wp2_with fail
  refine (HN.out).mono ?_
  rintro e W1 ⟨d, rfl, hd1, D1', b1⟩
  have D1 := Lib.hid D1'
  clear hd1 D1' b1 HN
  go_wp2_with fail
  refine (rnew_any D1.out.bel (m := m) (by omega) (by omega)).mono ?_
  rintro e W2 ⟨rfl, K2, b2⟩
  have HT := Lib.hid (two_new D1.out b2 K2)
  clear K2 b2 D1
  obtain ⟨r, hr⟩ : ∃ r, W1.heap.size = r := ⟨_, rfl⟩
  rw [hr] at HT ⊢
  clear hr
  obtain ⟨W3, hW3⟩ : ∃ W3, W2.alloc (.cells #[.pointer (some ⟨d, 0, none⟩), .pointer (some ⟨r, 0, none⟩), .pointer none, .pointer none] 37) = W3 := ⟨_, rfl⟩
  have b3 : Below W2.heap.size W2 W3 := by rw [← hW3]; exact (Below.refl _ _).alloc (Nat.le_refl _) _
  have B3 : Ro W3 W2.heap.size 37 [.pointer (some ⟨d, 0, none⟩), .pointer (some ⟨r, 0, none⟩), .pointer none, .pointer none] := by rw [← hW3]; exact Ro.new W2 _ _
  have T3 := HT.out.wide b3
  have hlow := HT.out.bel.size
  have CO := Lib.hid (popen_any (k := 0) HL.out T3 B3 (.inr ⟨Nat.le_refl _, B3.lt⟩) hlow ⟨Nat.zero_le _, Nat.zero_le _, by show m ≤ 4194304; omega⟩ (by decide) (by show m ≤ 65535; omega) (Nat.zero_le _) (fun b h => .inl h))
  obtain ⟨p, hp⟩ : ∃ p, W2.heap.size = p := ⟨_, rfl⟩
  rw [hp] at CO
  have HP := Lib.hid hp
  clear b3 B3 T3 hlow HT
  go_wp2_with fail
  refine (CO.out).mono ?_
  rintro e W4 ⟨rfl, a, y, f, g, n4, b4, X4, J4, hn4⟩
  have I := inc_open (newD m)
  have i1 : (openS (newD m)).2.1.cnt ≤ 4 := I.cnt
  have i2 : (openS (newD m)).2.1.uses ≤ 0 + 4 * (m + 1) := I.uses
  have i3 : (openS (newD m)).2.1.most = m := I.most
  have HJ4 := Lib.hid J4
  clear J4 CO I
  obtain ⟨S4, hS4⟩ : ∃ S4, (openS (newD m)).2.1 = S4 := ⟨_, rfl⟩
  rw [hS4] at i1 i2 i3 HJ4
  clear hS4
  go_wp2_with fail
  refine (palike_any HJ4.out ⟨by omega, by omega⟩ (by omega)).mono ?_
  rintro e W5 ⟨rfl, J5'⟩
  have HJ5 := Lib.hid J5'
  clear J5' HJ4
  go_wp2_with fail
  go_loopw [10] (fun i wq => ∃ (j : Nat) (S : Dk) (a y : Value) (f g n' : Nat) (b : Bool) (X : Nat → Prop), j ≤ n ∧ i = .int .i64 (j : Nat) ∧ PrJ w d r p S a y f g n' b X wq ∧ S.cnt ≤ 20000 * (j + 1) ∧ S.uses ≤ 400000 * (j + 1) ∧ S.most = m ∧ n' ≤ 65536 * (j + 1)) (fun i _ => n - (intOf i).toNat)
  case atStart => exact ⟨0, S4, a, y, f, g, n4, b4, X4, Nat.zero_le _, rfl, HJ5.out, by omega, by omega, i3, by omega⟩
  case round =>
    obtain ⟨j, S, a, y, f, g, n', b', X, hj, rfl, J, k1, k2, k3, k4⟩ := hrel
    have HJ := Lib.hid J
    clear J HJ5
    have hn512 : n ≤ 512 := by have := kwts_len l; have := HV.out; omega
    by_cases hjn : j < n
    · have t1 : decide ((j : Int) < (n : Int)) = true := decide_eq_true (by omega)
      obtain ⟨b, oo, rfl⟩ := rows_some HR.out (by omega)
      have hkl : j < l.length := by omega
      obtain ⟨hb, _, V, _, hr, A5, c5, V2, rfl, g1, g2, g3, g4, B6, c6, Q7, c7, rfl, g5, g6, g7, g8, g9, g10, g11⟩ := (Rows.later callM (Rows.weak (Q := fun b => b < w.heap.size) callM HR.out fun _ _ h => h) HJ.out.two.bel).at_ hkl
      have hlx : kwt l[j] ≤ 16384 := by
        have e1 := kwts_next hkl
        have e2 := kwts_take l (j + 1)
        have e3 := HV.out
        omega
      obtain ⟨x, hx⟩ : ∃ x, l[j] = x := ⟨_, rfl⟩
      rw [hx] at hr g1 g2 g4 g5 g6 g8 g9 g11 hlx
      have CD := Lib.hid (pdo_any (c5 := c5) HL.out HJ.out (by omega) (by omega) (by omega) (by omega) g1 g4 g5 g6.1 g7 g8 g9.1 g10 g11 hlx)
      have z0 := hr 0 _ rfl
      have z1 := hr 1 _ rfl
      have z2 := hr 2 _ rfl
      have z3 := hr 3 _ rfl
      have z4 := hr 4 _ rfl
      have z5 := hr 5 _ rfl
      have z6 := hr 6 _ rfl
      rw [Nat.add_zero] at z0
      clear hr g4 g8 g11 hx hlx
      go_wp2_with fail
      refine (CD.out).mono ?_
      rintro e W6 ⟨rfl, S2, a2, y2, f2, g2', n2, b2, X2, J6, q1, q2, q3, q4⟩
      have HJ6 := Lib.hid J6
      clear J6 CD
      go_wp2_with fail
      refine (palike_any HJ6.out ⟨by omega, by omega⟩ (by omega)).mono ?_
      rintro e W7 ⟨rfl, J7'⟩
      have HJ7 := Lib.hid J7'
      clear J7' HJ6
      go_wp2_with fail
      go_roundw
      case rel => exact ⟨j + 1, S2, a2, y2, f2, g2', n2, b2, X2, by omega, by go_num, HJ7.out, by omega, by omega, by rw [q4, k3], by omega⟩
      case measure => simp [intOf]; omega
    · have t1 : decide ((j : Int) < (n : Int)) = false := decide_eq_false (by omega)
      have HB := Lib.hid HJ.out.two.bel
      go_wp2_with fail
      refine (works_any (HL.out.later HL.out.lt HB.out)).mono ?_
      rintro e W9 ⟨rfl, b9⟩
      have HC := Lib.hid (HB.out.trans (b9.mono HB.out.size))
      clear b9 HB
      go_wp2_with fail
      go_ret
      exact ⟨rfl, HC.out⟩
end Go.Proofs.YtjcphpmlekfhdaaGreatDoor
