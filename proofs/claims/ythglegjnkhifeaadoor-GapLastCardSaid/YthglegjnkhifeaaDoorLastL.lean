/- GapLast: of those that are watched the last gap ones are not used, and of no fewer that is so. No condition but that the tables lie as laid. -/
import Derived.Test.YthglegjnkhifeaaDoorWorks
namespace Go.Proofs.YthglegjnkhifeaaDoor
open Go.RowKit

theorem clean_snoc2 (U : List Int) (u g n : Int) : cleanAt (U ++ [u]) g n = (cleanAt U g n && !(decide (n - g ≤ u) && decide (u < n) && decide (0 ≤ u))) := by
  rw [clean_snoc]
  congr 2
  cases decide (0 ≤ u) <;> cases decide (u < n) <;> cases decide (n - g ≤ u) <;> rfl

set_option maxRecDepth 100000 in
set_option maxHeartbeats 8000000 in
theorem last_law {A : Option Addr} {n c : Nat} {L : List Int} {by_ : Nat} {w : World} (_ : n ≤ c) (_ : c ≤ 9223372036854775807) (hl : Is w A n L) (hy : by_ < 256) (hLd : Laid w) :
    Calls Tryd.prog 4 #[.slice A n c, .int .u8 (by_ : Nat)] w fun e w' => e = .returned (.bool true) ∧ Below w.heap.size w w' := by
  have HD := Lib.hid hLd
  have HL := Lib.hid hl
  have HN := Lib.hid hl.len
  have B0 := Lib.hid (Below.refl w.heap.size w)
  clear hLd hl
  have fin : ∀ w1, Below w.heap.size w w1 → Calls Tryd.prog 7 #[] w1 fun e w' => e = .returned (.bool true) ∧ Below w.heap.size w w' := fun w1 b => (works_any w1 (HD.out.later HD.out.lt b)).mono fun e w' ⟨h1, h2⟩ => ⟨h1, b.trans (h2.mono b.size)⟩
  have FIN := Lib.hid fin
  clear fin
  go_enter Tryd.func4, Tryd.ntmps4
  by_cases hn : 200 < n
  · have t0 : decide ((200 : Int) < (n : Int)) = true := decide_eq_true (by omega)
    go_wp2_with fail
    refine (FIN.out _ B0.out).mono ?_
    rintro e w1 ⟨rfl, hb⟩
    have HB := Lib.hid hb
    clear hb
    go_wp2_with fail
    go_ret
    exact ⟨rfl, HB.out⟩
  have t0 : decide ((200 : Int) < (n : Int)) = false := decide_eq_false (by omega)
  obtain ⟨r, hr⟩ : ∃ r, by_ % 50 = r := ⟨_, rfl⟩
  have z1 : (by_ : Int) % 50 = (r : Int) := by omega
  have r50 : r < 50 := by omega
  obtain ⟨γ, hγ⟩ : ∃ γ, 1 + r = γ := ⟨_, rfl⟩
  have z2 : (1 : Int) + (r : Int) = (γ : Int) := by omega
  have g1 : 1 ≤ γ ∧ γ ≤ 50 := by omega
  have CW := watch_any (c := c) (x := (γ : Int)) w (by omega) (by omega) HL.out
  rw [show max (γ : Int) 1 = (γ : Int) by omega] at CW
  obtain ⟨s1, s2, s3⟩ := watch_spec L (γ : Int)
  obtain ⟨W, hW⟩ : ∃ W, watchS L (γ : Int) = W := ⟨_, rfl⟩
  rw [hW] at CW s1 s2 s3
  have HCW := Lib.hid CW
  have gW : γ ≤ W := by
    by_cases q : W < 200
    · have := (s3 q).1; omega
    · omega
  have S2 := Lib.hid s2
  have S3 := Lib.hid s3
  have t1 : decide ((W : Int) < (γ : Int)) = false := decide_eq_false (by omega)
  have t2 : decide ((200 : Int) < (W : Int)) = false := decide_eq_false (by omega)
  clear hr hγ CW hW s2 s3
  go_wp2_with fail
  refine HCW.out.mono ?_
  rintro e w1 ⟨rfl, hb⟩
  have B1 := Lib.hid (B0.out.trans (hb.mono B0.out.size))
  clear hb HCW B0
  go_wp2_with fail
  go_loopw [7] (fun mv wr => ∃ k : Nat, mv = .int .i64 (k : Nat) ∧ γ ≤ k ∧ k ≤ W + 1 ∧ Below w.heap.size w wr) (fun mv _ => 201 - (intOf mv).toNat)
  case atStart => exact ⟨γ, rfl, Nat.le_refl _, by omega, B1.out⟩
  case round =>
    clear B1 z1 z2
    obtain ⟨k, rfl, hgk, hk, hB⟩ := hrel
    have HB := Lib.hid hB
    clear hB
    by_cases hkW : k ≤ W
    · have t3 : decide ((k : Int) ≤ (W : Int)) = true := decide_eq_true (by omega)
      have y1 : IntKind.i64.wrap ((k : Int) - (γ : Int)) = (k : Int) - (γ : Int) := by rw [IntWalk.i64_in _ (by omega)]
      go_wp2_with fail
      go_loopw [8, 9] (fun bv iv wr => ∃ (j : Nat) (b : Bool), bv = .bool b ∧ iv = .int .i64 (j : Nat) ∧ j ≤ n ∧ cleanAt (L.take j) (γ : Int) (k : Int) = b ∧ Below w.heap.size w wr) (fun _ iv _ => n - (intOf iv).toNat)
      case atStart => exact ⟨0, true, rfl, rfl, Nat.zero_le _, rfl, HB.out⟩
      case round =>
        clear HB
        obtain ⟨j, b, rfl, rfl, hj, hC, hB⟩ := hrel
        have HC := Lib.hid hC
        have HB := Lib.hid hB
        clear hC hB
        by_cases hlj : j < n
        · have t4 : decide ((j : Int) < (n : Int)) = true := decide_eq_true (by omega)
          have LW := HL.out.later HB.out
          obtain ⟨bb, o, rfl, hb, hc⟩ := LW.cel (by omega)
          have ad := add_at bb o
          have c1 := hc j hlj
          have TK := take_ith (L := L) (k := j) (by rw [HN.out]; exact hlj)
          obtain ⟨u, hu⟩ : ∃ u, ith L j = u := ⟨_, rfl⟩
          rw [hu] at c1 TK
          have NC : Hid (cleanAt (L.take (j + 1)) (γ : Int) (k : Int) = (b && !(decide ((k : Int) - (γ : Int) ≤ u) && decide (u < (k : Int)) && decide (0 ≤ u)))) := Lib.hid (by rw [TK, clean_snoc2, HC.out])
          clear hu hb hc LW TK HC
          cases b with
          | false =>
            have NB : Hid (cleanAt (L.take (j + 1)) (γ : Int) (k : Int) = false) := Lib.hid (by rw [NC.out]; rfl)
            clear NC
            go_wp2_with fail
            exact ⟨⟨j + 1, false, rfl, by go_num, by omega, NB.out, HB.out⟩, by simp [intOf]; omega⟩
          | true =>
            by_cases h1 : (k : Int) - (γ : Int) ≤ u
            · have q1 : decide ((k : Int) - (γ : Int) ≤ u) = true := decide_eq_true h1
              by_cases h2 : u < (k : Int)
              · have q2 : decide (u < (k : Int)) = true := decide_eq_true h2
                by_cases h3 : 0 ≤ u
                · have q3 : decide (0 ≤ u) = true := decide_eq_true h3
                  have NB : Hid (cleanAt (L.take (j + 1)) (γ : Int) (k : Int) = false) := Lib.hid (by rw [NC.out, q1, q2, q3]; rfl)
                  clear NC
                  go_wp2_with fail
                  exact ⟨⟨j + 1, false, rfl, by go_num, by omega, NB.out, HB.out⟩, by simp [intOf]; omega⟩
                · have q3 : decide (0 ≤ u) = false := decide_eq_false h3
                  have NB : Hid (cleanAt (L.take (j + 1)) (γ : Int) (k : Int) = true) := Lib.hid (by rw [NC.out, q1, q2, q3]; rfl)
                  clear NC
                  go_wp2_with fail
                  exact ⟨⟨j + 1, true, rfl, by go_num, by omega, NB.out, HB.out⟩, by simp [intOf]; omega⟩
              · have q2 : decide (u < (k : Int)) = false := decide_eq_false h2
                have NB : Hid (cleanAt (L.take (j + 1)) (γ : Int) (k : Int) = true) := Lib.hid (by rw [NC.out, q1, q2]; rfl)
                clear NC
                go_wp2_with fail
                exact ⟨⟨j + 1, true, rfl, by go_num, by omega, NB.out, HB.out⟩, by simp [intOf]; omega⟩
            · have q1 : decide ((k : Int) - (γ : Int) ≤ u) = false := decide_eq_false h1
              have NB : Hid (cleanAt (L.take (j + 1)) (γ : Int) (k : Int) = true) := Lib.hid (by rw [NC.out, q1]; rfl)
              clear NC
              go_wp2_with fail
              exact ⟨⟨j + 1, true, rfl, by go_num, by omega, NB.out, HB.out⟩, by simp [intOf]; omega⟩
        · obtain rfl : j = n := by omega
          have t4 : decide ((j : Int) < (j : Int)) = false := decide_eq_false (by omega)
          rw [List.take_of_length_le (by rw [HN.out]; exact Nat.le_refl _)] at HC
          by_cases hkl : k < W
          · have e1 : ((k : Int) == (W : Int)) = false := by rw [beq_eq_false_iff_ne]; omega
            have e2 : decide ((k : Int) < (W : Int)) = true := decide_eq_true (by omega)
            obtain rfl : b = false := by
              cases b with
              | false => rfl
              | true => exact absurd ⟨by omega, HC.out⟩ (S2.out k hkl)
            go_wp2_with fail
            exact ⟨⟨k + 1, by go_num, by omega, by omega, HB.out⟩, by simp [intOf]; omega⟩
          · obtain rfl : k = W := by omega
            have e1 : ((k : Int) == (k : Int)) = true := by rw [beq_iff_eq]
            have e2 : decide ((k : Int) < (k : Int)) = false := decide_eq_false (by omega)
            by_cases h200 : k < 200
            · obtain rfl : b = true := by rw [← HC.out]; exact (S3.out h200).2
              go_wp2_with fail
              exact ⟨⟨k + 1, by go_num, by omega, by omega, HB.out⟩, by simp [intOf]; omega⟩
            · have e3 : decide ((k : Int) < 200) = false := decide_eq_false (by omega)
              cases b <;> (
                go_wp2_with fail
                exact ⟨⟨k + 1, by go_num, by omega, by omega, HB.out⟩, by simp [intOf]; omega⟩)
    · have t3 : decide ((k : Int) ≤ (W : Int)) = false := decide_eq_false (by omega)
      go_wp2_with fail
      refine (FIN.out _ HB.out).mono ?_
      rintro e w9 ⟨rfl, hb⟩
      have HB9 := Lib.hid hb
      clear hb
      go_wp2_with fail
      go_ret
      exact ⟨rfl, HB9.out⟩
end Go.Proofs.YthglegjnkhifeaaDoor
