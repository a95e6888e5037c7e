/- What math/bits.Div64 returns where the high word is below the divisor: the quotient and the rest of the number of two words. -/
import Derived.Test.YtimjmmiajgfblaaGreatDoorGan
import Derived.BigQuiet
import Derived.BigGuardPart
import Derived.Deep.QuietTactic

namespace Go.Proofs.YtimjmmiajgfblaaGreatDoor.Bg
set_option maxRecDepth 100000
open Go.RowKit

/-- A call of LeadingZeros64 at this word gives this number. -/
def LzIs (x l : Nat) : Prop := ∀ w : World, Calls Tryz.prog 109 #[.int .u64 (x : Nat)] w fun e w' => e = .returned (.int .i64 (l : Nat)) ∧ w' = w

/-- What a loop that corrects a digit of the quotient keeps: I of digit and rest; d is the digit that it ends with. -/
structure Corrects (I : Int → Int → Prop) (v1 v0 u d : Int) : Prop where
  bound : ∀ q r, I q r → 0 ≤ r ∧ r < 4294967296 ∧ 0 ≤ q ∧ q ≤ 4294967297
  step : ∀ q r, I q r → (4294967296 ≤ q ∨ 4294967296 * r + u < q * v0) → 1 ≤ q ∧ (r + v1 < 4294967296 → I (q - 1) (r + v1)) ∧ (4294967296 ≤ r + v1 → q - 1 = d)
  done : ∀ q r, I q r → q < 4294967296 → q * v0 ≤ 4294967296 * r + u → q = d

theorem prod_name (q : Int) (v : Nat) (h0 : 0 ≤ q) (h1 : q ≤ 4294967295) (hv : v < 4294967296) : ∃ m : Int, q * (v : Int) = m ∧ 0 ≤ m ∧ m ≤ 18446744065119617025 := by
  refine ⟨_, rfl, Int.mul_nonneg h0 (by omega), ?_⟩
  have := Int.mul_le_mul h1 (show (v : Int) ≤ 4294967295 by omega) (by omega) (by omega)
  simpa using this

theorem wrap_u64 (n : Nat) (h : n < 18446744073709551616) : IntKind.u64.wrap (n : Int) = (n : Int) := IntWalk.u64_in _ (by omega)
theorem wrap_mul (a b : Nat) (h : a * b < 18446744073709551616) : IntKind.u64.wrap ((a : Int) * (b : Int)) = ((a * b : Nat) : Int) := by
  have := wrap_u64 (a * b) h
  rw [← this]; simp

set_option maxRecDepth 100000 in
set_option maxHeartbeats 4000000 in
theorem div64_walk (hi lo y s v v1 v0 uh ul u32 u10 u1 u0 qm x1 x2 x3 u21 pm z1 z2 z3 z4 z5 quo rem : Nat) (q r p t d1 d0 : Int) (w : World) (I J : Int → Int → Prop) (hs : s < 64) (hz : LzIs y s)
    (t1 : hi < y) (t2 : 0 < hi) (hv1 : 0 < v1) (hv1' : v1 < 4294967296) (hv0 : v0 < 4294967296) (hu1 : u1 < 4294967296) (hu0 : u0 < 4294967296)
    (V : IntKind.u64.wrap ((y : Int) * 2 ^ s) = (v : Int)) (V1 : (v : Int) / 4294967296 = (v1 : Int)) (V0 : bits .and .u64 (v : Int) 4294967295 = (v0 : Int))
    (UH : IntKind.u64.wrap ((hi : Int) * 2 ^ s) = (uh : Int)) (UL : (lo : Int) / 2 ^ (64 - s) = (ul : Int)) (U32 : bits .or .u64 (uh : Int) (ul : Int) = (u32 : Int))
    (U10 : IntKind.u64.wrap ((lo : Int) * 2 ^ s) = (u10 : Int)) (U1 : (u10 : Int) / 4294967296 = (u1 : Int)) (U0 : bits .and .u64 (u10 : Int) 4294967295 = (u0 : Int))
    (Q : IntKind.u64.wrap ((u32 : Int) / (v1 : Int)) = q) (QM : IntKind.u64.wrap (q * (v1 : Int)) = (qm : Int)) (R : IntKind.u64.wrap ((u32 : Int) - (qm : Int)) = r)
    (i0 : I q r) (ci : Corrects I v1 v0 u1 d1)
    (X1 : IntKind.u64.wrap ((u32 : Int) * 4294967296) = (x1 : Int)) (X2 : IntKind.u64.wrap ((x1 : Int) + (u1 : Int)) = (x2 : Int)) (X3 : IntKind.u64.wrap (d1 * (v : Int)) = (x3 : Int)) (U21 : IntKind.u64.wrap ((x2 : Int) - (x3 : Int)) = (u21 : Int))
    (P : IntKind.u64.wrap ((u21 : Int) / (v1 : Int)) = p) (P' : IntKind.u64.wrap (Int.tdiv (u21 : Int) (v1 : Int)) = p) (PM : IntKind.u64.wrap (p * (v1 : Int)) = (pm : Int)) (T : IntKind.u64.wrap ((u21 : Int) - (pm : Int)) = t)
    (j0 : J p t) (cj : Corrects J v1 v0 u0 d0) (hd1 : 0 ≤ d1) (hd0 : 0 ≤ d0)
    (Z1 : IntKind.u64.wrap (d1 * 4294967296) = (z1 : Int)) (QUO : IntKind.u64.wrap ((z1 : Int) + d0) = (quo : Int))
    (Z2 : IntKind.u64.wrap ((u21 : Int) * 4294967296) = (z2 : Int)) (Z3 : IntKind.u64.wrap ((z2 : Int) + (u0 : Int)) = (z3 : Int)) (Z4 : IntKind.u64.wrap (d0 * (v : Int)) = (z4 : Int)) (Z5 : IntKind.u64.wrap ((z3 : Int) - (z4 : Int)) = (z5 : Int)) (REM : (z5 : Int) / 2 ^ s = (rem : Int)) :
    Calls Tryz.prog 98 #[.int .u64 (hi : Nat), .int .u64 (lo : Nat), .int .u64 (y : Nat)] w fun e w' => e = .returned (.tuple #[.int .u64 (quo : Nat), .int .u64 (rem : Nat)]) ∧ w' = w := by
  have G := Lib.hid hz
  have CI := Lib.hid ci
  have CJ := Lib.hid cj
  have I0 := Lib.hid i0
  have J0 := Lib.hid j0
  clear hz ci cj i0 j0
  go_enter Tryz.func98, Tryz.ntmps98
  go_wp2_with fail
  refine (G.out _).mono ?_
  rintro e w' ⟨rfl, rfl⟩
  go_wp2_with fail
  clear V V1 V0 UH UL U32 U10 U1 U0 Q QM R t1 t2
  go_loop [15, 16] (fun a b => ∃ q r : Int, a = .int .u64 q ∧ b = .int .u64 r ∧ I q r) (fun a _ => (intOf a).toNat)
  case atStart => exact ⟨q, r, rfl, rfl, I0.out⟩
  case round =>
    obtain ⟨q, r, rfl, rfl, hI⟩ := hrel
    obtain ⟨hr0, hr, hq0, hq⟩ := CI.out.bound q r hI
    have HI := Lib.hid hI
    clear hI
    by_cases hA : 4294967296 ≤ q
    · obtain ⟨g1, g2, g3⟩ := CI.out.step q r HI.out (Or.inl hA)
      have G2 := Lib.hid g2
      have G3 := Lib.hid g3
      clear g2 g3
      go_wp2_with fail
      · have e := G3.out (by assumption)
        subst e
        clear G2 G3 HI hA
        go_wp2_with fail
        try simp only [X3, U21, P', P, PM, T]
        clear X1 X2 X3 U21 P P' PM T
        go_loop [18, 16] (fun a b => ∃ q r : Int, a = .int .u64 q ∧ b = .int .u64 r ∧ J q r) (fun a _ => (intOf a).toNat)
        case atStart => exact ⟨p, t, rfl, rfl, J0.out⟩
        case round =>
          obtain ⟨q, r, rfl, rfl, hI⟩ := hrel
          obtain ⟨hr0, hr, hq0, hq⟩ := CJ.out.bound q r hI
          have HI := Lib.hid hI
          clear hI
          by_cases hA : 4294967296 ≤ q
          · obtain ⟨g1, g2, g3⟩ := CJ.out.step q r HI.out (Or.inl hA)
            have G2 := Lib.hid g2
            have G3 := Lib.hid g3
            clear g2 g3
            go_wp2_with fail
            · have e := G3.out (by assumption)
              subst e
              clear G2 G3 HI hA
              go_wp2_with fail
              try simp only [Z1, QUO, Z2, Z3, Z4, Z5, REM]
              go_returns
              exact ⟨rfl, rfl⟩
            · go_round
              case rel => exact ⟨q - 1, r + v1, rfl, rfl, G2.out (by assumption)⟩
              case measure => simp [intOf]; omega
          · obtain ⟨m, hm, hm0, hm1⟩ := prod_name q v0 hq0 (by omega) hv0
            have QV : IntKind.u64.wrap (q * (v0 : Int)) = m := by rw [hm]; exact IntWalk.u64_in _ ⟨by omega, by omega⟩
            have HM := Lib.hid hm
            clear hm
            by_cases hB : 4294967296 * r + (u0 : Int) < m
            · obtain ⟨g1, g2, g3⟩ := CJ.out.step q r HI.out (Or.inr (by rw [HM.out]; exact hB))
              have G2 := Lib.hid g2
              have G3 := Lib.hid g3
              clear g2 g3
              go_wp2_with fail
              · have e := G3.out (by assumption)
                subst e
                clear G2 G3 HI hA hm0 hm1 QV HM hB
                go_wp2_with fail
                try simp only [Z1, QUO, Z2, Z3, Z4, Z5, REM]
                go_returns
                exact ⟨rfl, rfl⟩
              · go_round
                case rel => exact ⟨q - 1, r + v1, rfl, rfl, G2.out (by assumption)⟩
                case measure => simp [intOf]; omega
            · have e := CJ.out.done q r HI.out (by omega) (by rw [HM.out]; omega)
              subst e
              go_wp2_with fail
              try simp only [Z1, QUO, Z2, Z3, Z4, Z5, REM]
              go_returns
              exact ⟨rfl, rfl⟩
      · go_round
        case rel => exact ⟨q - 1, r + v1, rfl, rfl, G2.out (by assumption)⟩
        case measure => simp [intOf]; omega
    · obtain ⟨m, hm, hm0, hm1⟩ := prod_name q v0 hq0 (by omega) hv0
      have QV : IntKind.u64.wrap (q * (v0 : Int)) = m := by rw [hm]; exact IntWalk.u64_in _ ⟨by omega, by omega⟩
      have HM := Lib.hid hm
      clear hm
      by_cases hB : 4294967296 * r + (u1 : Int) < m
      · obtain ⟨g1, g2, g3⟩ := CI.out.step q r HI.out (Or.inr (by rw [HM.out]; exact hB))
        have G2 := Lib.hid g2
        have G3 := Lib.hid g3
        clear g2 g3
        go_wp2_with fail
        · have e := G3.out (by assumption)
          subst e
          clear G2 G3 HI hA hm0 hm1 QV HM hB
          go_wp2_with fail
          try simp only [X3, U21, P', P, PM, T]
          clear X1 X2 X3 U21 P P' PM T
          go_loop [18, 16] (fun a b => ∃ q r : Int, a = .int .u64 q ∧ b = .int .u64 r ∧ J q r) (fun a _ => (intOf a).toNat)
          case atStart => exact ⟨p, t, rfl, rfl, J0.out⟩
          case round =>
            obtain ⟨q, r, rfl, rfl, hI⟩ := hrel
            obtain ⟨hr0, hr, hq0, hq⟩ := CJ.out.bound q r hI
            have HI := Lib.hid hI
            clear hI
            by_cases hA : 4294967296 ≤ q
            · obtain ⟨g1, g2, g3⟩ := CJ.out.step q r HI.out (Or.inl hA)
              have G2 := Lib.hid g2
              have G3 := Lib.hid g3
              clear g2 g3
              go_wp2_with fail
              · have e := G3.out (by assumption)
                subst e
                clear G2 G3 HI hA
                go_wp2_with fail
                try simp only [Z1, QUO, Z2, Z3, Z4, Z5, REM]
                go_returns
                exact ⟨rfl, rfl⟩
              · go_round
                case rel => exact ⟨q - 1, r + v1, rfl, rfl, G2.out (by assumption)⟩
                case measure => simp [intOf]; omega
            · obtain ⟨m, hm, hm0, hm1⟩ := prod_name q v0 hq0 (by omega) hv0
              have QV : IntKind.u64.wrap (q * (v0 : Int)) = m := by rw [hm]; exact IntWalk.u64_in _ ⟨by omega, by omega⟩
              have HM := Lib.hid hm
              clear hm
              by_cases hB : 4294967296 * r + (u0 : Int) < m
              · obtain ⟨g1, g2, g3⟩ := CJ.out.step q r HI.out (Or.inr (by rw [HM.out]; exact hB))
                have G2 := Lib.hid g2
                have G3 := Lib.hid g3
                clear g2 g3
                go_wp2_with fail
                · have e := G3.out (by assumption)
                  subst e
                  clear G2 G3 HI hA hm0 hm1 QV HM hB
                  go_wp2_with fail
                  try simp only [Z1, QUO, Z2, Z3, Z4, Z5, REM]
                  go_returns
                  exact ⟨rfl, rfl⟩
                · go_round
                  case rel => exact ⟨q - 1, r + v1, rfl, rfl, G2.out (by assumption)⟩
                  case measure => simp [intOf]; omega
              · have e := CJ.out.done q r HI.out (by omega) (by rw [HM.out]; omega)
                subst e
                go_wp2_with fail
                try simp only [Z1, QUO, Z2, Z3, Z4, Z5, REM]
                go_returns
                exact ⟨rfl, rfl⟩
        · go_round
          case rel => exact ⟨q - 1, r + v1, rfl, rfl, G2.out (by assumption)⟩
          case measure => simp [intOf]; omega
      · have e := CI.out.done q r HI.out (by omega) (by rw [HM.out]; omega)
        subst e
        go_wp2_with fail
        try simp only [X3, U21, P', P, PM, T]
        clear X1 X2 X3 U21 P P' PM T
        go_loop [18, 16] (fun a b => ∃ q r : Int, a = .int .u64 q ∧ b = .int .u64 r ∧ J q r) (fun a _ => (intOf a).toNat)
        case atStart => exact ⟨p, t, rfl, rfl, J0.out⟩
        case round =>
          obtain ⟨q, r, rfl, rfl, hI⟩ := hrel
          obtain ⟨hr0, hr, hq0, hq⟩ := CJ.out.bound q r hI
          have HI := Lib.hid hI
          clear hI
          by_cases hA : 4294967296 ≤ q
          · obtain ⟨g1, g2, g3⟩ := CJ.out.step q r HI.out (Or.inl hA)
            have G2 := Lib.hid g2
            have G3 := Lib.hid g3
            clear g2 g3
            go_wp2_with fail
            · have e := G3.out (by assumption)
              subst e
              clear G2 G3 HI hA
              go_wp2_with fail
              try simp only [Z1, QUO, Z2, Z3, Z4, Z5, REM]
              go_returns
              exact ⟨rfl, rfl⟩
            · go_round
              case rel => exact ⟨q - 1, r + v1, rfl, rfl, G2.out (by assumption)⟩
              case measure => simp [intOf]; omega
          · obtain ⟨m, hm, hm0, hm1⟩ := prod_name q v0 hq0 (by omega) hv0
            have QV : IntKind.u64.wrap (q * (v0 : Int)) = m := by rw [hm]; exact IntWalk.u64_in _ ⟨by omega, by omega⟩
            have HM := Lib.hid hm
            clear hm
            by_cases hB : 4294967296 * r + (u0 : Int) < m
            · obtain ⟨g1, g2, g3⟩ := CJ.out.step q r HI.out (Or.inr (by rw [HM.out]; exact hB))
              have G2 := Lib.hid g2
              have G3 := Lib.hid g3
              clear g2 g3
              go_wp2_with fail
              · have e := G3.out (by assumption)
                subst e
                clear G2 G3 HI hA hm0 hm1 QV HM hB
                go_wp2_with fail
                try simp only [Z1, QUO, Z2, Z3, Z4, Z5, REM]
                go_returns
                exact ⟨rfl, rfl⟩
              · go_round
                case rel => exact ⟨q - 1, r + v1, rfl, rfl, G2.out (by assumption)⟩
                case measure => simp [intOf]; omega
            · have e := CJ.out.done q r HI.out (by omega) (by rw [HM.out]; omega)
              subst e
              go_wp2_with fail
              try simp only [Z1, QUO, Z2, Z3, Z4, Z5, REM]
              go_returns
              exact ⟨rfl, rfl⟩

end Go.Proofs.YtimjmmiajgfblaaGreatDoor.Bg
