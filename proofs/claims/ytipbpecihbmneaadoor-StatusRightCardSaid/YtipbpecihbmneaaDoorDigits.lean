/- The reference's digits of a number. No condition but that it is an int. -/
import Derived.Test.YtipbpecihbmneaaDoorHex
namespace Go.Proofs.YtipbpecihbmneaaDoor
open Go.RowKit

theorem strB_app (L M : List Nat) : strB L ++ strB M = strB (L ++ M) := by
  apply ByteArray.ext
  rw [ByteArray.data_append]
  simp [strB]
theorem strB_cons (x : Nat) (M : List Nat) : ({ data := #[UInt8.ofNat x] } : ByteArray) ++ strB M = strB (x :: M) := strB_app [x] M
/-- What a call of Digits answers. -/
def DigIs (n : Int) : Prop := ∀ w, Calls Tryd.prog 19 #[.int .i64 n] w fun e w' => e = .returned (.string (strB (digN n))) ∧ Below w.heap.size w w'

set_option maxRecDepth 100000 in
set_option maxHeartbeats 2000000 in
theorem digits_one {u : Nat} (hu : u < 10) : DigIs (u : Int) := fun w => by
  have e0 := Lib.hid (digN_one (n := (u : Int)) (by omega) (by omega))
  obtain ⟨d, hd⟩ : ∃ d : Nat, 48 + u = d := ⟨_, rfl⟩
  have t1 : decide ((u : Int) < 0) = false := decide_eq_false (by omega)
  have d1 : d < 58 := by omega
  have y1 : IntKind.i64.wrap (48 + (u : Int) % 10) = (d : Int) := by rw [IntWalk.i64_in _ (by omega)]; omega
  have y2 : IntKind.u8.wrap (d : Int) = (d : Int) := by rw [IntKind.wrap_u8]; omega
  have t2 : ((u : Int) / 10 == 0) = true := by rw [beq_iff_eq]; omega
  have cv := run_str (c := 1) (Bs.lit1 w (x := d) (by omega))
  obtain ⟨S, hS⟩ : ∃ S, strB [d] = S := ⟨_, rfl⟩
  rw [hS] at cv
  have HS := Lib.hid hS
  have Hd := Lib.hid hd
  have B1 := Lib.hid ((Below.refl w.heap.size w).alloc (Nat.le_refl _) (.cells #[.int .u8 (d : Int)] 5))
  clear hS hd
  go_enter Tryd.func19, Tryd.ntmps19
  go_wp2_with fail
  go_ret
  exact ⟨by rw [e0.out, Int.toNat_natCast, Hd.out, HS.out]; rfl, B1.out⟩

set_option maxRecDepth 100000 in
set_option maxHeartbeats 2000000 in
theorem digits_minus {u : Nat} (h1 : 1 ≤ u) (hu : u < 10) : DigIs (-(u : Int)) := fun w => by
  have e0 := Lib.hid (digN_minus (n := -(u : Int)) (by omega))
  have CD := Lib.hid (digits_one hu)
  have LE := Lib.hid (digN_one (n := (u : Int)) (by omega) (by omega))
  have t1 : decide (-(u : Int) < 0) = true := decide_eq_true (by omega)
  have t2 : ((-(u : Int)).tdiv 10 == 0) = true := by
    rw [beq_iff_eq, Int.neg_tdiv, Int.tdiv_eq_ediv_of_nonneg (by omega)]
    omega
  have y1 : IntKind.i64.wrap ((-(u : Int)).tdiv 10) = (-(u : Int)).tdiv 10 := by
    have e : (-(u : Int)).tdiv 10 = 0 := by rw [Int.neg_tdiv, Int.tdiv_eq_ediv_of_nonneg (by omega)]; omega
    rw [e]; rfl
  have y2 : IntKind.i64.wrap (- -(u : Int)) = (u : Int) := by rw [Int.neg_neg, IntWalk.i64_in _ (by omega)]
  have es := strB_cons 45 (digN (u : Int))
  have sz : ¬ 9223372036854775807 < ({ data := #[UInt8.ofNat 45] } : ByteArray).size + (strB (digN (u : Int))).size := by
    rw [strB_size, LE.out]
    show ¬ 9223372036854775807 < 1 + 1
    omega
  obtain ⟨S, hS⟩ : ∃ S, strB (digN (u : Int)) = S := ⟨_, rfl⟩
  obtain ⟨T, hT⟩ : ∃ T, strB (45 :: digN (u : Int)) = T := ⟨_, rfl⟩
  rw [hS] at es sz
  rw [hT] at es
  have HS := Lib.hid hS
  have HT := Lib.hid hT
  have HES := Lib.hid es
  clear hS hT
  go_enter Tryd.func19, Tryd.ntmps19
  go_wp2_with fail
  refine (CD.out _).mono ?_
  rintro e w1 ⟨rfl, hb⟩
  have B1 := Lib.hid hb
  clear hb
  rw [HS.out]
  go_wp2_with fail
  go_ret
  exact ⟨by rw [e0.out, Int.neg_neg, HT.out]; exact congrArg (fun t => Ending.returned (.string t)) HES.out, B1.out⟩

set_option maxRecDepth 100000 in
set_option maxHeartbeats 2000000 in
theorem digits_up {u : Nat} (h1 : 10 ≤ u) (hu : u ≤ 9223372036854775807) (ih : DigIs ((u / 10 : Nat) : Int)) : DigIs (u : Int) := fun w => by
  have e0 := digN_step (n := (u : Int)) (by omega)
  have q1 : ((u : Int)).tdiv 10 = ((u / 10 : Nat) : Int) := by rw [Int.tdiv_eq_ediv_of_nonneg (by omega)]; omega
  have q2 : (((u : Int)).tmod 10).natAbs = u % 10 := by rw [Int.tmod_eq_emod_of_nonneg (by omega)]; omega
  rw [q1, q2] at e0
  obtain ⟨q, hq⟩ : ∃ q, u / 10 = q := ⟨_, rfl⟩
  obtain ⟨d, hd⟩ : ∃ d : Nat, 48 + u % 10 = d := ⟨_, rfl⟩
  rw [hq, hd] at e0
  rw [hq] at ih
  have t1 : decide ((u : Int) < 0) = false := decide_eq_false (by omega)
  have d1 : d < 58 := by omega
  have y1 : IntKind.i64.wrap (48 + (u : Int) % 10) = (d : Int) := by rw [IntWalk.i64_in _ (by omega)]; omega
  have y2 : IntKind.u8.wrap (d : Int) = (d : Int) := by rw [IntKind.wrap_u8]; omega
  have y3 : (u : Int) / 10 = (q : Int) := by omega
  have t2 : ((q : Int) == 0) = false := by rw [beq_eq_false_iff_ne]; omega
  have cv := run_str (c := 1) (Bs.lit1 w (x := d) (by omega))
  have es := strB_app (digN (q : Int)) [d]
  have sz : ¬ 9223372036854775807 < (strB (digN (q : Int))).size + (strB [d]).size := by
    rw [strB_size, strB_size]
    have := digN_len (q : Int) (by omega)
    show ¬ 9223372036854775807 < (digN (q : Int)).length + 1
    omega
  have CD := Lib.hid ih
  unfold DigIs at CD
  obtain ⟨S, hS⟩ : ∃ S, strB [d] = S := ⟨_, rfl⟩
  obtain ⟨U, hU⟩ : ∃ U, strB (digN (q : Int)) = U := ⟨_, rfl⟩
  obtain ⟨T, hT⟩ : ∃ T, strB (digN (q : Int) ++ [d]) = T := ⟨_, rfl⟩
  rw [hS] at cv
  rw [hS, hU] at es sz
  rw [hU] at CD
  rw [hT] at es
  have HT := Lib.hid hT
  have E0 := Lib.hid e0
  have B1 := Lib.hid ((Below.refl w.heap.size w).alloc (Nat.le_refl _) (.cells #[.int .u8 (d : Int)] 5))
  clear hS hU hT hd hq e0 q1 q2 ih
  go_enter Tryd.func19, Tryd.ntmps19
  go_wp2_with fail
  refine (CD.out _).mono ?_
  rintro e w1 ⟨rfl, hb⟩
  have B2 := Lib.hid (B1.out.trans (hb.mono B1.out.size))
  clear hb B1 CD cv
  go_wp2_with fail
  go_ret
  exact ⟨by rw [E0.out, HT.out]; rfl, B2.out⟩

set_option maxRecDepth 100000 in
set_option maxHeartbeats 2000000 in
theorem digits_down {u : Nat} (h1 : 10 ≤ u) (hu : u ≤ 9223372036854775808) (ih : DigIs (-((u / 10 : Nat) : Int))) : DigIs (-(u : Int)) := fun w => by
  have e0 := digN_step (n := -(u : Int)) (by omega)
  have q1 : (-(u : Int)).tdiv 10 = -((u / 10 : Nat) : Int) := by rw [Int.neg_tdiv, Int.tdiv_eq_ediv_of_nonneg (by omega)]; omega
  have q2 : (-(u : Int)).tmod 10 = -((u % 10 : Nat) : Int) := by rw [Int.neg_tmod, Int.tmod_eq_emod_of_nonneg (by omega)]; omega
  rw [q1, q2, Int.natAbs_neg, Int.natAbs_natCast] at e0
  have r10 := Nat.mod_lt u (show 0 < 10 by decide)
  obtain ⟨q, hq⟩ : ∃ q, u / 10 = q := ⟨_, rfl⟩
  have q0 : 1 ≤ q := by omega
  have qb : q ≤ 922337203685477580 := by omega
  obtain ⟨r, hr⟩ : ∃ r, u % 10 = r := ⟨_, rfl⟩
  obtain ⟨d, hd⟩ : ∃ d : Nat, 48 + r = d := ⟨_, rfl⟩
  rw [hr] at q2 e0 r10
  rw [hq] at q1 e0 ih
  rw [hd] at e0
  have t1 : decide (-(u : Int) < 0) = true := decide_eq_true (by omega)
  have d1 : d < 58 := by omega
  have y6 : (u : Int) % 10 = (r : Int) := by omega
  have y7 : (u : Int) / 10 = (q : Int) := by omega
  have cast : ((d : Nat) : Int) = 48 + (r : Int) := by omega
  have t2 : (-(q : Int) == 0) = false := by rw [beq_eq_false_iff_ne]; omega
  have cv := run_str (c := 1) (Bs.lit1 w (x := d) (by omega))
  have es := strB_app (digN (-(q : Int))) [d]
  have sz : ¬ 9223372036854775807 < (strB (digN (-(q : Int)))).size + (strB [d]).size := by
    rw [strB_size, strB_size]
    have := digN_len (-(q : Int)) (by omega)
    show ¬ 9223372036854775807 < (digN (-(q : Int))).length + 1
    omega
  have CD := Lib.hid ih
  unfold DigIs at CD
  rw [cast] at cv
  obtain ⟨S, hS⟩ : ∃ S, strB [d] = S := ⟨_, rfl⟩
  obtain ⟨U, hU⟩ : ∃ U, strB (digN (-(q : Int))) = U := ⟨_, rfl⟩
  obtain ⟨T, hT⟩ : ∃ T, strB (digN (-(q : Int)) ++ [d]) = T := ⟨_, rfl⟩
  rw [hS] at cv
  rw [hS, hU] at es sz
  rw [hU] at CD
  rw [hT] at es
  have HT := Lib.hid hT
  have E0 := Lib.hid e0
  have B1 := Lib.hid ((Below.refl w.heap.size w).alloc (Nat.le_refl _) (.cells #[.int .u8 (48 + (r : Int))] 5))
  clear hS hU hT hd hq hr e0 q1 q2 ih cast
  go_enter Tryd.func19, Tryd.ntmps19
  go_wp2_with fail
  refine (CD.out _).mono ?_
  rintro e w1 ⟨rfl, hb⟩
  have B2 := Lib.hid (B1.out.trans (hb.mono B1.out.size))
  clear hb B1 CD cv
  go_wp2_with fail
  go_ret
  exact ⟨by rw [E0.out, HT.out]; rfl, B2.out⟩

theorem digits_any {n : Int} (h : -9223372036854775808 ≤ n ∧ n ≤ 9223372036854775807) : DigIs n := by
  have pos : ∀ u : Nat, u ≤ 9223372036854775807 → DigIs (u : Int) := by
    intro u
    induction u using Nat.strongRecOn with
    | _ u ih =>
      intro hu
      by_cases h1 : u < 10
      · exact digits_one h1
      · exact digits_up (by omega) hu (ih (u / 10) (by omega) (by omega))
  have neg : ∀ u : Nat, 1 ≤ u → u ≤ 9223372036854775808 → DigIs (-(u : Int)) := by
    intro u
    induction u using Nat.strongRecOn with
    | _ u ih =>
      intro h0 hu
      by_cases h1 : u < 10
      · exact digits_minus h0 h1
      · exact digits_down (by omega) hu (ih (u / 10) (by omega) (by omega) (by omega))
  by_cases h0 : 0 ≤ n
  · obtain ⟨u, rfl⟩ := Int.eq_ofNat_of_zero_le h0
    exact pos u (by omega)
  · obtain ⟨u, hu⟩ := Int.eq_ofNat_of_zero_le (a := -n) (by omega)
    obtain rfl : n = -(u : Int) := by omega
    exact neg u (by omega) (by omega)
end Go.Proofs.YtipbpecihbmneaaDoor
