/- Some of the document's answers of layer 4. No condition but a bound on the length. -/
import Derived.Test.YtcnmplkljpkheaaSome
namespace Go.Proofs.Ytcnmplkljpkheaa
open Go.RowKit

set_option maxRecDepth 100000 in
set_option maxHeartbeats 2000000 in
theorem rsome_any {A : Option Addr} {m c : Nat} {L : List Nat} (a : Int) (n : Nat) (hn : n < 18446744073709551616) (a0 : -9223372036854775808 ≤ a) (a1 : a ≤ 9223372036854775807) (w : World) (hm : m ≤ 549755813888) (hmc : m ≤ c) (hL : Bs w A m L) :
    Calls Try.prog 21 #[.slice A m c, .int .i64 a, .int .u64 (n : Nat)] w (SomeEnd L a n w) := by
  obtain rfl := hL.len
  have HL := Lib.hid hL
  clear hL
  obtain ⟨m, HE⟩ : ∃ m : Nat, Hid (L.length = m) := ⟨_, Lib.hid rfl⟩
  rw [HE.out] at hm hmc HL ⊢
  obtain ⟨x, hx⟩ : ∃ x : Int, x = (n : Int) := ⟨_, rfl⟩
  have x0 : 0 ≤ x := by omega
  have x1 : x < 18446744073709551616 := by omega
  have HX := Lib.hid hx
  by_cases ha : 0 ≤ a ∧ a ≤ L.length
  case neg =>
    obtain ⟨r1, r2, r3⟩ := som_arg (n := n) ha
    have R1 := Lib.hid r1
    have R2 := Lib.hid r2
    have R3 := Lib.hid r3
    rw [HE.out] at ha
    rw [← hx]
    clear r1 r2 r3 hx hn
    by_cases hneg : a < 0
    · have t1 : decide (a < 0) = true := decide_eq_true hneg
      clear ha
      go_enter Try.func21, Try.ntmps21
      go_wp2_with fail
      go_ret3
      exact ⟨none, 0, 0, by rw [R2.out, R3.out]; rfl, Nat.le_refl _, by rw [R1.out]; exact Own.nil_ w⟩
    · have t1 : decide (a < 0) = false := decide_eq_false hneg
      have t2 : decide ((m : Int) < a) = true := decide_eq_true (by omega)
      clear ha
      go_enter Try.func21, Try.ntmps21
      go_wp2_with fail
      go_ret3
      exact ⟨none, 0, 0, by rw [R2.out, R3.out]; rfl, Nat.le_refl _, by rw [R1.out]; exact Own.nil_ w⟩
  case pos =>
    rw [HE.out] at ha
    obtain ⟨p, rfl⟩ := Int.eq_ofNat_of_zero_le ha.1
    have hp : p ≤ m := by have := ha.2; omega
    have t1 : decide ((p : Int) < 0) = false := decide_eq_false (by omega)
    have t2 : decide ((m : Int) < (p : Int)) = false := decide_eq_false (by omega)
    have w1 : IntKind.u64.wrap ((m : Int) - (p : Int)) = (m : Int) - (p : Int) := by rw [IntKind.wrap_u64]; omega
    clear ha
    by_cases hfew : m < p + n
    · obtain ⟨r1, r2, r3⟩ := som_few (L := L) (a := p) (n := n) (by omega) (by rw [HE.out]; omega) (by rw [HE.out]; omega)
      have R1 := Lib.hid r1
      have R2 := Lib.hid r2
      have R3 := Lib.hid r3
      have t3 : decide ((m : Int) - (p : Int) < x) = true := decide_eq_true (by omega)
      rw [← hx]
      clear r1 r2 r3 hx hn hfew
      go_enter Try.func21, Try.ntmps21
      go_wp2_with fail
      go_ret3
      exact ⟨none, 0, 0, by rw [R2.out, R3.out]; rfl, Nat.le_refl _, by rw [R1.out]; exact Own.nil_ w⟩
    · obtain ⟨r1, r2, r3⟩ := som_ok (L := L) (a := p) (n := n) (by omega) (by rw [HE.out]; omega)
      rw [Int.toNat_natCast] at r1
      have R1 := Lib.hid r1
      have R2 := Lib.hid r2
      have R3 := Lib.hid r3
      have t3 : decide ((m : Int) - (p : Int) < (n : Int)) = false := decide_eq_false (by omega)
      have w2 : IntKind.i64.wrap (n : Int) = (n : Int) := by rw [IntKind.wrap_i64]; omega
      have hcut := HL.out.cut (k := p) (m := n) (by omega) hmc
      have HC := Lib.hid hcut
      have hle : p + n ≤ m := by omega
      clear r1 r2 r3 hcut hx hfew hn x0 x1 HX
      have go : ∀ B k d w', k ≤ d → Own w (.slice B k d) k ((L.drop p).take n) w' → SomeEnd L p n w (.returned (.tuple #[.slice B k d, .int .i64 ((p : Int) + n), .int .i64 0])) w' := fun B k d w' h1 h2 => ⟨B, k, d, by rw [R2.out, R3.out], h1, by rw [R1.out]; exact h2⟩
      have GO := Lib.hid go
      clear go
      by_cases hcp : c = p
      · have HC1 : Hid (Bs w A n ((L.drop p).take n)) := Lib.hid (by have := HC.out; rwa [if_pos hcp] at this)
        obtain rfl : n = 0 := by omega
        obtain rfl : m = p := by omega
        subst hcp
        have GO2 : Hid (∀ B d w', Own w (.slice B 0 d) 0 [] w' → SomeEnd L c 0 w (.returned (.tuple #[.slice B 0 d, .int .i64 (c : Int), .int .i64 0])) w') := Lib.hid fun B d w' h => by
          have := GO.out B 0 d w' (Nat.zero_le _) (by simpa using h)
          simpa using this
        rcases A with _ | ad
        · go_enter Try.func21, Try.ntmps21
          go_wp2_with fail
          go_ret3
          exact GO2.out _ _ _ (Own.made (Below.refl _ _) _ _ (by decide) rfl)
        · go_enter Try.func21, Try.ntmps21
          go_wp2_with (at_builtin; refine wpList_app_eq rfl _ _ rfl rfl (Own.made (Below.refl _ _) _ _ ?c1 ?c2) rfl (by omega) (HC1.out.later ((Below.refl _ _).alloc (Nat.le_refl _) _)) ?c3 ?_)
          intro B d w3 h2 _
          have H := Lib.hid (GO2.out B d w3 h2)
          clear h2
          go_wp2_with fail
          go_ret3
          exact H.out
      · have HC1 : Hid (Bs w (A.map (·.add p)) n ((L.drop p).take n)) := Lib.hid (by have := HC.out; rwa [if_neg hcp] at this)
        go_enter Try.func21, Try.ntmps21
        go_wp2_with (at_builtin; refine wpList_app_eq rfl _ _ rfl rfl (Own.made (Below.refl _ _) _ _ ?d1 ?d2) rfl (by omega) (HC1.out.later ((Below.refl _ _).alloc (Nat.le_refl _) _)) ?d3 ?_)
        case d1 => decide
        case d2 => rfl
        case d3 => omega
        intro B d w3 h1 h2 _
        have H := Lib.hid (GO.out B _ d w3 h1 h2)
        clear h1 h2
        go_wp2_with fail
        go_ret3
        exact H.out
end Go.Proofs.Ytcnmplkljpkheaa
