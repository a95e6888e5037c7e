/- Some of the package octet and of the document's answers of layer 4. No condition but a bound on the length. -/
import Derived.Test.YtcnmplkljpkheaaTakeAny
import Derived.WalkSpells
namespace Go.Proofs.Ytcnmplkljpkheaa
open Go.RowKit

def somL (L : List Nat) (a : Int) (n : Nat) : List Nat := if 0 ≤ a ∧ a + n ≤ L.length then (L.drop a.toNat).take n else []
def somP (L : List Nat) (a : Int) (n : Nat) : Int := if 0 ≤ a ∧ a + n ≤ L.length then a + n else 0
def somE (L : List Nat) (a : Int) (n : Nat) : Int := if 0 ≤ a ∧ a ≤ L.length then if a + n ≤ L.length then 0 else 5 else 1
def SomeEnd (L : List Nat) (a : Int) (n : Nat) (w : World) (e : Ending) (w' : World) : Prop :=
  ∃ A m c, e = .returned (.tuple #[.slice A m c, .int .i64 (somP L a n), .int .i64 (somE L a n)]) ∧ m ≤ c ∧ Own w (.slice A m c) m (somL L a n) w'
theorem som_arg {L : List Nat} {a : Int} {n : Nat} (h : ¬ (0 ≤ a ∧ a ≤ L.length)) : somL L a n = [] ∧ somP L a n = 0 ∧ somE L a n = 1 :=
  ⟨if_neg fun h2 => h ⟨h2.1, by omega⟩, if_neg fun h2 => h ⟨h2.1, by omega⟩, if_neg h⟩
theorem som_few {L : List Nat} {a : Int} {n : Nat} (h : 0 ≤ a) (h1 : a ≤ L.length) (h2 : (L.length : Int) < a + n) : somL L a n = [] ∧ somP L a n = 0 ∧ somE L a n = 5 :=
  ⟨if_neg fun h3 => by omega, if_neg fun h3 => by omega, by unfold somE; rw [if_pos ⟨h, h1⟩, if_neg (by omega)]⟩
theorem som_ok {L : List Nat} {a : Int} {n : Nat} (h : 0 ≤ a) (h2 : a + n ≤ L.length) : somL L a n = (L.drop a.toNat).take n ∧ somP L a n = a + n ∧ somE L a n = 0 :=
  ⟨if_pos ⟨h, h2⟩, if_pos ⟨h, h2⟩, by unfold somE; rw [if_pos ⟨h, by omega⟩, if_pos h2]⟩
theorem Own.nil_ (w : World) : Own w (.slice none 0 0) 0 [] w := ⟨World.ownsRow_nil _ _ _ _, allB_nil, Below.refl _ _⟩

set_option maxRecDepth 100000 in
set_option maxHeartbeats 1000000 in
theorem clone_any {A : Option Addr} {n c : Nat} {L : List Nat} (w : World) (hn : n ≤ 549755813888) (hL : Bs w A n L) : Calls Try.prog 37 #[.slice A n c] w (GivesB w L) := by
  rcases A with _ | a
  · have hl := hL.len
    obtain rfl : n = 0 := by
      rcases Nat.eq_zero_or_pos n with h | h
      · exact h
      · obtain ⟨_, e, _⟩ := hL.cel h
        cases e
    obtain rfl : L = [] := List.eq_nil_of_length_eq_zero hl
    clear hL hl
    have hnil := fun (w : World) => Lib.run_eql_slice_nil (P := Try.prog) w 22 5 none 0 c 0 0 Try.underlying22
    go_enter Try.func37, Try.ntmps37
    go_wp2_with fail
    go_ret
    exact ⟨none, 0, 0, rfl, Nat.le_refl _, Own.nil_ w⟩
  · have hnil := fun (w : World) => Lib.run_eql_slice_nil (P := Try.prog) w 22 5 (some a) n c 0 0 Try.underlying22
    have HL := Lib.hid hL
    clear hL
    go_enter Try.func37, Try.ntmps37
    go_wp2_with (at_builtin; refine wpList_app rfl _ _ rfl rfl (Own.made (Below.refl _ _) _ _ ?c1 ?c2) rfl (HL.out.later ((Below.refl _ _).alloc (Nat.le_refl _) _)) ?c3 ?_)
    case c1 => decide
    case c2 => rfl
    case c3 => omega
    intro A' c' w' h1 h2 _
    have H1 := Lib.hid h1
    have H2 := Lib.hid h2
    clear h1 h2
    go_wp2_with fail
    go_ret
    exact ⟨A', n, c', rfl, H1.out, H2.out⟩

set_option maxRecDepth 100000 in
set_option maxHeartbeats 2000000 in
theorem some_any {A : Option Addr} {m c : Nat} {L : List Nat} (a : Int) (n : Nat) (hn : n < 18446744073709551616) (a0 : -9223372036854775808 ≤ a) (a1 : a ≤ 9223372036854775807) (w : World) (hm : m ≤ 549755813888) (hmc : m ≤ c) (hL : Bs w A m L) :
    Calls Try.prog 20 #[.slice A m c, .int .i64 a, .int .u64 (n : Nat)] w (SomeEnd L a n w) := by
  obtain rfl := hL.len
  have HL := Lib.hid hL
  clear hL
  obtain ⟨m, HE⟩ : ∃ m : Nat, Hid (L.length = m) := ⟨_, Lib.hid rfl⟩
  rw [HE.out] at hm hmc HL ⊢
  obtain ⟨x, hx⟩ : ∃ x : Int, x = (n : Int) := ⟨_, rfl⟩
  have x0 : 0 ≤ x := by omega
  have x1 : x < 18446744073709551616 := by omega
  have HX := Lib.hid hx
  by_cases ha : 0 ≤ a ∧ a ≤ L.length
  case neg =>
    obtain ⟨r1, r2, r3⟩ := som_arg (n := n) ha
    have R1 := Lib.hid r1
    have R2 := Lib.hid r2
    have R3 := Lib.hid r3
    rw [HE.out] at ha
    rw [← hx]
    clear r1 r2 r3 hx hn
    by_cases hneg : a < 0
    · have t1 : decide (a < 0) = true := decide_eq_true hneg
      clear ha
      go_enter Try.func20, Try.ntmps20
      go_wp2_with fail
      go_ret3
      exact ⟨none, 0, 0, by rw [R2.out, R3.out]; rfl, Nat.le_refl _, by rw [R1.out]; exact Own.nil_ w⟩
    · have t1 : decide (a < 0) = false := decide_eq_false hneg
      have t2 : decide ((m : Int) < a) = true := decide_eq_true (by omega)
      clear ha
      go_enter Try.func20, Try.ntmps20
      go_wp2_with fail
      go_ret3
      exact ⟨none, 0, 0, by rw [R2.out, R3.out]; rfl, Nat.le_refl _, by rw [R1.out]; exact Own.nil_ w⟩
  case pos =>
    rw [HE.out] at ha
    obtain ⟨p, rfl⟩ := Int.eq_ofNat_of_zero_le ha.1
    have hp : p ≤ m := by have := ha.2; omega
    have t1 : decide ((p : Int) < 0) = false := decide_eq_false (by omega)
    have t2 : decide ((m : Int) < (p : Int)) = false := decide_eq_false (by omega)
    have w1 : IntKind.u64.wrap ((m : Int) - (p : Int)) = (m : Int) - (p : Int) := by rw [IntKind.wrap_u64]; omega
    clear ha
    by_cases hfew : m < p + n
    · obtain ⟨r1, r2, r3⟩ := som_few (L := L) (a := p) (n := n) (by omega) (by rw [HE.out]; omega) (by rw [HE.out]; omega)
      have R1 := Lib.hid r1
      have R2 := Lib.hid r2
      have R3 := Lib.hid r3
      have t3 : decide ((m : Int) - (p : Int) < x) = true := decide_eq_true (by omega)
      rw [← hx]
      clear r1 r2 r3 hx hn hfew
      go_enter Try.func20, Try.ntmps20
      go_wp2_with fail
      go_ret3
      exact ⟨none, 0, 0, by rw [R2.out, R3.out]; rfl, Nat.le_refl _, by rw [R1.out]; exact Own.nil_ w⟩
    · obtain ⟨r1, r2, r3⟩ := som_ok (L := L) (a := p) (n := n) (by omega) (by rw [HE.out]; omega)
      rw [Int.toNat_natCast] at r1
      have R1 := Lib.hid r1
      have R2 := Lib.hid r2
      have R3 := Lib.hid r3
      have t3 : decide ((m : Int) - (p : Int) < (n : Int)) = false := decide_eq_false (by omega)
      have w2 : IntKind.i64.wrap (n : Int) = (n : Int) := by rw [IntKind.wrap_i64]; omega
      have hcut := HL.out.cut (k := p) (m := n) (by omega) hmc
      have HC := Lib.hid hcut
      have hle : p + n ≤ m := by omega
      clear r1 r2 r3 hcut hx hfew hn x0 x1 HX
      have go : ∀ B k d w', k ≤ d → Own w (.slice B k d) k ((L.drop p).take n) w' → SomeEnd L p n w (.returned (.tuple #[.slice B k d, .int .i64 ((p : Int) + n), .int .i64 0])) w' := fun B k d w' h1 h2 => ⟨B, k, d, by rw [R2.out, R3.out], h1, by rw [R1.out]; exact h2⟩
      have GO := Lib.hid go
      clear go
      by_cases hcp : c = p
      · have HC1 : Hid (Bs w A n ((L.drop p).take n)) := Lib.hid (by have := HC.out; rwa [if_pos hcp] at this)
        obtain rfl : n = 0 := by omega
        obtain rfl : m = p := by omega
        subst hcp
        go_enter Try.func20, Try.ntmps20
        go_wp2_with fail
        refine (clone_any _ (by omega) HC1.out).mono ?_
        rintro e w3 ⟨B, k, d, rfl, h1, O⟩
        have H := Lib.hid (GO.out B k d w3 h1 O)
        clear h1 O
        go_wp2_with fail
        go_ret3
        have := H.out
        simpa using this
      · have HC1 : Hid (Bs w (A.map (·.add p)) n ((L.drop p).take n)) := Lib.hid (by have := HC.out; rwa [if_neg hcp] at this)
        go_enter Try.func20, Try.ntmps20
        go_wp2_with fail
        refine (clone_any _ (by omega) HC1.out).mono ?_
        rintro e w3 ⟨B, k, d, rfl, h1, O⟩
        have H := Lib.hid (GO.out B k d w3 h1 O)
        clear h1 O
        go_wp2_with fail
        go_ret3
        exact H.out
end Go.Proofs.Ytcnmplkljpkheaa
