/- What Take is to answer: the number that stands in some bytes, the lowest first. -/
import Derived.Test.YtcnmplkljpkheaaPut
namespace Go.Proofs.Ytcnmplkljpkheaa
open Go.RowKit

/-- The number in the k bytes from p on. -/
def numAt (L : List Nat) (p : Nat) : Nat → Nat
  | 0 => 0
  | k + 1 => nth L p + 256 * numAt L (p + 1) k
theorem numAt_lt {L : List Nat} (h : AllB L) : ∀ k p, numAt L p k < 256 ^ k
  | 0, _ => Nat.zero_lt_one
  | k + 1, p => by
    have h1 := numAt_lt h k (p + 1)
    have h2 := nth_lt h p
    rw [numAt, Nat.pow_succ]
    omega
theorem numAt_56 {L : List Nat} (h : AllB L) {k p : Nat} (hk : k ≤ 7) : numAt L p k < 72057594037927936 :=
  Nat.lt_of_lt_of_le (numAt_lt h k p) (Nat.le_trans (Nat.pow_le_pow_right (by decide) hk) (by decide))
theorem numAt_64 {L : List Nat} (h : AllB L) {k p : Nat} (hk : k ≤ 8) : numAt L p k < 18446744073709551616 :=
  Nat.lt_of_lt_of_le (numAt_lt h k p) (Nat.le_trans (Nat.pow_le_pow_right (by decide) hk) (by decide))

/-- What Take answers: a number, a place, an error. -/
def takeN (L : List Nat) (at_ size : Int) : Nat := if sizeB size = true ∧ 0 ≤ at_ ∧ at_ + size ≤ L.length then numAt L at_.toNat size.toNat else 0
def takeP (L : List Nat) (at_ size : Int) : Int := if sizeB size = true ∧ 0 ≤ at_ ∧ at_ + size ≤ L.length then at_ + size else 0
def takeE (L : List Nat) (at_ size : Int) : Int := if sizeB size = true ∧ 0 ≤ at_ ∧ at_ ≤ L.length then if at_ + size ≤ L.length then 0 else 5 else 1
def TakeEnd (L : List Nat) (at_ size : Int) (w : World) (e : Ending) (w' : World) : Prop :=
  e = .returned (.tuple #[.int .u64 (takeN L at_ size : Nat), .int .i64 (takeP L at_ size), .int .i64 (takeE L at_ size)]) ∧ Below w.heap.size w w'
theorem take_arg {L : List Nat} {at_ size : Int} (h : sizeB size = false ∨ at_ < 0 ∨ (L.length : Int) < at_) : takeN L at_ size = 0 ∧ takeP L at_ size = 0 ∧ takeE L at_ size = 1 := by
  have hs : ∀ h : sizeB size = true, 0 < size := fun h => by rcases sizeB_cases h with rfl | rfl | rfl | rfl <;> omega
  have h1 : ¬ (sizeB size = true ∧ 0 ≤ at_ ∧ at_ + size ≤ L.length) := fun ⟨h1, h2, h3⟩ => by
    have := hs h1
    rcases h with h | h | h
    · rw [h1] at h; cases h
    · omega
    · omega
  have h2 : ¬ (sizeB size = true ∧ 0 ≤ at_ ∧ at_ ≤ L.length) := fun ⟨h1, h2, h3⟩ => by
    rcases h with h | h | h
    · rw [h1] at h; cases h
    · omega
    · omega
  exact ⟨if_neg h1, if_neg h1, if_neg h2⟩
theorem take_few {L : List Nat} {at_ size : Int} (h1 : sizeB size = true) (h2 : 0 ≤ at_) (h3 : at_ ≤ L.length) (h4 : (L.length : Int) < at_ + size) : takeN L at_ size = 0 ∧ takeP L at_ size = 0 ∧ takeE L at_ size = 5 := by
  have hn : ¬ (sizeB size = true ∧ 0 ≤ at_ ∧ at_ + size ≤ L.length) := fun ⟨_, _, _⟩ => by omega
  exact ⟨if_neg hn, if_neg hn, by unfold takeE; rw [if_pos ⟨h1, h2, h3⟩, if_neg (by omega)]⟩
theorem take_ok {L : List Nat} {at_ size : Int} (h1 : sizeB size = true) (h2 : 0 ≤ at_) (h4 : at_ + size ≤ L.length) : takeN L at_ size = numAt L at_.toNat size.toNat ∧ takeP L at_ size = at_ + size ∧ takeE L at_ size = 0 := by
  have hs : 0 < size := by rcases sizeB_cases h1 with rfl | rfl | rfl | rfl <;> omega
  exact ⟨if_pos ⟨h1, h2, h4⟩, if_pos ⟨h1, h2, h4⟩, by unfold takeE; rw [if_pos ⟨h1, h2, by omega⟩, if_pos h4]⟩
theorem takeN_lt {L : List Nat} (h : AllB L) (at_ size : Int) : takeN L at_ size < 18446744073709551616 := by
  unfold takeN
  split
  · rename_i hc
    have : size.toNat ≤ 8 := by rcases sizeB_cases hc.1 with e | e | e | e <;> rw [e] <;> decide
    exact numAt_64 h this
  · decide

set_option maxHeartbeats 1000000 in
theorem rtake_any {A : Option Addr} {m c : Nat} {L : List Nat} (at_ size : Int) (a0 : -9223372036854775808 ≤ at_) (a1 : at_ ≤ 9223372036854775807) (w : World) (hm : m ≤ 549755813888) (hL : Bs w A m L) :
    Calls Try.prog 13 #[.slice A m c, .int .i64 at_, .int .i64 size] w (TakeEnd L at_ size w) := by
  obtain rfl := hL.len
  have HL := Lib.hid hL
  clear hL
  obtain ⟨m, HE⟩ : ∃ m : Nat, Hid (L.length = m) := ⟨_, Lib.hid rfl⟩
  rw [HE.out] at hm HL ⊢
  by_cases hbad : sizeB size = false ∨ at_ < 0 ∨ (m : Int) < at_
  · have hb := take_arg (L := L) (at_ := at_) (size := size) (by rw [HE.out]; exact hbad)
    obtain ⟨h1, h2, h3⟩ := hb
    have H1 := Lib.hid h1
    have H2 := Lib.hid h2
    have H3 := Lib.hid h3
    clear h1 h2 h3
    cases hz : sizeB size with
    | false =>
      have HZ := Lib.hid hz
      clear hz hbad
      go_enter Try.func13, Try.ntmps13
      go_wp2_with fail
      refine (rsize_any _ _).mono ?_
      rintro e w2 ⟨rfl, rfl⟩
      rw [HZ.out]
      go_wp2_with fail
      go_ret3
      exact ⟨by rw [H1.out, H2.out, H3.out]; rfl, Below.refl _ _⟩
    | true =>
      have HZ := Lib.hid hz
      have hb2 : at_ < 0 ∨ (m : Int) < at_ := by
        rcases hbad with h | h
        · rw [hz] at h; cases h
        · exact h
      clear hz hbad
      by_cases hneg : at_ < 0
      · have t1 : decide (at_ < 0) = true := decide_eq_true hneg
        clear hb2
        go_enter Try.func13, Try.ntmps13
        go_wp2_with fail
        refine (rsize_any _ _).mono ?_
        rintro e w2 ⟨rfl, rfl⟩
        rw [HZ.out]
        go_wp2_with fail
        go_ret3
        exact ⟨by rw [H1.out, H2.out, H3.out]; rfl, Below.refl _ _⟩
      · have hgt : (m : Int) < at_ := by omega
        have t1 : decide (at_ < 0) = false := decide_eq_false hneg
        have t2 : decide ((m : Int) < at_) = true := decide_eq_true hgt
        clear hb2
        go_enter Try.func13, Try.ntmps13
        go_wp2_with fail
        refine (rsize_any _ _).mono ?_
        rintro e w2 ⟨rfl, rfl⟩
        rw [HZ.out]
        go_wp2_with fail
        go_ret3
        exact ⟨by rw [H1.out, H2.out, H3.out]; rfl, Below.refl _ _⟩
  · have hz : sizeB size = true := by
      cases h : sizeB size with
      | false => exact absurd (.inl h) hbad
      | true => rfl
    have p0 : 0 ≤ at_ := by
      rcases Int.lt_or_le at_ 0 with h | h
      · exact absurd (.inr (.inl h)) hbad
      · exact h
    have p1 : at_ ≤ (m : Int) := by
      rcases Int.lt_or_le (m : Int) at_ with h | h
      · exact absurd (.inr (.inr h)) hbad
      · exact h
    clear hbad
    obtain ⟨p, rfl⟩ := Int.eq_ofNat_of_zero_le p0
    obtain ⟨s, hs, s1, s8⟩ := sizeB_nat hz
    have t1 : decide ((p : Int) < 0) = false := decide_eq_false (by omega)
    have t2 : decide ((m : Int) < (p : Int)) = false := decide_eq_false (by omega)
    by_cases hfew : (m : Int) < p + size
    · obtain ⟨h1, h2, h3⟩ := take_few (L := L) hz p0 (by rw [HE.out]; exact p1) (by rw [HE.out]; exact hfew)
      subst hs
      have HZ := Lib.hid hz
      have H1 := Lib.hid h1
      have H2 := Lib.hid h2
      have H3 := Lib.hid h3
      clear hz h1 h2 h3
      go_enter Try.func13, Try.ntmps13
      go_wp2_with fail
      refine (rsize_any _ _).mono ?_
      rintro e w2 ⟨rfl, rfl⟩
      rw [HZ.out]
      go_wp2_with fail
      go_ret3
      exact ⟨by rw [H1.out, H2.out, H3.out]; rfl, Below.refl _ _⟩
    · obtain ⟨h1, h2, h3⟩ := take_ok (L := L) hz p0 (by rw [HE.out]; omega)
      subst hs
      rw [Int.toNat_natCast, Int.toNat_natCast] at h1
      have HZ := Lib.hid hz
      have H1 := Lib.hid h1
      have H2 := Lib.hid h2
      have H3 := Lib.hid h3
      clear hz h1 h2 h3
      have hle : p + s ≤ m := by omega
      clear hfew
      go_enter Try.func13, Try.ntmps13
      go_wp2_with fail
      refine (rsize_any _ _).mono ?_
      rintro e w2 ⟨rfl, rfl⟩
      rw [HZ.out]
      go_wp2_with fail
      go_loop [9, 10] (fun x i => ∃ r k : Nat, r + k = s ∧ i = .int .i64 ((r : Int) - 1) ∧ x = .int .u64 (numAt L (p + r) k : Nat)) (fun _ i => (intOf i + 1).toNat)
      case atStart => exact ⟨s, 0, by omega, rfl, rfl⟩
      case round =>
        obtain ⟨r, k, hrk, rfl, rfl⟩ := hrel
        rcases r with _ | r
        · obtain rfl : k = s := by omega
          go_wp2_with fail
          go_ret3
          exact ⟨by rw [H1.out, H2.out, H3.out]; rfl, Below.refl _ _⟩
        · obtain ⟨a, rfl, _, ca, la⟩ := HL.out.at_ (k := p + r) (by omega)
          have hx := numAt_56 HL.out.byt (k := k) (p := p + (r + 1)) (by omega)
          have hnx : numAt L (p + r) (k + 1) = 256 * numAt L (p + (r + 1)) k + nth L (p + r) := by rw [numAt, Nat.add_comm]; rfl
          obtain ⟨y, hy⟩ : ∃ y, y = nth L (p + r) := ⟨_, rfl⟩
          obtain ⟨x, hxx⟩ : ∃ x, x = numAt L (p + (r + 1)) k := ⟨_, rfl⟩
          rw [← hy, ← hxx] at hnx
          rw [← hy] at ca la
          rw [← hxx] at hx ⊢
          have HN := Lib.hid hnx
          clear hnx hy hxx
          go_wp2_with fail
          go_round
          case rel => exact ⟨r, k + 1, by omega, by go_num, by rw [HN.out]; go_num⟩
          case measure => simp [intOf]
end Go.Proofs.Ytcnmplkljpkheaa
