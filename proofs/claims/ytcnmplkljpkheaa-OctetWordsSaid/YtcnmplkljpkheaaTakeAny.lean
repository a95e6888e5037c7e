/- Take of the package octet, with its errors, at every slice of bytes, every place and every size. No condition but a bound on the length. -/
import Derived.Test.YtcnmplkljpkheaaTake
namespace Go.Proofs.Ytcnmplkljpkheaa
open Go.RowKit Go.Shelf

theorem below_new (w : World) (o : Obj) : Below w.heap.size w (w.alloc o) := (Below.refl _ _).alloc (Nat.le_refl _) _
set_option maxHeartbeats 1000000 in
theorem take_any {A : Option Addr} {m c : Nat} {L : List Nat} (at_ size : Int) (a0 : -9223372036854775808 ≤ at_) (a1 : at_ ≤ 9223372036854775807) (w : World) (hm : m ≤ 549755813888) (hmc : m ≤ c) (hL : Bs w A m L) :
    Calls Try.prog 11 #[.slice A m c, .int .i64 at_, .int .i64 size] w (TakeEnd L at_ size w) := by
  obtain rfl := hL.len
  have HL := Lib.hid hL
  clear hL
  obtain ⟨m, HE⟩ : ∃ m : Nat, Hid (L.length = m) := ⟨_, Lib.hid rfl⟩
  rw [HE.out] at hm hmc HL ⊢
  by_cases hbad : sizeB size = false ∨ at_ < 0 ∨ (m : Int) < at_
  · have hb := take_arg (L := L) (at_ := at_) (size := size) (by rw [HE.out]; exact hbad)
    obtain ⟨h1, h2, h3⟩ := hb
    have H1 := Lib.hid h1
    have H2 := Lib.hid h2
    have H3 := Lib.hid h3
    clear h1 h2 h3
    cases hz : sizeB size with
    | false =>
      have HZ := Lib.hid hz
      clear hz hbad
      go_enter Try.func11, Try.ntmps11
      go_wp2_with fail
      refine (isSize_any _ _).mono ?_
      rintro e w2 ⟨rfl, rfl⟩
      rw [HZ.out]
      go_wp2_with fail
      refine bodyPost_ret (v := .tuple #[.int .u64 0, .int .i64 0, .int .i64 1]) (by simp [results, Try.f11, go_sem]) rfl ?_
      exact ⟨by rw [H1.out, H2.out, H3.out]; rfl, below_new _ _⟩
    | true =>
      have HZ := Lib.hid hz
      have hb2 : at_ < 0 ∨ (m : Int) < at_ := by
        rcases hbad with h | h
        · rw [hz] at h; cases h
        · exact h
      clear hz hbad
      by_cases hneg : at_ < 0
      · have t1 : decide (at_ < 0) = true := decide_eq_true hneg
        clear hb2
        go_enter Try.func11, Try.ntmps11
        go_wp2_with fail
        refine (isSize_any _ _).mono ?_
        rintro e w2 ⟨rfl, rfl⟩
        rw [HZ.out]
        go_wp2_with fail
        refine bodyPost_ret (v := .tuple #[.int .u64 0, .int .i64 0, .int .i64 1]) (by simp [results, Try.f11, go_sem]) rfl ?_
        exact ⟨by rw [H1.out, H2.out, H3.out]; rfl, below_new _ _⟩
      · have hgt : (m : Int) < at_ := by omega
        have t1 : decide (at_ < 0) = false := decide_eq_false hneg
        have t2 : decide ((m : Int) < at_) = true := decide_eq_true hgt
        clear hb2
        go_enter Try.func11, Try.ntmps11
        go_wp2_with fail
        refine (isSize_any _ _).mono ?_
        rintro e w2 ⟨rfl, rfl⟩
        rw [HZ.out]
        go_wp2_with fail
        refine bodyPost_ret (v := .tuple #[.int .u64 0, .int .i64 0, .int .i64 1]) (by simp [results, Try.f11, go_sem]) rfl ?_
        exact ⟨by rw [H1.out, H2.out, H3.out]; rfl, below_new _ _⟩
  · have hz : sizeB size = true := by
      cases h : sizeB size with
      | false => exact absurd (.inl h) hbad
      | true => rfl
    have p0 : 0 ≤ at_ := by
      rcases Int.lt_or_le at_ 0 with h | h
      · exact absurd (.inr (.inl h)) hbad
      · exact h
    have p1 : at_ ≤ (m : Int) := by
      rcases Int.lt_or_le (m : Int) at_ with h | h
      · exact absurd (.inr (.inr h)) hbad
      · exact h
    clear hbad
    obtain ⟨p, rfl⟩ := Int.eq_ofNat_of_zero_le p0
    obtain ⟨s, hs, s1, s8⟩ := sizeB_nat hz
    have t1 : decide ((p : Int) < 0) = false := decide_eq_false (by omega)
    have t2 : decide ((m : Int) < (p : Int)) = false := decide_eq_false (by omega)
    by_cases hfew : (m : Int) < p + size
    · obtain ⟨h1, h2, h3⟩ := take_few (L := L) hz p0 (by rw [HE.out]; exact p1) (by rw [HE.out]; exact hfew)
      subst hs
      have HZ := Lib.hid hz
      have H1 := Lib.hid h1
      have H2 := Lib.hid h2
      have H3 := Lib.hid h3
      clear hz h1 h2 h3
      go_enter Try.func11, Try.ntmps11
      go_wp2_with fail
      refine (isSize_any _ _).mono ?_
      rintro e w2 ⟨rfl, rfl⟩
      rw [HZ.out]
      go_wp2_with fail
      refine bodyPost_ret (v := .tuple #[.int .u64 0, .int .i64 0, .int .i64 5]) (by simp [results, Try.f11, go_sem]) rfl ?_
      exact ⟨by rw [H1.out, H2.out, H3.out]; rfl, below_new _ _⟩
    · subst hs
      exact callsIn_wide.1 (take_in p s a1 w hm hmc HL HE p0 p1 hz s1 s8 t1 t2 (by omega))
end Go.Proofs.Ytcnmplkljpkheaa
