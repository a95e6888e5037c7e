/- The short form of a number; PutVar of the package octet. No condition but a bound on the length. -/
import Derived.Test.YtcnmplkljpkheaaPut
namespace Go.Proofs.Ytcnmplkljpkheaa
open Go.RowKit

/-- The short form of a number. -/
def varS (n : Nat) : List Nat := [first n] ++ low n (behindN (first n))
theorem first_cases (n : Nat) : (n < 253 ∧ first n = n ∧ behindN (first n) = 0) ∨ (253 ≤ n ∧ n < 65536 ∧ first n = 253 ∧ behindN (first n) = 2) ∨ (65536 ≤ n ∧ n < 4294967296 ∧ first n = 254 ∧ behindN (first n) = 4) ∨ (4294967296 ≤ n ∧ first n = 255 ∧ behindN (first n) = 8) := by
  by_cases h1 : n < 253
  · have e : first n = n := if_pos h1
    refine .inl ⟨h1, e, ?_⟩
    rw [e]; unfold behindN; rw [if_neg (by omega), if_neg (by omega), if_neg (by omega)]
  · by_cases h2 : n < 65536
    · have e : first n = 253 := by unfold first; rw [if_neg h1, if_pos h2]
      exact .inr (.inl ⟨by omega, h2, e, by rw [e]; rfl⟩)
    · by_cases h3 : n < 4294967296
      · have e : first n = 254 := by unfold first; rw [if_neg h1, if_neg h2, if_pos h3]
        exact .inr (.inr (.inl ⟨by omega, h3, e, by rw [e]; rfl⟩))
      · have e : first n = 255 := by unfold first; rw [if_neg h1, if_neg h2, if_neg h3]
        exact .inr (.inr (.inr ⟨by omega, e, by rw [e]; rfl⟩))
theorem varS_byt (n : Nat) : AllB (varS n) := (allB_one (first_lt n)).app (low_byt _ _)
theorem varS_length (n : Nat) : (varS n).length = 1 + behindN (first n) := by rw [varS, List.length_append, low_length]; rfl
theorem behind_le (f : Nat) : behindN f ≤ 8 := by unfold behindN; split <;> (try split) <;> (try split) <;> omega

theorem firstOf_f {n f : Nat} (hn : n < 18446744073709551616) (hf : first n = f) (w : World) : Calls Try.prog 34 #[.int .u64 (n : Nat)] w fun e w' => e = .returned (.int .u8 (f : Nat)) ∧ w' = w := by
  have := firstOf_any n hn w
  rwa [hf] at this
theorem behind_k {f k : Nat} (hf : f < 256) (hk : behindN f = k) (w : World) : Calls Try.prog 35 #[.int .u8 (f : Nat)] w fun e w' => e = .returned (.int .i64 (k : Nat)) ∧ w' = w := by
  have := behind_any f hf w
  rwa [hk] at this

set_option maxHeartbeats 1000000 in
theorem putVar_any {A : Option Addr} {m c : Nat} {L : List Nat} (n : Nat) (hn : n < 18446744073709551616) (w : World) (hm : m ≤ 274877906944) (hL : Bs w A m L) :
    Calls Try.prog 16 #[.slice A m c, .int .u64 (n : Nat)] w (GivesB w (L ++ varS n)) := by
  have HL := Lib.hid hL
  clear hL
  have hmk := run_make_bytes 0 (m + 9) 0 (m + 9) rfl (by omega) (by omega) (by omega)
  obtain ⟨f, hf⟩ : ∃ f, first n = f := ⟨_, rfl⟩
  have hf8 : f < 256 := by rw [← hf]; exact first_lt n
  obtain ⟨k, hk⟩ : ∃ k, behindN f = k := ⟨_, rfl⟩
  have hk8 : k ≤ 8 := by rw [← hk]; exact behind_le f
  have HF := Lib.hid (firstOf_f hn hf)
  have HB := Lib.hid (behind_k hf8 hk)
  have HV : Hid (varS n = [f] ++ low n k) := Lib.hid (by rw [varS, hf, hk])
  have hks : k = 0 ∨ sizeB (k : Int) = true := by
    rcases first_cases n with ⟨_, e, e2⟩ | ⟨_, _, e, e2⟩ | ⟨_, _, e, e2⟩ | ⟨_, e, e2⟩ <;> rw [hf] at e2 <;> rw [hk] at e2
    · exact .inl e2
    · exact .inr (by rw [e2]; rfl)
    · exact .inr (by rw [e2]; rfl)
    · exact .inr (by rw [e2]; rfl)
  have HK := Lib.hid hks
  clear hf hk hks
  go_enter Try.func16, Try.ntmps16
  go_wp2_with fail
  refine (HF.out _).mono ?_
  rintro e w2 ⟨rfl, rfl⟩
  go_wp2_with (at_builtin; refine wpList_app rfl _ _ rfl rfl (Own.made (Below.refl _ _) _ _ ?c1 ?c2) rfl (HL.out.later ((Below.refl _ _).alloc (Nat.le_refl _) _)) ?c3 ?_)
  case c1 => unfold maxLen; omega
  case c2 => simp [vals]
  case c3 => omega
  intro A1 c1 w1 h1 h2 _
  have H2 := Lib.hid h2
  clear h1 h2 hmk
  go_wp2_with (at_builtin; refine wpList_app rfl _ _ rfl rfl (H2.out.later ((Below.refl _ _).alloc (Nat.le_refl _) _)) rfl (Bs.lit1 _ hf8) ?d3 ?_)
  case d3 => omega
  intro A3 c3 w3 h1 h2 _
  have H1 := Lib.hid h1
  have H3 := Lib.hid h2
  clear h1 h2
  go_wp2_with fail
  refine (HB.out _).mono ?_
  rintro e w4 ⟨rfl, rfl⟩
  by_cases hk0 : k = 0
  · subst hk0
    go_wp2_with fail
    go_ret
    exact ⟨A3, m + 1, c3, rfl, H1.out, by rw [HV.out]; exact H3.out⟩
  · have t1 : ((k : Int) == 0) = false := beq_eq_false_iff_ne.2 (by omega)
    go_wp2_with fail
    refine (HB.out _).mono ?_
    rintro e w4 ⟨rfl, rfl⟩
    go_wp2_with fail
    refine (put_any n hn k _ (by omega) H3.out.reads).mono ?_
    rintro e w5 ⟨A5, m5, c5, rfl, h5, O5⟩
    have hz : sizeB (k : Int) = true := HK.out.resolve_left hk0
    rw [putS_yes hz, Int.toNat_natCast, List.append_assoc] at O5
    have H5 := Lib.hid O5
    clear O5 hz
    go_wp2_with fail
    go_ret
    exact ⟨A5, m5, c5, rfl, h5, by rw [HV.out]; exact H5.out.weaken H3.out.bel⟩

theorem low_one {n : Nat} (h : n < 256) : low n 1 = [n] := by
  have : n / 256 ^ 0 % 256 = n := by rw [Nat.pow_zero, Nat.div_one]; omega
  rw [low, low, this]; rfl
theorem GivesB.of {w : World} {L M : List Nat} {e : Ending} {w' : World} (h : GivesB w L e w') (e2 : L = M) : GivesB w M e w' := by rw [← e2]; exact h
theorem rlow_at {n : Nat} (hn : n < 18446744073709551616) {s : Int} (size : Nat) (e : s = (size : Int)) (hs : size ≤ 8) (w : World) : Calls Try.prog 33 #[.int .u64 (n : Nat), .int .i64 s] w (GivesB w (low n size)) := by
  subst e; exact rlow_any n hn size hs w
end Go.Proofs.Ytcnmplkljpkheaa
