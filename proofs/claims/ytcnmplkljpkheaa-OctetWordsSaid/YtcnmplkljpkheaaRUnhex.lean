/- Unhex of the document's answers of layer 4. No condition but a bound on the length. -/
import Derived.Test.YtcnmplkljpkheaaHalf
namespace Go.Proofs.Ytcnmplkljpkheaa
open Go.RowKit

theorem half_is {c : Nat} (hc : c < 256) {v : Nat} {b : Bool} (h1 : (if hokB c = true then hv c else 0) = v) (h2 : hokB c = b) (w : World) : Calls Try.prog 39 #[.int .u8 (c : Nat)] w fun e w' => e = .returned (.tuple #[.int .u8 (v : Nat), .bool b]) ∧ w' = w := by
  have := half_any c hc w
  rwa [h1, h2] at this

set_option maxRecDepth 100000 in
set_option maxHeartbeats 1000000 in
theorem runhex_any (s : ByteArray) (w : World) (hs : s.size ≤ 549755813888) : Calls Try.prog 23 #[.string s] w (UnhEnd (strL s) w) := by
  have hl := strL_length s
  obtain ⟨M, HM⟩ : ∃ M, Hid (strL s = M) := ⟨_, rfl⟩
  have hbM : AllB M := by rw [← HM.out]; exact strL_byt s
  have HBM := Lib.hid hbM
  rw [HM.out] at hl ⊢
  have HL := Lib.hid hl
  clear hbM
  by_cases hodd : s.size % 2 = 0
  case neg =>
    have no : ¬ UnhOk M := fun h => hodd (by rw [← hl]; exact h.1)
    have NO := Lib.hid no
    have t2 : ((s.size : Int) % 2 == 1) = true := by rw [beq_iff_eq]; omega
    clear no hl hodd
    go_enter Try.func23, Try.ntmps23
    go_wp2_with fail
    go_ret2
    exact unhEnd_no NO.out (Below.refl _ _)
  case pos =>
    have t2 : ((s.size : Int) % 2 == 1) = false := by rw [beq_eq_false_iff_ne]; omega
    obtain ⟨m, hm⟩ : ∃ m, s.size = 2 * m := ⟨s.size / 2, by omega⟩
    have HSZ := Lib.hid hm
    have hm64 : m ≤ 549755813888 := by omega
    clear hl hodd hm
    go_enter Try.func23, Try.ntmps23
    go_wp2_with fail
    go_loopw [4, 5] (fun v i wr => ∃ k : Nat, k ≤ m ∧ i = .int .i64 (2 * (k : Int)) ∧ (∀ j, j < 2 * k → hokB (nth M j) = true) ∧ Own w v k (unh M k) wr) (fun _ i _ => 2 * m - (intOf i).toNat)
    case atStart => exact ⟨0, by omega, rfl, fun j hj => absurd hj (by omega), ⟨World.ownsRow_nil _ _ _ _, allB_nil, Below.refl _ _⟩⟩
    case round =>
      obtain ⟨k, hk, rfl, hok, O⟩ := hrel
      obtain ⟨B, d, rfl, _⟩ := O.shape
      have HO := Lib.hid O
      have HOK := Lib.hid hok
      clear O hok
      by_cases hlt : k < m
      · have t3 : decide (2 * (k : Int) < (s.size : Int)) = true := decide_eq_true (by have := HSZ.out; omega)
        have i1 := index_str s (2 * k) (by have := HSZ.out; omega) (2 * (k : Int)) (by omega)
        have i2 := index_str s (2 * k + 1) (by have := HSZ.out; omega) (2 * (k : Int) + 1) (by omega)
        rw [HM.out] at i1 i2
        have x8 := nth_lt HBM.out (2 * k)
        have y8 := nth_lt HBM.out (2 * k + 1)
        have hun : unh M (k + 1) = unh M k ++ [16 * hv (nth M (2 * k)) + hv (nth M (2 * k + 1))] := rfl
        obtain ⟨x, hx⟩ : ∃ x, nth M (2 * k) = x := ⟨_, rfl⟩
        obtain ⟨y, hy⟩ : ∃ y, nth M (2 * k + 1) = y := ⟨_, rfl⟩
        rw [hx] at i1 x8 hun
        rw [hy] at i2 y8 hun
        have HX := Lib.hid hx
        have HY := Lib.hid hy
        have HUN := Lib.hid hun
        clear hx hy hun
        obtain ⟨u, hu⟩ : ∃ u, (if hokB x = true then hv x else 0) = u := ⟨_, rfl⟩
        obtain ⟨v, hv'⟩ : ∃ v, (if hokB y = true then hv y else 0) = v := ⟨_, rfl⟩
        have u16 : u < 16 := by
          rw [← hu]
          cases h : hokB x with
          | true => simpa using hv_lt h
          | false => simp
        have v16 : v < 16 := by
          rw [← hv']
          cases h : hokB y with
          | true => simpa using hv_lt h
          | false => simp
        by_cases both : hokB x = true ∧ hokB y = true
        · obtain ⟨bx, by'⟩ := both
          have CU := Lib.hid (half_is x8 hu bx)
          have CV := Lib.hid (half_is y8 hv' by')
          rw [if_pos bx] at hu
          rw [if_pos by'] at hv'
          have HPQ : Hid (16 * hv x + hv y = 16 * u + v) := Lib.hid (by rw [hu, hv'])
          have HBX := Lib.hid bx
          have HBY := Lib.hid by'
          obtain ⟨z, hz⟩ : ∃ z, 16 * u + v = z := ⟨_, rfl⟩
          rw [hz] at HPQ
          have z8 : z < 256 := by omega
          have e2 : (16 : Int) * (u : Int) + (v : Int) = (z : Int) := by omega
          clear hu hv' bx by' hz
          go_wp2_with fail
          (with_reducible refine (CU.out _).mono ?_)
          rintro e w2 ⟨rfl, rfl⟩
          go_wp2_with fail
          (with_reducible refine (CV.out _).mono ?_)
          rintro e w2 ⟨rfl, rfl⟩
          go_wp2_with (at_builtin; refine wpList_app rfl _ _ rfl rfl (HO.out.later ((Below.refl _ _).alloc (Nat.le_refl _) _)) rfl (Bs.lit1 _ z8) (by omega) ?_; intro A' c' w' h1 h2 _; have H2 := Lib.hid h2; clear h1 h2)
          go_roundw
          case rel => exact ⟨k + 1, by omega, by go_num, hok_next HOK.out HX.out HY.out HBX.out HBY.out, by rw [HUN.out, HPQ.out]; exact H2.out⟩
          case measure => simp [intOf]; omega
        · have no : ¬ UnhOk M := fun h => both ⟨by rw [← HX.out]; exact h.2 _ (by have := HL.out; have := HSZ.out; omega), by rw [← HY.out]; exact h.2 _ (by have := HL.out; have := HSZ.out; omega)⟩
          have NO := Lib.hid no
          clear no
          cases bx : hokB x with
          | false =>
            have CU := Lib.hid (half_is x8 hu bx)
            obtain ⟨b2, hb2⟩ : ∃ b2, hokB y = b2 := ⟨_, rfl⟩
            have CV := Lib.hid (half_is y8 hv' hb2)
            clear both hu hv' bx hb2
            go_wp2_with fail
            (with_reducible refine (CU.out _).mono ?_)
            rintro e w2 ⟨rfl, rfl⟩
            go_wp2_with fail
            (with_reducible refine (CV.out _).mono ?_)
            rintro e w2 ⟨rfl, rfl⟩
            go_wp2_with fail
            go_ret2
            exact unhEnd_no NO.out HO.out.bel
          | true =>
            have by' : hokB y = false := by
              cases h : hokB y with
              | false => rfl
              | true => exact absurd ⟨bx, h⟩ both
            have CU := Lib.hid (half_is x8 hu bx)
            have CV := Lib.hid (half_is y8 hv' by')
            clear both hu hv' bx by'
            go_wp2_with fail
            (with_reducible refine (CU.out _).mono ?_)
            rintro e w2 ⟨rfl, rfl⟩
            go_wp2_with fail
            (with_reducible refine (CV.out _).mono ?_)
            rintro e w2 ⟨rfl, rfl⟩
            go_wp2_with fail
            go_ret2
            exact unhEnd_no NO.out HO.out.bel
      · obtain rfl : k = m := by omega
        have t3 : decide (2 * (k : Int) < (s.size : Int)) = false := decide_eq_false (by have := HSZ.out; omega)
        have hyes : UnhOk M := ⟨by have := HL.out; have := HSZ.out; omega, fun j hj => HOK.out j (by have := HL.out; have := HSZ.out; omega)⟩
        have YES := Lib.hid hyes
        clear hyes
        go_wp2_with fail
        go_ret2
        exact ⟨B, k, d, by rw [unhE, if_pos YES.out]; rfl, by assumption, by rw [unhL, if_pos YES.out, show M.length / 2 = k by have := HL.out; have := HSZ.out; omega]; exact HO.out⟩
end Go.Proofs.Ytcnmplkljpkheaa
