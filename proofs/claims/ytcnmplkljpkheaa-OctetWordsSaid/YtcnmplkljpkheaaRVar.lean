/- Var and starts of the document's answers of layer 4. No condition but a bound on the length. -/
import Derived.Test.YtcnmplkljpkheaaVar
import Derived.Test.YtcnmplkljpkheaaTakeS
namespace Go.Proofs.Ytcnmplkljpkheaa
open Go.RowKit

set_option maxHeartbeats 1000000 in
theorem rvar_any (n : Nat) (hn : n < 18446744073709551616) (w : World) : Calls Try.prog 19 #[.int .u64 (n : Nat)] w (GivesB w (varS n)) := by
  obtain ⟨x, hx⟩ : ∃ x : Int, x = (n : Int) := ⟨_, rfl⟩
  have LOW : ∀ (s : Int) (size : Nat), s = (size : Int) → size ≤ 8 → ∀ w : World, Calls Try.prog 33 #[.int .u64 x, .int .i64 s] w (GivesB w (low n size)) := fun s size e hs w => by rw [hx]; exact rlow_at hn size e hs w
  have HLOW := Lib.hid LOW
  rw [← hx]
  clear LOW
  rcases first_cases n with ⟨h1, h2, h3⟩ | ⟨h0, h1, h2, h3⟩ | ⟨h0, h1, h2, h3⟩ | ⟨h0, h2, h3⟩
  · have HV : Hid (low n 1 = varS n) := Lib.hid (by rw [low_one (by omega), varS, h3, h2]; rfl)
    have b1 : x < 253 := by omega
    clear hx h1 h2 h3
    go_enter Try.func19, Try.ntmps19
    go_wp2_with fail
    refine (HLOW.out 1 1 rfl (by omega) _).mono ?_
    rintro e w2 ⟨A, m, c, rfl, h1, O⟩
    have H := Lib.hid O
    clear O
    go_wp2_with fail
    go_ret
    exact ⟨A, m, c, rfl, h1, by rw [← HV.out]; exact H.out⟩
  · have HV : Hid (varS n = [253] ++ low n 2) := Lib.hid (by rw [varS, h3, h2])
    have b1 : 253 ≤ x := by omega
    have b2 : x < 65536 := by omega
    clear hx h0 h1 h2 h3
    go_enter Try.func19, Try.ntmps19
    go_wp2_with fail
    refine (HLOW.out 2 2 rfl (by omega) _).mono ?_
    rintro e w2 ⟨A, m, c, rfl, h1, O⟩
    have hl := O.len
    rw [low_length] at hl
    subst hl
    have H := Lib.hid O
    have O0 : Own w (.slice (some ⟨w.heap.size, 0, none⟩) 1 1) 1 [253] (w.alloc (.cells #[.int .u8 253] 5)) := Own.full ((Below.refl _ _).alloc (Nat.le_refl _) _) [253] (allB_one (by decide)) 1 (by decide) #[.int .u8 253] rfl (Nat.le_refl _) rfl (Nat.le_refl _) (heap_alloc_new w _)
    have H0 := Lib.hid (O0.later O.bel)
    clear O O0
    go_wp2_with (at_builtin; refine wpList_app rfl _ _ rfl rfl H0.out rfl H.out.reads ?c3 ?_)
    case c3 => omega
    intro A1 c1 w1 h1 h2 _
    have H1 := Lib.hid h1
    have H2 := Lib.hid h2
    clear h1 h2
    go_wp2_with fail
    go_ret
    exact ⟨A1, _, c1, rfl, H1.out, by rw [HV.out]; exact H2.out⟩
  · have HV : Hid (varS n = [254] ++ low n 4) := Lib.hid (by rw [varS, h3, h2])
    have b1 : 65536 ≤ x := by omega
    have b2 : x < 4294967296 := by omega
    clear hx h0 h1 h2 h3
    go_enter Try.func19, Try.ntmps19
    go_wp2_with fail
    refine (HLOW.out 4 4 rfl (by omega) _).mono ?_
    rintro e w2 ⟨A, m, c, rfl, h1, O⟩
    have hl := O.len
    rw [low_length] at hl
    subst hl
    have H := Lib.hid O
    have O0 : Own w (.slice (some ⟨w.heap.size, 0, none⟩) 1 1) 1 [254] (w.alloc (.cells #[.int .u8 254] 5)) := Own.full ((Below.refl _ _).alloc (Nat.le_refl _) _) [254] (allB_one (by decide)) 1 (by decide) #[.int .u8 254] rfl (Nat.le_refl _) rfl (Nat.le_refl _) (heap_alloc_new w _)
    have H0 := Lib.hid (O0.later O.bel)
    clear O O0
    go_wp2_with (at_builtin; refine wpList_app rfl _ _ rfl rfl H0.out rfl H.out.reads ?c3 ?_)
    case c3 => omega
    intro A1 c1 w1 h1 h2 _
    have H1 := Lib.hid h1
    have H2 := Lib.hid h2
    clear h1 h2
    go_wp2_with fail
    go_ret
    exact ⟨A1, _, c1, rfl, H1.out, by rw [HV.out]; exact H2.out⟩
  · have HV : Hid (varS n = [255] ++ low n 8) := Lib.hid (by rw [varS, h3, h2])
    have b1 : 65536 ≤ x := by omega
    have b2 : 4294967296 ≤ x := by omega
    clear hx h0 h2 h3
    go_enter Try.func19, Try.ntmps19
    go_wp2_with fail
    refine (HLOW.out 8 8 rfl (by omega) _).mono ?_
    rintro e w2 ⟨A, m, c, rfl, h1, O⟩
    have hl := O.len
    rw [low_length] at hl
    subst hl
    have H := Lib.hid O
    have O0 : Own w (.slice (some ⟨w.heap.size, 0, none⟩) 1 1) 1 [255] (w.alloc (.cells #[.int .u8 255] 5)) := Own.full ((Below.refl _ _).alloc (Nat.le_refl _) _) [255] (allB_one (by decide)) 1 (by decide) #[.int .u8 255] rfl (Nat.le_refl _) rfl (Nat.le_refl _) (heap_alloc_new w _)
    have H0 := Lib.hid (O0.later O.bel)
    clear O O0
    go_wp2_with (at_builtin; refine wpList_app rfl _ _ rfl rfl H0.out rfl H.out.reads ?c3 ?_)
    case c3 => omega
    intro A1 c1 w1 h1 h2 _
    have H1 := Lib.hid h1
    have H2 := Lib.hid h2
    clear h1 h2
    go_wp2_with fail
    go_ret
    exact ⟨A1, _, c1, rfl, H1.out, by rw [HV.out]; exact H2.out⟩

/-- Do the bytes L begin with M from p on? -/
def startsB (L : List Nat) (p : Nat) (M : List Nat) : Bool := decide (p + M.length ≤ L.length ∧ ∀ k, k < M.length → nth L (p + k) = nth M k)
theorem startsB_yes {L : List Nat} {p : Nat} {M : List Nat} (h : p + M.length ≤ L.length) (h2 : ∀ k, k < M.length → nth L (p + k) = nth M k) : startsB L p M = true := decide_eq_true ⟨h, h2⟩
theorem startsB_short {L : List Nat} {p : Nat} {M : List Nat} (h : L.length < p + M.length) : startsB L p M = false := decide_eq_false fun h2 => by have := h2.1; omega
theorem startsB_off {L : List Nat} {p : Nat} {M : List Nat} {k : Nat} (h : k < M.length) (h2 : nth L (p + k) ≠ nth M k) : startsB L p M = false := decide_eq_false fun h3 => h2 (h3.2 k h)

set_option maxHeartbeats 1000000 in
theorem starts_any {A B : Option Addr} {n m c d : Nat} {L M : List Nat} (p : Nat) (w : World) (hn : n ≤ 1099511627776) (hm : m ≤ 1099511627776) (hp : p ≤ n) (hL : Bs w A n L) (hM : Bs w B m M) :
    Calls Try.prog 36 #[.slice A n c, .int .i64 (p : Nat), .slice B m d] w fun e w' => e = .returned (.bool (startsB L p M)) ∧ Below w.heap.size w w' := by
  have HL := Lib.hid hL
  have HM := Lib.hid hM
  have HLl := Lib.hid hL.len
  have HMl := Lib.hid hM.len
  clear hL hM
  by_cases hnm : n < p + m
  · have t1 : decide ((n : Int) - (p : Int) < (m : Int)) = true := decide_eq_true (by omega)
    go_enter Try.func36, Try.ntmps36
    go_wp2_with fail
    go_ret
    exact ⟨by rw [startsB_short (by rw [HLl.out, HMl.out]; exact hnm)]; rfl, Below.refl _ _⟩
  · have t1 : decide ((n : Int) - (p : Int) < (m : Int)) = false := decide_eq_false (by omega)
    go_enter Try.func36, Try.ntmps36
    go_wp2_with fail
    go_loopw [7] (fun i wr => ∃ k : Nat, k ≤ m ∧ i = .int .i64 (k : Nat) ∧ (∀ j, j < k → nth L (p + j) = nth M j) ∧ Below w.heap.size w wr) (fun i _ => m - (intOf i).toNat)
    case atStart => exact ⟨0, by omega, rfl, fun j hj => absurd hj (by omega), Below.refl _ _⟩
    case round =>
      obtain ⟨k, hk, rfl, hs, bel⟩ := hrel
      have HS := Lib.hid hs
      have HB := Lib.hid bel
      clear hs bel
      by_cases hlt : k < m
      · obtain ⟨a, rfl, ha, ca, la⟩ := (HL.out.later HB.out).at_ (k := p + k) (by omega)
        obtain ⟨b, rfl, hb, cb, lb⟩ := (HM.out.later HB.out).at_ hlt
        obtain ⟨x, hx⟩ : ∃ x, x = nth L (p + k) := ⟨_, rfl⟩
        obtain ⟨y, hy⟩ : ∃ y, y = nth M k := ⟨_, rfl⟩
        rw [← hx] at ca la
        rw [← hy] at cb lb
        have HX := Lib.hid hx
        have HY := Lib.hid hy
        clear hx hy
        have i1 : IntKind.i64.wrap ((p : Int) + (k : Int)) = (p : Int) + (k : Int) := IntWalk.i64_in _ (by omega)
        have i2 : (0 : Int) ≤ (p : Int) + (k : Int) := by omega
        have i3 : ((p : Int) + (k : Int)).toNat = p + k := by omega
        by_cases hxy : x = y
        · have HXY := Lib.hid hxy
          have t2 : ((x : Int) != (y : Int)) = false := by simp [hxy]
          clear hxy
          go_wp2_with fail
          go_region
          go_wp2_with fail
          go_roundw
          case rel => exact ⟨k + 1, by omega, by go_num, fun j hj => by
            rcases (by omega : j < k ∨ j = k) with h | rfl
            · exact HS.out j h
            · rw [← HX.out, ← HY.out, HXY.out], HB.out.drew⟩
          case measure => simp [intOf]; omega
        · have HXY := Lib.hid hxy
          have t2 : ((x : Int) != (y : Int)) = true := by rw [bne_iff_ne]; omega
          clear hxy
          go_wp2_with fail
          go_region
          go_wp2_with fail
          go_ret
          exact ⟨by rw [startsB_off (k := k) (by rw [HMl.out]; exact hlt) fun e => HXY.out (by rw [HX.out, HY.out, e])]; rfl, HB.out.drew⟩
      · obtain rfl : k = m := by omega
        go_wp2_with fail
        go_ret
        exact ⟨by rw [startsB_yes (by rw [HLl.out, HMl.out]; omega) (by rw [HMl.out]; exact HS.out)]; rfl, HB.out⟩
end Go.Proofs.Ytcnmplkljpkheaa
