/- Whether two slices of bytes are the same, and bytes copied into new memory. No condition but a bound on the lengths. -/
import Derived.Test.YtmieoeplbmfemaaDoorSc
import Derived.RegionTactic
import Derived.LoopTactic
namespace Go.Proofs.YtmieoeplbmfemaaDoor
open Go.RowKit

def eqB (L M : List Nat) : Bool := decide (L = M)
theorem eqB_yes {L M : List Nat} (h : L = M) : eqB L M = true := decide_eq_true h
theorem eqB_no {L M : List Nat} (h : L ≠ M) : eqB L M = false := decide_eq_false h

set_option maxHeartbeats 1000000 in
theorem same_any {A B : Option Addr} {n m c d : Nat} {L M : List Nat} (w : World) (hn : n ≤ 1099511627776) (hm : m ≤ 1099511627776) (hL : Bs w A n L) (hM : Bs w B m M) :
    Calls Tryd.prog 14 #[.slice A n c, .slice B m d] w fun e w' => e = .returned (.bool (eqB L M)) ∧ Below w.heap.size w w' := by
  have HL := Lib.hid hL
  have HM := Lib.hid hM
  have HLl := Lib.hid hL.len
  have HMl := Lib.hid hM.len
  clear hL hM
  by_cases hnm : n = m
  · subst hnm
    go_enter Tryd.func14, Tryd.ntmps14
    go_wp2_with fail
    go_loopw [5] (fun i wr => ∃ k : Nat, k ≤ n ∧ i = .int .i64 (k : Nat) ∧ (∀ j, j < k → nth L j = nth M j) ∧ Below w.heap.size w wr) (fun i _ => n - (intOf i).toNat)
    case atStart => exact ⟨0, by omega, rfl, fun j hj => absurd hj (by omega), Below.refl _ _⟩
    case round =>
      obtain ⟨k, hk, rfl, hs, bel⟩ := hrel
      have HS := Lib.hid hs
      have HB := Lib.hid bel
      clear hs bel
      by_cases hlt : k < n
      · obtain ⟨a, rfl, ha, ca, la⟩ := (HL.out.later HB.out).at_ hlt
        obtain ⟨b, rfl, hb, cb, lb⟩ := (HM.out.later HB.out).at_ hlt
        obtain ⟨x, hx⟩ : ∃ x, x = nth L k := ⟨_, rfl⟩
        obtain ⟨y, hy⟩ : ∃ y, y = nth M k := ⟨_, rfl⟩
        rw [← hx] at ca la
        rw [← hy] at cb lb
        have HX := Lib.hid hx
        have HY := Lib.hid hy
        clear hx hy
        by_cases hxy : x = y
        · have HXY := Lib.hid hxy
          have t1 : ((x : Int) != (y : Int)) = false := by simp [hxy]
          clear hxy
          go_wp2_with fail
          go_region
          go_wp2_with fail
          go_roundw
          case rel => exact ⟨k + 1, by omega, by go_num, fun j hj => by
            rcases (by omega : j < k ∨ j = k) with h | rfl
            · exact HS.out j h
            · rw [← HX.out, ← HY.out, HXY.out], HB.out.drew⟩
          case measure => simp [intOf]; omega
        · have HXY := Lib.hid hxy
          have t1 : ((x : Int) != (y : Int)) = true := by rw [bne_iff_ne]; omega
          clear hxy
          go_wp2_with fail
          go_region
          go_wp2_with fail
          go_ret
          exact ⟨by rw [eqB_no fun e => HXY.out (by rw [HX.out, HY.out, e])]; rfl, HB.out.drew⟩
      · go_wp2_with fail
        go_ret
        exact ⟨by rw [eqB_yes (nth_ext (by rw [HLl.out, HMl.out]) fun j hj => HS.out j (by have := HLl.out; omega))]; rfl, HB.out⟩
  · have t1 : ((n : Int) != (m : Int)) = true := by rw [bne_iff_ne]; omega
    go_enter Tryd.func14, Tryd.ntmps14
    go_wp2_with fail
    go_ret
    exact ⟨by rw [eqB_no fun e => hnm (by rw [← HLl.out, ← HMl.out, e])]; rfl, Below.refl _ _⟩

set_option maxHeartbeats 1000000 in
theorem copied_any {A : Option Addr} {n c : Nat} {L : List Nat} (w : World) (hn : n ≤ 1099511627776) (hL : Bs w A n L) : Calls Tryd.prog 9 #[.slice A n c] w (GivesB w L) := by
  have HL := Lib.hid hL
  clear hL
  go_enter Tryd.func9, Tryd.ntmps9
  go_wp2_with (at_builtin; refine wpList_app rfl _ _ rfl rfl (Own.made (Below.refl _ _) _ _ ?c1 ?c2) rfl (HL.out.later ((Below.refl _ _).alloc (Nat.le_refl _) _)) ?c3 ?_)
  case c1 => decide
  case c2 => rfl
  case c3 => omega
  intro A' c' w' h1 h2 _
  have H1 := Lib.hid h1
  have H2 := Lib.hid h2
  clear h1 h2
  go_wp2_with fail
  go_ret
  exact ⟨A', n, c', rfl, H1.out, H2.out⟩
end Go.Proofs.YtmieoeplbmfemaaDoor
