/- Lines in memory, and whether two rows of lines are the same. No condition but a bound on the lengths. -/
import Derived.Test.YtfmfooocfcdalaaFeedI
import Derived.RegionTactic
import Derived.LoopTactic
import Derived.Deep.RegionLaw
namespace Go.Proofs.Ytfmfooocfcdalaa
open Go.RowKit

/-- A slice of slices that reads as lines. -/
structure Ll (W : World) (B : Option Addr) (m : Nat) (Ls : List (List Nat)) : Prop where
  len : Ls.length = m
  row : 0 < m → ∃ b, B = some b ∧ b.block < W.heap.size ∧ ∀ i, i < m → ∃ A n c, W.cell? (b.add i) = some (.slice A n c) ∧ n ≤ 549755813888 ∧ Bs W A n (Ls.getD i [])
theorem Ll.later {W W' : World} {B : Option Addr} {m : Nat} {Ls : List (List Nat)} (h : Ll W B m Ls) (g : Below W.heap.size W W') : Ll W' B m Ls :=
  ⟨h.len, fun hm => by
    obtain ⟨b, e, hb, hc⟩ := h.row hm
    refine ⟨b, e, Nat.lt_of_lt_of_le hb g.size, fun i hi => ?_⟩
    obtain ⟨A, n, c, h1, h2, h3⟩ := hc i hi
    exact ⟨A, n, c, (World.cell?_of_block (by rw [add_block]; exact g.block _ hb)).trans h1, h2, h3.later g⟩⟩
theorem Ll.nil (W : World) (B : Option Addr) : Ll W B 0 [] := ⟨rfl, fun h => absurd h (by omega)⟩

theorem LinesV.get {W : World} {ok : Nat → Prop} {us : List Value} {Ls : List (List Nat)} (h : LinesV W ok us Ls) : ∀ i, i < us.length → ∃ A n c, us[i]? = some (.slice A n c) ∧ n ≤ c ∧ Bs W A n (Ls.getD i []) := by
  induction h with
  | nil => intro i hi; simp at hi
  | @snoc us Ls u L h hu ih =>
    intro i hi
    have hl := h.len
    by_cases e : i < us.length
    · obtain ⟨A, n, c, h1, h2, h3⟩ := ih i e
      refine ⟨A, n, c, by rw [List.getElem?_append_left e]; exact h1, h2, ?_⟩
      have : (Ls ++ [L]).getD i [] = Ls.getD i [] := by simp [List.getD, List.getElem?_append_left (by omega : i < Ls.length)]
      rw [this]; exact h3
    · have e2 : i = us.length := by simp at hi; omega
      subst e2
      obtain ⟨A, n, c, rfl, h2, h3, _⟩ := hu
      refine ⟨A, n, c, by simp, h2, ?_⟩
      have : (Ls ++ [L]).getD us.length [] = L := by rw [hl]; simp [List.getD]
      rw [this]; exact h3

set_option maxRecDepth 100000 in
set_option maxHeartbeats 4000000 in
theorem sames_any {B C : Option Addr} {m k c d : Nat} {Ls Ks : List (List Nat)} (w : World) (hm : m ≤ 549755813888) (hk : k ≤ 549755813888) (hL : Ll w B m Ls) (hK : Ll w C k Ks) :
    Calls Try.prog 16 #[.slice B m c, .slice C k d] w fun e w' => e = .returned (.bool (decide (Ls = Ks))) ∧ Below w.heap.size w w' := by
  have HL := Lib.hid hL
  have HK := Lib.hid hK
  have HLl := Lib.hid hL.len
  have HKl := Lib.hid hK.len
  clear hL hK
  by_cases hmk : m = k
  · subst hmk
    go_enter Try.func16, Try.ntmps16
    go_wp2_with fail
    go_loopw [5] (fun i wr => ∃ q : Nat, q ≤ m ∧ i = .int .i64 (q : Nat) ∧ (∀ j, j < q → Ls.getD j [] = Ks.getD j []) ∧ Below w.heap.size w wr) (fun i _ => m - (intOf i).toNat)
    case atStart => exact ⟨0, by omega, rfl, fun j hj => absurd hj (by omega), Below.refl _ _⟩
    case round =>
      obtain ⟨q, hq, rfl, hs, bel⟩ := hrel
      have HS := Lib.hid hs
      have HB := Lib.hid bel
      clear hs bel
      by_cases hlt : q < m
      · obtain ⟨b, rfl, hb, hc⟩ := (HL.out.later HB.out).row (by omega)
        obtain ⟨A1, n1, c1, ca, na, ra⟩ := hc q hlt
        obtain ⟨b', rfl, hb', hc'⟩ := (HK.out.later HB.out).row (by omega)
        obtain ⟨A2, n2, c2, cb, nb, rb⟩ := hc' q hlt
        have SM : Hid (∀ w1, Below wr.heap.size wr w1 → Calls Try.prog 17 #[.slice A1 n1 c1, .slice A2 n2 c2] w1 fun e w' => e = .returned (.bool (eqB (Ls.getD q []) (Ks.getD q []))) ∧ Below w1.heap.size w1 w') := Lib.hid fun w1 g => same_any w1 (by omega) (by omega) (ra.later g) (rb.later g)
        have G0 : Hid (Below wr.heap.size wr wr.drew) := Lib.hid (Below.refl _ wr).drew
        clear hc hc' ra rb
        by_cases e : Ls.getD q [] = Ks.getD q []
        · have E := Lib.hid e
          rw [show eqB (Ls.getD q []) (Ks.getD q []) = true from eqB_yes e] at SM
          clear e
          go_wp2_with fail
          go_region_law ((go_simp; (with_reducible refine (SM.out _ G0.out).mono ?_); rintro e w2 ⟨rfl, hb2⟩; have HB2 := Lib.hid hb2; clear hb2; go_simp))
          all_goals go_wp2_with fail
          all_goals refine ⟨⟨q + 1, by omega, by go_num, fun j hj => ?_, HB.out.drew.trans (HB2.out.mono HB.out.size)⟩, by simp [intOf]; omega⟩
          all_goals
            rcases (by omega : j < q ∨ j = q) with h | rfl
            · exact HS.out j h
            · exact E.out
        · have E := Lib.hid e
          rw [show eqB (Ls.getD q []) (Ks.getD q []) = false from eqB_no e] at SM
          clear e
          go_wp2_with fail
          go_region_law ((go_simp; (with_reducible refine (SM.out _ G0.out).mono ?_); rintro e w2 ⟨rfl, hb2⟩; have HB2 := Lib.hid hb2; clear hb2; go_simp))
          all_goals go_wp2_with fail
          all_goals go_ret
          all_goals exact ⟨by rw [decide_eq_false fun e => E.out (by rw [e])]; rfl, HB.out.drew.trans (HB2.out.mono HB.out.size)⟩
      · go_wp2_with fail
        go_ret
        have hl := HLl.out
        have hl2 := HKl.out
        have hE : Ls = Ks := by
          refine List.ext_getElem? fun j => ?_
          by_cases hj : j < m
          · have := HS.out j (by omega)
            simpa [List.getD, List.getElem?_eq_getElem (show j < Ls.length by omega), List.getElem?_eq_getElem (show j < Ks.length by omega)] using this
          · rw [List.getElem?_eq_none (by omega), List.getElem?_eq_none (by omega)]
        exact ⟨by rw [decide_eq_true hE]; rfl, HB.out⟩
  · have t1 : ((m : Int) != (k : Int)) = true := by rw [bne_iff_ne]; omega
    go_enter Try.func16, Try.ntmps16
    go_wp2_with fail
    go_ret
    exact ⟨by rw [decide_eq_false (fun e => hmk (by rw [← HLl.out, ← HKl.out, e]))]; rfl, Below.refl _ _⟩
end Go.Proofs.Ytfmfooocfcdalaa
