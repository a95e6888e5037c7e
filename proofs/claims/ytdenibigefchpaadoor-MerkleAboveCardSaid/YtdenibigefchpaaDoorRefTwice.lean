/- The reference's Doubled. No condition. -/
import Derived.Test.YtdenibigefchpaaDoorSame10
namespace Go.Proofs.YtdenibigefchpaaDoor
open Go.RowKit

theorem pairs_no {l : List (List Nat)} (h : ∀ q, q < l.length → q % 2 = 1 → nt l q ≠ nt l (q - 1)) : pairs l = false := by
  cases e : pairs l with
  | false => rfl
  | true =>
    obtain ⟨k, h1, h2, h3⟩ := (pairs_iff l).1 e
    exact absurd h3 (h k h1 h2)

set_option maxRecDepth 100000 in
set_option maxHeartbeats 4000000 in
theorem refTwiceD_any {A : Option Addr} {n c : Nat} {l : List (List Nat)} (w : World) (hn : n ≤ 1000000) (hL : Gs w A n l) : Calls Tryd.prog 18 #[.slice A n c] w fun e w' => e = .returned (.bool (twice joinS l)) ∧ Below w.heap.size w w' := by
  obtain ⟨T, hT⟩ : ∃ T, twice joinS l = T := ⟨_, rfl⟩
  rw [hT]
  have HT := Lib.hid hT
  have HL := Lib.hid hL
  clear hT hL
  go_enter Tryd.func18, Tryd.ntmps18
  go_wp2_with fail
  go_loopw [3] (fun v wr => ∃ (x : Rw), v = .slice x.A x.n x.c ∧ x.n ≤ 1000000 ∧ Gs wr x.A x.n x.l ∧ twice joinS x.l = T ∧ Below w.heap.size w wr) (fun v _ => match v with | .slice _ m _ => m | _ => 0)
  case atStart => exact ⟨⟨A, n, c, l⟩, rfl, hn, HL.out, HT.out, Below.refl _ _⟩
  case round =>
    clear HL HT
    obtain ⟨⟨A', m, c', l'⟩, rfl, hm, hg, hr, hb⟩ := hrel
    dsimp only at hm hg hr
    have HG := Lib.hid hg
    have HR := Lib.hid hr
    have HB := Lib.hid hb
    have HM := Lib.hid hg.len
    clear hg hr hb
    by_cases h1 : 1 < m
    · have t1 : decide ((1 : Int) < (m : Int)) = true := decide_eq_true (by omega)
      obtain ⟨W1, hW1⟩ : ∃ W1, W1 = wr := ⟨_, rfl⟩
      rw [← hW1] at HG HB
      have B1 : Hid (Below W1.heap.size W1 wr) := Lib.hid (by rw [hW1]; exact Below.refl _ _)
      clear hW1
      go_wp2_with fail
      go_loopw [4] (fun i w5 => ∃ j : Nat, i = .int .i64 (j : Nat) ∧ j ≤ m + 1 ∧ j % 2 = 1 ∧ (∀ q, q < j → q % 2 = 1 → nt l' q ≠ nt l' (q - 1)) ∧ Below W1.heap.size W1 w5) (fun i _ => m + 2 - (intOf i).toNat)
      case atStart => exact ⟨1, rfl, by omega, rfl, fun q h2 h3 => by omega, B1.out⟩
      case round =>
        clear B1
        obtain ⟨j, rfl, hj, hodd, hne, hb5⟩ := hrel
        have HNE := Lib.hid hne
        have HO := Lib.hid hodd
        have B5 := Lib.hid hb5
        clear hne hb5
        by_cases hlt : j < m
        · obtain ⟨p, rfl⟩ : ∃ p, j = p + 1 := ⟨j - 1, by omega⟩
          have HG5 := Lib.hid (HG.out.later B5.out)
          obtain ⟨b, o, rfl, hb, _⟩ := HG5.out.cel (by omega)
          have ad := add_at b o
          have L5 := Lib.hid hb
          have R1 := Lib.hid ((HG5.out.at_ hlt).2)
          have R0 := Lib.hid ((HG5.out.at_ (k := p) (by omega)).2)
          have ok1 := nt_ok HG.out.ok (k := p + 1) (by rw [HM.out]; exact hlt)
          have ok0 := nt_ok HG.out.ok (k := p) (by rw [HM.out]; omega)
          have l1 := Lib.hid (show (vals (nt l' (p + 1))).length = 32 by rw [vals_length]; exact ok1.1)
          have l0 := Lib.hid (show (vals (nt l' p)).length = 32 by rw [vals_length]; exact ok0.1)
          have EQ := fun w => eq_hash ok1.1 ok0.1 w
          have y1 : IntKind.i64.wrap (((p + 1 : Nat) : Int) - 1) = ((p : Nat) : Int) := by rw [IntWalk.i64_in _ (by omega)]; omega
          obtain ⟨h, e1⟩ : ∃ h, nt l' (p + 1) = h := ⟨_, rfl⟩
          obtain ⟨g, e2⟩ : ∃ g, nt l' p = g := ⟨_, rfl⟩
          rw [e1] at R1 l1
          rw [e2] at R0 l0
          rw [e1, e2] at EQ
          have E1 := Lib.hid e1
          have E2 := Lib.hid e2
          clear e1 e2 hb ok1 ok0 hodd
          by_cases hhg : h = g
          · have HHG := Lib.hid hhg
            rw [eqB_yes hhg] at EQ
            clear hhg
            go_wp2_with fail
            refine wp_region_after (by kernel_rfl) (by kernel_rfl) ?_
            repeat (go_big_quiet_step (fail))
            go_big_quiet_want
            refine quiet_load_part (.tmp 17) rfl rfl row26 (fun w9 h9 => by obtain ⟨u, rfl⟩ := h9; exact range_later R1.out L5.out u.below) l1.out ?_
            simp only [Act.put, List.setIfInBounds_toArray, List.set_cons_succ, List.set_cons_zero]
            go_big_quiet_on
            repeat (go_big_quiet_step (fail))
            go_big_quiet_want
            refine quiet_load_part (.tmp 22) rfl rfl row26 (fun w9 h9 => by obtain ⟨u, rfl⟩ := h9; exact range_later R0.out L5.out u.below) l0.out ?_
            simp only [Act.put, List.setIfInBounds_toArray, List.set_cons_succ, List.set_cons_zero]
            go_big_quiet_on
            repeat (go_big_quiet_step (fail))
            refine wpQuiet_nil ?_
            rintro wz ⟨u, rfl⟩
            have Bz := Lib.hid ((HB.out.trans (B5.out.mono HB.out.size)).trans (u.below.mono (HB.out.trans (B5.out.mono HB.out.size)).size))
            have TT : T = true := by
              rw [← HR.out, twice_up joinS (by rw [HM.out]; exact h1), Bool.or_eq_true]
              exact .inl ((pairs_iff l').2 ⟨p + 1, by rw [HM.out]; exact hlt, HO.out, by rw [E1.out, show p + 1 - 1 = p from rfl, E2.out, HHG.out]⟩)
            have HTT := Lib.hid TT
            clear TT
            go_wp2_with fail
            go_ret
            exact ⟨by rw [HTT.out]; rfl, Bz.out⟩
          · have HHG := Lib.hid hhg
            rw [eqB_no hhg] at EQ
            clear hhg
            go_wp2_with fail
            refine wp_region_after (by kernel_rfl) (by kernel_rfl) ?_
            repeat (go_big_quiet_step (fail))
            go_big_quiet_want
            refine quiet_load_part (.tmp 17) rfl rfl row26 (fun w9 h9 => by obtain ⟨u, rfl⟩ := h9; exact range_later R1.out L5.out u.below) l1.out ?_
            simp only [Act.put, List.setIfInBounds_toArray, List.set_cons_succ, List.set_cons_zero]
            go_big_quiet_on
            repeat (go_big_quiet_step (fail))
            go_big_quiet_want
            refine quiet_load_part (.tmp 22) rfl rfl row26 (fun w9 h9 => by obtain ⟨u, rfl⟩ := h9; exact range_later R0.out L5.out u.below) l0.out ?_
            simp only [Act.put, List.setIfInBounds_toArray, List.set_cons_succ, List.set_cons_zero]
            go_big_quiet_on
            repeat (go_big_quiet_step (fail))
            refine wpQuiet_nil ?_
            rintro wz ⟨u, rfl⟩
            have Bz := Lib.hid (B5.out.trans (u.below.mono B5.out.size))
            go_wp2_with fail
            exact ⟨⟨p + 1 + 2, by go_num, by omega, by have := HO.out; omega, fun q h2 h3 => by
              by_cases e : q = p + 1
              · subst e
                rw [E1.out, show p + 1 - 1 = p from rfl, E2.out]
                exact HHG.out
              · exact HNE.out q (by have := HO.out; omega) h3, Bz.out⟩, by simp [intOf]; omega⟩
        · have NP := pairs_no (l := l') (fun q h2 h3 => HNE.out q (by rw [HM.out] at h2; omega) h3)
          have RU : Hid (twice joinS (up joinS l') = T) := Lib.hid (by
            have e := twice_up joinS (l := l') (by rw [HM.out]; exact h1)
            rw [NP, Bool.false_or] at e
            rw [← e]; exact HR.out)
          have HG5 := Lib.hid (HG.out.later B5.out)
          have HB5 := Lib.hid (HB.out.trans (B5.out.mono HB.out.size))
          clear NP HNE hodd
          go_wp2_with fail
          refine (refAbove_any _ hm HG5.out).mono ?_
          rintro e w3 ⟨A3, c3, rfl, O3⟩
          have HO3 := Lib.hid O3
          clear O3
          go_wp2_with fail
          exact ⟨⟨⟨A3, (m + 1) / 2, c3, up joinS l'⟩, rfl, by show (m + 1) / 2 ≤ 1000000; omega, HO3.out.reads, RU.out, HB5.out.trans (HO3.out.bel.mono HB5.out.size)⟩, by show (m + 1) / 2 < m; omega⟩
    · have t1 : decide ((1 : Int) < (m : Int)) = false := decide_eq_false (by omega)
      have e := twice_short joinS (l := l') (by rw [HM.out]; omega)
      rw [HR.out] at e
      have HE := Lib.hid e
      clear e
      go_wp2_with fail
      go_ret
      exact ⟨by rw [HE.out]; rfl, HB.out⟩
end Go.Proofs.YtdenibigefchpaaDoor
