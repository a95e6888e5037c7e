/- How many headers stand each on the one ahead; whether two lists are the same. No condition but that the tables lie as laid. -/
import Derived.Test.YtkocbkckfkbmhaaDoorHs
import Derived.Test.YtkocbkckfkbmhaaDoorAfter
import Derived.Test.YtkocbkckfkbmhaaDoorEnd
namespace Go.Proofs.YtkocbkckfkbmhaaDoor
open Go.RowKit

/-- The first i are linked. -/
def LinkedTo (l : List Hd) (i : Nat) : Prop := ∀ j, 1 ≤ j → j < i → (nthH l j).p = idS (nthH l (j - 1))

theorem eqV {H K : List Nat} (hH : H.length = 32) (hK : K.length = 32) : ∀ w, (Op.equalIn 10000 24 (.agg (vals H).toArray) (.agg (vals K).toArray)).run Tryd.prog w = .ok (eqB H K) w := fun w => eq_hash hH hK w

/-- The number that Linked tells. -/
def Links (l : List Hd) (m : Nat) : Prop := m ≤ l.length ∧ LinkedTo l m ∧ (m < l.length → 1 ≤ m ∧ (nthH l m).p ≠ idS (nthH l (m - 1)))
theorem links_eq {l : List Hd} {m k : Nat} (h : Links l m) (g : Links l k) : m = k := by
  obtain ⟨h1, h2, h3⟩ := h
  obtain ⟨g1, g2, g3⟩ := g
  rcases Nat.lt_trichotomy m k with e | e | e
  · obtain ⟨a, b⟩ := h3 (by omega)
    exact absurd (g2 m a e) b
  · exact e
  · obtain ⟨a, b⟩ := g3 (by omega)
    exact absurd (h2 k a e) b

/-- From the i-th one on: how many stand each on the one ahead. -/
def linkF (l : List Hd) : Nat → Nat → Nat
  | 0, _ => l.length
  | f + 1, i => if i < l.length then (if (nthH l i).p = idS (nthH l (i - 1)) then linkF l f (i + 1) else i) else l.length
def linkN (l : List Hd) : Nat := linkF l l.length 1
theorem linkF_links {l : List Hd} : ∀ f i, 1 ≤ i → LinkedTo l i → l.length ≤ i + f → Links l (linkF l f i)
  | 0, i, _, h, hl => ⟨Nat.le_refl _, fun j h1 h2 => h j h1 (by rw [linkF] at h2; omega), fun e => by rw [linkF] at e; omega⟩
  | f + 1, i, h1, h, hl => by
    rw [linkF]
    by_cases e : i < l.length
    · rw [if_pos e]
      by_cases e2 : (nthH l i).p = idS (nthH l (i - 1))
      · rw [if_pos e2]
        refine linkF_links f (i + 1) (by omega) (fun j g1 g2 => ?_) (by omega)
        by_cases e3 : j = i
        · subst e3; exact e2
        · exact h j g1 (by omega)
      · rw [if_neg e2]
        exact ⟨by omega, h, fun _ => ⟨h1, e2⟩⟩
    · rw [if_neg e]
      exact ⟨Nat.le_refl _, fun j g1 g2 => h j g1 (by omega), fun e => by omega⟩
theorem linkN_links (l : List Hd) : Links l (linkN l) := linkF_links _ 1 (Nat.le_refl _) (fun j h1 h2 => by omega) (by omega)
theorem linkN_le (l : List Hd) : linkN l ≤ l.length := (linkN_links l).1
theorem linkN_eq {l : List Hd} {m : Nat} (h : Links l m) : linkN l = m := links_eq (linkN_links l) h
theorem range_later {w w1 : World} {b o : Nat} {cs : List Value} (h : w.rangeAt b o cs) (hb : b < w.heap.size) (g : Below w.heap.size w w1) : w1.rangeAt b o cs := fun j v hj => by
  rw [← h j v hj]; exact g.cell hb

set_option maxRecDepth 100000 in
set_option maxHeartbeats 2000000 in
theorem linked_any {A : Option Addr} {n c : Nat} {l : List Hd} (w : World) (hLd : Laid w) (hn : n ≤ 1000000) (hL : Hs w A n l) : Calls Tryd.prog 23 #[.slice A n c] w fun e w' => e = .returned (.int .i64 (linkN l : Nat)) ∧ Below w.heap.size w w' := by
  have HL := Lib.hid hL
  have HN := Lib.hid hL.len
  have HD := Lib.hid hLd
  clear hLd
  clear hL
  go_enter Tryd.func23, Tryd.ntmps23
  go_wp2_with fail
  go_loopw [3] (fun i wr => ∃ k : Nat, 1 ≤ k ∧ (k ≤ n ∨ k = 1) ∧ i = .int .i64 (k : Nat) ∧ LinkedTo l k ∧ Below w.heap.size w wr) (fun i _ => n - (intOf i).toNat)
  case atStart => exact ⟨1, Nat.le_refl _, .inr rfl, rfl, fun j h1 h2 => by omega, Below.refl _ _⟩
  case round =>
    obtain ⟨k, hk1, hk, rfl, hl, bel⟩ := hrel
    have HK := Lib.hid hl
    have HB := Lib.hid bel
    clear hl bel
    by_cases hlt : k < n
    · obtain ⟨b, o, rfl, hb, _⟩ := HL.out.cel (by omega)
      have ad := add_at b o
      obtain ⟨j, rfl⟩ : ∃ j, k = j + 1 := ⟨k - 1, by omega⟩
      have R1 := Lib.hid (((HL.out.later HB.out).at_ hlt).2)
      have R0 := Lib.hid (((HL.out.later HB.out).at_ (k := j) (by omega)).2)
      have ok1 := Lib.hid (nthH_ok HL.out.ok (j + 1))
      have ok0 := Lib.hid (nthH_ok HL.out.ok j)
      have ll := Lib.hid (hdV_len ok0.out)
      have RP := Lib.hid (range_prev R1.out)
      have hb' : Hid (b < wr.heap.size) := Lib.hid (Nat.lt_of_lt_of_le hb HB.out.size)
      obtain ⟨h1, e1⟩ : ∃ h, nthH l (j + 1) = h := ⟨_, rfl⟩
      obtain ⟨h0, e0⟩ : ∃ h, nthH l j = h := ⟨_, rfl⟩
      rw [e1] at R1 ok1 RP
      rw [e0] at R0 ok0 ll
      have E1 := Lib.hid e1
      have E0 := Lib.hid e0
      have HDr := Lib.hid (HD.out.later HD.out.lt HB.out)
      have CI : ∀ u : After wr, Calls Tryd.prog 16 #[.agg (hdV h0).toArray] u.w fun e w' => e = .returned (.agg (vals (idS h0)).toArray) ∧ Below u.w.heap.size u.w w' := fun u => id_any ok0.out u.w (HDr.out.later HDr.out.lt (u.below.mono (Nat.le_refl _)))
      have HCI := Lib.hid CI
      have lp : Hid (h1.p.length = 32) := Lib.hid ok1.out.p
      have EQ := eqV lp.out (idS_len h0)
      obtain ⟨P, hP⟩ : ∃ P, h1.p = P := ⟨_, rfl⟩
      obtain ⟨I, hI⟩ : ∃ I, idS h0 = I := ⟨_, rfl⟩
      rw [hP, hI] at EQ
      rw [hP] at RP lp
      rw [hI] at HCI
      have HP := Lib.hid hP
      have HI := Lib.hid hI
      have y1 : IntKind.i64.wrap (((j + 1 : Nat) : Int) - 1) = ((j : Nat) : Int) := by rw [IntWalk.i64_in _ (by omega)]; omega
      clear CI e1 e0 hP hI hb
      by_cases hPI : P = I
      · have HPI := Lib.hid hPI
        rw [eqB_yes hPI] at EQ
        clear hPI
        go_wp2_with fail
        refine wp_region_after (by kernel_rfl) (by kernel_rfl) ?_
        repeat (go_big_quiet_step (fail))
        go_big_quiet_want
        refine quiet_load_part (.tmp 13) rfl rfl row32 (fun w9 h9 => by obtain ⟨u, rfl⟩ := h9; exact range_later RP.out hb'.out u.below) (by rw [vals_length]; exact lp.out) ?_
        simp only [Act.put, List.setIfInBounds_toArray, List.set_cons_succ, List.set_cons_zero]
        go_big_quiet_on
        repeat (go_big_quiet_step (fail))
        go_big_quiet_want
        refine quiet_load_part (.tmp 18) rfl rfl rowHd (fun w9 h9 => by obtain ⟨u, rfl⟩ := h9; exact range_later R0.out hb'.out u.below) ll.out ?_
        simp only [Act.put, List.setIfInBounds_toArray, List.set_cons_succ, List.set_cons_zero]
        go_big_quiet_on
        go_big_quiet_step (exact after_call (HCI.out _))
        repeat (go_big_quiet_step (fail))
        refine wpQuiet_nil ?_
        rintro wz ⟨u, rfl⟩
        have Bz := Lib.hid (HB.out.trans (u.below.mono HB.out.size))
        go_wp2_with fail
        exact ⟨⟨j + 1 + 1, by omega, by omega, by go_num, fun i h1 h2 => by
          by_cases e : i = j + 1
          · subst e
            rw [E1.out, HP.out, show j + 1 - 1 = j from rfl, E0.out, HI.out]
            exact HPI.out
          · exact HK.out i h1 (by omega), Bz.out⟩, by simp [intOf]; omega⟩
      · have HPI := Lib.hid hPI
        rw [eqB_no hPI] at EQ
        clear hPI
        go_wp2_with fail
        refine wp_region_after (by kernel_rfl) (by kernel_rfl) ?_
        repeat (go_big_quiet_step (fail))
        go_big_quiet_want
        refine quiet_load_part (.tmp 13) rfl rfl row32 (fun w9 h9 => by obtain ⟨u, rfl⟩ := h9; exact range_later RP.out hb'.out u.below) (by rw [vals_length]; exact lp.out) ?_
        simp only [Act.put, List.setIfInBounds_toArray, List.set_cons_succ, List.set_cons_zero]
        go_big_quiet_on
        repeat (go_big_quiet_step (fail))
        go_big_quiet_want
        refine quiet_load_part (.tmp 18) rfl rfl rowHd (fun w9 h9 => by obtain ⟨u, rfl⟩ := h9; exact range_later R0.out hb'.out u.below) ll.out ?_
        simp only [Act.put, List.setIfInBounds_toArray, List.set_cons_succ, List.set_cons_zero]
        go_big_quiet_on
        go_big_quiet_step (exact after_call (HCI.out _))
        repeat (go_big_quiet_step (fail))
        refine wpQuiet_nil ?_
        rintro wz ⟨u, rfl⟩
        have Bz := Lib.hid (HB.out.trans (u.below.mono HB.out.size))
        go_wp2_with fail
        go_ret
        refine ⟨?_, Bz.out⟩
        rw [linkN_eq (l := l) (m := j + 1) ⟨by rw [HN.out]; omega, HK.out, fun _ => ⟨by omega, by rw [E1.out, HP.out, show j + 1 - 1 = j from rfl, E0.out, HI.out]; exact HPI.out⟩⟩]
        rfl
    · go_wp2_with fail
      go_ret
      refine ⟨?_, HB.out⟩
      rw [linkN_eq (l := l) (m := n) ⟨by rw [HN.out]; exact Nat.le_refl _, fun j h1 h2 => HK.out j h1 (by omega), fun h => by rw [HN.out] at h; omega⟩]
      rfl

set_option maxRecDepth 100000 in
set_option maxHeartbeats 2000000 in
theorem refLinked_any {A : Option Addr} {n c : Nat} {l : List Hd} (w : World) (hn : n ≤ 1000000) (hL : Hs w A n l) : Calls Tryd.prog 24 #[.slice A n c] w fun e w' => e = .returned (.int .i64 (linkN l : Nat)) ∧ Below w.heap.size w w' := by
  have HL := Lib.hid hL
  have HN := Lib.hid hL.len
  clear hL
  go_enter Tryd.func24, Tryd.ntmps24
  go_wp2_with fail
  go_loopw [3] (fun i wr => ∃ k : Nat, 1 ≤ k ∧ (k ≤ n ∨ k = 1) ∧ i = .int .i64 (k : Nat) ∧ LinkedTo l k ∧ Below w.heap.size w wr) (fun i _ => n - (intOf i).toNat)
  case atStart => exact ⟨1, Nat.le_refl _, .inr rfl, rfl, fun j h1 h2 => by omega, Below.refl _ _⟩
  case round =>
    obtain ⟨k, hk1, hk, rfl, hl, bel⟩ := hrel
    have HK := Lib.hid hl
    have HB := Lib.hid bel
    clear hl bel
    by_cases hlt : k < n
    · obtain ⟨b, o, rfl, hb, _⟩ := HL.out.cel (by omega)
      have ad := add_at b o
      obtain ⟨j, rfl⟩ : ∃ j, k = j + 1 := ⟨k - 1, by omega⟩
      have R1 := Lib.hid (((HL.out.later HB.out).at_ hlt).2)
      have R0 := Lib.hid (((HL.out.later HB.out).at_ (k := j) (by omega)).2)
      have ok1 := Lib.hid (nthH_ok HL.out.ok (j + 1))
      have ok0 := Lib.hid (nthH_ok HL.out.ok j)
      have ll := Lib.hid (hdV_len ok0.out)
      have RP := Lib.hid (range_prev R1.out)
      have hb' : Hid (b < wr.heap.size) := Lib.hid (Nat.lt_of_lt_of_le hb HB.out.size)
      obtain ⟨h1, e1⟩ : ∃ h, nthH l (j + 1) = h := ⟨_, rfl⟩
      obtain ⟨h0, e0⟩ : ∃ h, nthH l j = h := ⟨_, rfl⟩
      rw [e1] at R1 ok1 RP
      rw [e0] at R0 ok0 ll
      have E1 := Lib.hid e1
      have E0 := Lib.hid e0
      have CI : ∀ u : After wr, Calls Tryd.prog 17 #[.agg (hdV h0).toArray] u.w fun e w' => e = .returned (.agg (vals (idS h0)).toArray) ∧ Below u.w.heap.size u.w w' := fun u => refId_any ok0.out u.w
      have HCI := Lib.hid CI
      have lp : Hid (h1.p.length = 32) := Lib.hid ok1.out.p
      have EQ := eqV lp.out (idS_len h0)
      obtain ⟨P, hP⟩ : ∃ P, h1.p = P := ⟨_, rfl⟩
      obtain ⟨I, hI⟩ : ∃ I, idS h0 = I := ⟨_, rfl⟩
      rw [hP, hI] at EQ
      rw [hP] at RP lp
      rw [hI] at HCI
      have HP := Lib.hid hP
      have HI := Lib.hid hI
      have y1 : IntKind.i64.wrap (((j + 1 : Nat) : Int) - 1) = ((j : Nat) : Int) := by rw [IntWalk.i64_in _ (by omega)]; omega
      clear CI e1 e0 hP hI hb
      by_cases hPI : P = I
      · have HPI := Lib.hid hPI
        rw [eqB_yes hPI] at EQ
        clear hPI
        go_wp2_with fail
        refine wp_region_after (by kernel_rfl) (by kernel_rfl) ?_
        repeat (go_big_quiet_step (fail))
        go_big_quiet_want
        refine quiet_load_part (.tmp 13) rfl rfl row32 (fun w9 h9 => by obtain ⟨u, rfl⟩ := h9; exact range_later RP.out hb'.out u.below) (by rw [vals_length]; exact lp.out) ?_
        simp only [Act.put, List.setIfInBounds_toArray, List.set_cons_succ, List.set_cons_zero]
        go_big_quiet_on
        repeat (go_big_quiet_step (fail))
        go_big_quiet_want
        refine quiet_load_part (.tmp 18) rfl rfl rowHd (fun w9 h9 => by obtain ⟨u, rfl⟩ := h9; exact range_later R0.out hb'.out u.below) ll.out ?_
        simp only [Act.put, List.setIfInBounds_toArray, List.set_cons_succ, List.set_cons_zero]
        go_big_quiet_on
        go_big_quiet_step (exact after_call (HCI.out _))
        repeat (go_big_quiet_step (fail))
        refine wpQuiet_nil ?_
        rintro wz ⟨u, rfl⟩
        have Bz := Lib.hid (HB.out.trans (u.below.mono HB.out.size))
        go_wp2_with fail
        exact ⟨⟨j + 1 + 1, by omega, by omega, by go_num, fun i h1 h2 => by
          by_cases e : i = j + 1
          · subst e
            rw [E1.out, HP.out, show j + 1 - 1 = j from rfl, E0.out, HI.out]
            exact HPI.out
          · exact HK.out i h1 (by omega), Bz.out⟩, by simp [intOf]; omega⟩
      · have HPI := Lib.hid hPI
        rw [eqB_no hPI] at EQ
        clear hPI
        go_wp2_with fail
        refine wp_region_after (by kernel_rfl) (by kernel_rfl) ?_
        repeat (go_big_quiet_step (fail))
        go_big_quiet_want
        refine quiet_load_part (.tmp 13) rfl rfl row32 (fun w9 h9 => by obtain ⟨u, rfl⟩ := h9; exact range_later RP.out hb'.out u.below) (by rw [vals_length]; exact lp.out) ?_
        simp only [Act.put, List.setIfInBounds_toArray, List.set_cons_succ, List.set_cons_zero]
        go_big_quiet_on
        repeat (go_big_quiet_step (fail))
        go_big_quiet_want
        refine quiet_load_part (.tmp 18) rfl rfl rowHd (fun w9 h9 => by obtain ⟨u, rfl⟩ := h9; exact range_later R0.out hb'.out u.below) ll.out ?_
        simp only [Act.put, List.setIfInBounds_toArray, List.set_cons_succ, List.set_cons_zero]
        go_big_quiet_on
        go_big_quiet_step (exact after_call (HCI.out _))
        repeat (go_big_quiet_step (fail))
        refine wpQuiet_nil ?_
        rintro wz ⟨u, rfl⟩
        have Bz := Lib.hid (HB.out.trans (u.below.mono HB.out.size))
        go_wp2_with fail
        go_ret
        refine ⟨?_, Bz.out⟩
        rw [linkN_eq (l := l) (m := j + 1) ⟨by rw [HN.out]; omega, HK.out, fun _ => ⟨by omega, by rw [E1.out, HP.out, show j + 1 - 1 = j from rfl, E0.out, HI.out]; exact HPI.out⟩⟩]
        rfl
    · go_wp2_with fail
      go_ret
      refine ⟨?_, HB.out⟩
      rw [linkN_eq (l := l) (m := n) ⟨by rw [HN.out]; exact Nat.le_refl _, fun j h1 h2 => HK.out j h1 (by omega), fun h => by rw [HN.out] at h; omega⟩]
      rfl
end Go.Proofs.YtkocbkckfkbmhaaDoor
