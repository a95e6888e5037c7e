/- MerkleLeads: of a list that is not doubled each hash is folded with its branch to the root; of one that is, too, or it proves nothing. No condition but that the tables lie as laid. -/
import Derived.Test.YtdenibigefchpaaDoorBrAll
namespace Go.Proofs.YtdenibigefchpaaDoor
open Go.RowKit

theorem branch_pow (J : List Nat → List Nat → List Nat) : ∀ (f : Nat) (l : List (List Nat)) (k : Nat), l.length ≤ f → l.length ≤ 2 ^ (branch J l k).length
  | 0, l, k, h => Nat.le_trans h (Nat.zero_le _)
  | f + 1, l, k, h => by
    by_cases h1 : 1 < l.length
    · have := branch_pow J f (up J l) (k / 2) (by rw [up_len]; omega)
      rw [up_len] at this
      rw [branch_up J h1, List.length_cons, Nat.pow_succ]
      omega
    · rw [branch_short J (by omega)]
      simp
      omega
def allFold (l : List (List Nat)) (j : Nat) (b : Bool) : Prop := b = true ↔ ∀ q, q < j → fold joinS (nt l q) (branch joinS l q) q ≠ none
theorem allFold_next {l : List (List Nat)} {j : Nat} {b : Bool} (h : allFold l j b) : allFold l (j + 1) (b && (fold joinS (nt l j) (branch joinS l j) j).isSome) := by
  unfold allFold at *
  rw [Bool.and_eq_true, h]
  constructor
  · rintro ⟨h1, h2⟩ q hq e
    rcases (by omega : q < j ∨ q = j) with h3 | rfl
    · exact h1 q h3 e
    · rw [e] at h2; cases h2
  · intro h1
    refine ⟨fun q hq => h1 q (by omega), ?_⟩
    have := h1 j (by omega)
    cases e : fold joinS (nt l j) (branch joinS l j) j with
    | none => exact absurd e this
    | some r => rfl
theorem allFold_end {l : List (List Nat)} {b : Bool} (h : allFold l l.length b) : (b != twice joinS l) = true := by
  unfold allFold at h
  cases e : twice joinS l with
  | false =>
    rw [h.2 (fun q hq => fold_all joinS _ l (Nat.le_refl _) e q hq)]
    rfl
  | true =>
    obtain ⟨q, hq, e2⟩ := fold_none joinS _ l (Nat.le_refl _) e
    cases b with
    | false => rfl
    | true => exact absurd e2 (h.1 rfl q hq)

set_option maxRecDepth 100000 in
set_option maxHeartbeats 8000000 in
theorem leads_law {A : Option Addr} {n c : Nat} {l : List (List Nat)} {w : World} (_ : n ≤ c) (_ : c ≤ 9223372036854775807) (hl : Gs w A n l) (hLd : Laid w) :
    Calls Tryd.prog 5 #[.slice A n c] w fun e w' => e = .returned (.bool true) ∧ Below w.heap.size w w' := by
  have HD := Lib.hid hLd
  have HL := Lib.hid hl
  have HN := Lib.hid hl.len
  have B0 := Lib.hid (Below.refl w.heap.size w)
  have lz := Lib.hid (show (vals z32).length = 32 by rw [vals_length]; exact z32_ok.1)
  clear hLd hl
  have fin : ∀ w1, Below w.heap.size w w1 → Calls Tryd.prog 9 #[] w1 fun e w' => e = .returned (.bool true) ∧ Below w.heap.size w w' := fun w1 b => (works_any w1 (HD.out.later HD.out.lt b)).mono fun e w' ⟨h1, h2⟩ => ⟨h1, b.trans (h2.mono b.size)⟩
  have FIN := Lib.hid fin
  clear fin
  go_enter Tryd.func5, Tryd.ntmps5
  by_cases hn : 200 < n
  · have t0 : decide ((200 : Int) < (n : Int)) = true := decide_eq_true (by omega)
    go_wp2_with fail
    refine (FIN.out _ B0.out).mono ?_
    rintro e w1 ⟨rfl, hb⟩
    have HB := Lib.hid hb
    clear hb
    go_wp2_with fail
    go_ret
    exact ⟨rfl, HB.out⟩
  have t0 : decide ((200 : Int) < (n : Int)) = false := decide_eq_false (by omega)
  have CR := Lib.hid (root_any (c := c) w HD.out (by omega) HL.out)
  have CD := Lib.hid (fun w1 (b : Below w.heap.size w w1) => doubled_any (c := c) w1 (HD.out.later HD.out.lt b) (by omega) (HL.out.later b))
  have okR := (root_ok _ l (Nat.le_refl _) HL.out.ok).1
  have FR := Lib.hid (fun k (hk : k < n) r (e : fold joinS (nt l k) (branch joinS l k) k = some r) => fold_root joinS z32 _ l (Nat.le_refl _) k (by rw [HN.out]; exact hk) r e)
  have AE := Lib.hid (fun b (h : allFold l l.length b) => allFold_end h)
  obtain ⟨R, hR⟩ : ∃ R, root joinS z32 l = R := ⟨_, rfl⟩
  obtain ⟨T, hT⟩ : ∃ T, twice joinS l = T := ⟨_, rfl⟩
  rw [hR] at CR okR FR
  rw [hT] at CD AE
  rw [HN.out] at AE
  have EQR := eq_same okR
  have lR := Lib.hid (show (vals R).length = 32 by rw [vals_length]; exact okR)
  clear hR hT okR
  go_wp2_with fail
  refine CR.out.mono ?_
  rintro e w1 ⟨rfl, hb⟩
  have B1 := Lib.hid (B0.out.trans (hb.mono B0.out.size))
  clear hb CR B0
  go_wp2_with (refine wpList_store_ro rfl (.tmp 3) (.tmp 16) rfl rfl rfl row26 (Ro.new w1 24 (vals z32)) lz.out lR.out (vals_one _) ?_)
  intro w2 R2 g2
  have B2 := Lib.hid (B1.out.trans ((box_store g2).mono B1.out.size))
  have X2 := Lib.hid R2
  clear R2 g2 B1
  obtain ⟨p3, hp3⟩ : ∃ p, w1.heap.size = p := ⟨_, rfl⟩
  rw [hp3] at X2
  go_wp2_with fail
  refine (CD.out _ B2.out).mono ?_
  rintro e w3 ⟨rfl, hb⟩
  have B3 := Lib.hid (B2.out.trans (hb.mono B2.out.size))
  have X3 := Lib.hid (X2.out.later hb)
  clear hb CD B2 X2
  rw [hp3]
  clear hp3
  go_wp2_with fail
  have AF0 : Hid (allFold l 0 true) := Lib.hid ⟨fun _ q hq => absurd hq (by omega), fun _ => rfl⟩
  go_loopw [5, 6] (fun bv iv wr => ∃ (j : Nat) (b : Bool), bv = .bool b ∧ iv = .int .i64 (j : Nat) ∧ j ≤ n ∧ allFold l j b ∧ Ro wr p3 24 (vals R) ∧ Below w.heap.size w wr) (fun _ iv _ => n - (intOf iv).toNat)
  case atStart => exact ⟨0, true, rfl, rfl, Nat.zero_le _, AF0.out, X3.out, B3.out⟩
  case round =>
    clear AF0 X3 B3
    obtain ⟨j, b, rfl, rfl, hj, haf, hx, hb⟩ := hrel
    have HF := Lib.hid haf
    have HX := Lib.hid hx
    have HB := Lib.hid hb
    clear haf hx hb
    by_cases hlt : j < n
    · have t1 : decide ((j : Int) < (n : Int)) = true := decide_eq_true (by omega)
      have NX := Lib.hid (allFold_next HF.out)
      have CB := Lib.hid (branch_any (c := c) (k := j) wr (HD.out.later HD.out.lt HB.out) (by omega) hlt (HL.out.later HB.out))
      have PW := Lib.hid (branch_pow joinS _ l j (Nat.le_refl _))
      have BL := Lib.hid (branch_len joinS _ 8 l j (Nat.le_refl _) (by rw [HN.out]; omega))
      have ok := nt_ok HL.out.ok (k := j) (by rw [HN.out]; exact hlt)
      have FJ := Lib.hid (FR.out j hlt)
      obtain ⟨Bs, hBs⟩ : ∃ Bs, branch joinS l j = Bs := ⟨_, rfl⟩
      rw [hBs] at NX CB PW BL FJ
      obtain ⟨x, hx⟩ : ∃ x, nt l j = x := ⟨_, rfl⟩
      rw [hx] at NX FJ ok
      have HXj := Lib.hid hx
      have OK := Lib.hid ok
      have lx := Lib.hid (show (vals x).length = 32 by rw [vals_length]; exact ok.1)
      clear hBs hx ok HF
      go_wp2_with fail
      refine CB.out.mono ?_
      rintro e w4 ⟨BA, m, d, rfl, O⟩
      have hm : m ≤ 8 := by have := O.len; have := BL.out; omega
      have B4 := Lib.hid (HB.out.trans (O.bel.mono HB.out.size))
      have X4 := Lib.hid (HX.out.later O.bel)
      have G4 := Lib.hid O.reads
      have q1 : j < 2 ^ m := by
        have h1 := PW.out
        rw [O.len, HN.out] at h1
        omega
      have q2 : ((j : Int) / 2 ^ m) = 0 := by
        refine Int.ediv_eq_zero_of_lt (by omega) ?_
        have e : ((2 : Int) ^ m) = ((2 ^ m : Nat) : Int) := by rw [Int.natCast_pow]; rfl
        rw [e]
        omega
      have CF := Lib.hid (fold_any (c := d) (k := j) (x := x) w4 (HD.out.later HD.out.lt B4.out) OK.out (by omega) (by omega) q2 G4.out)
      have L4 := Lib.hid (HL.out.later B4.out)
      obtain ⟨lb, lo, rfl, _, _⟩ := L4.out.cel (by omega)
      have ad := add_at lb lo
      have RJ := (L4.out.at_ hlt).2
      rw [HXj.out] at RJ
      have HRJ := Lib.hid RJ
      have t2 : decide ((8 : Int) < (m : Int)) = false := decide_eq_false (by omega)
      clear O CB PW BL HB HX q1 q2 RJ
      cases hf : fold joinS x Bs j with
      | none =>
        rw [hf] at CF NX
        clear hf FJ
        have e1 : Hid (allFold l (j + 1) false) := Lib.hid (by have q := NX.out; simpa using q)
        clear NX
        cases b <;> (
          go_wp2_with (refine wpList_load_part rfl (.tmp 41) rfl rfl row26 HRJ.out lx.out ?_)
          refine CF.out.mono ?_
          rintro e w5 ⟨rfl, hb⟩
          have B5 := Lib.hid (B4.out.trans (hb.mono B4.out.size))
          have X5 := Lib.hid (X4.out.later hb)
          clear hb CF B4 X4 HRJ
          dsimp only [foldV, foldE]
          go_wp2_with (refine wpList_store_ro rfl (.tmp 9) (.tmp 46) rfl rfl rfl row26 (Ro.new w5 24 (vals z32)) lz.out lz.out (vals_one _) ?_)
          intro w6 R6 g6
          have B6 := Lib.hid (B5.out.trans ((box_store g6).mono B5.out.size))
          have X6 := Lib.hid (X5.out.later (box_store g6))
          clear R6 g6 B5 X5
          go_wp2_with fail
          exact ⟨⟨j + 1, false, rfl, by go_num, by omega, e1.out, X6.out, B6.out⟩, by simp [intOf]; omega⟩)
      | some r =>
        obtain rfl := FJ.out r hf
        rw [hf] at CF NX
        clear hf FJ
        have e1 : Hid (allFold l (j + 1) b) := Lib.hid (by have q := NX.out; simpa using q)
        clear NX
        cases b <;> (
          go_wp2_with (refine wpList_load_part rfl (.tmp 41) rfl rfl row26 HRJ.out lx.out ?_)
          refine CF.out.mono ?_
          rintro e w5 ⟨rfl, hb⟩
          have B5 := Lib.hid (B4.out.trans (hb.mono B4.out.size))
          have X5 := Lib.hid (X4.out.later hb)
          clear hb CF B4 X4 HRJ
          dsimp only [foldV, foldE]
          go_wp2_with (refine wpList_store_ro rfl (.tmp 9) (.tmp 46) rfl rfl rfl row26 (Ro.new w5 24 (vals z32)) lz.out lR.out (vals_one _) ?_)
          intro w6 R6 g6
          have B6 := Lib.hid (B5.out.trans ((box_store g6).mono B5.out.size))
          have X6 := Lib.hid (X5.out.later (box_store g6))
          have Y6 := Lib.hid R6
          clear R6 g6 B5 X5
          go_wp2_with (first | (refine BigFrame.wpList_want (by rfl) fun K hK => wp_load_ro (.tmp 9) rfl rfl row26 Y6.out lR.out (hK _ _ ?_)) | (refine BigFrame.wpList_want (by rfl) fun K hK => wp_load_ro (.tmp 3) rfl rfl row26 X6.out lR.out (hK _ _ ?_)))
          exact ⟨⟨j + 1, _, rfl, by go_num, by omega, e1.out, X6.out, B6.out⟩, by simp [intOf]; omega⟩)
    · obtain rfl : j = n := by omega
      have t1 : decide ((j : Int) < (j : Int)) = false := decide_eq_false (by omega)
      have NE := AE.out b HF.out
      have HNE := Lib.hid NE
      clear NE HF AE
      cases b <;> cases T
      · exact absurd HNE.out (by decide)
      · go_wp2_with fail
        refine (FIN.out _ HB.out).mono ?_
        rintro e w9 ⟨rfl, hb⟩
        have HB9 := Lib.hid hb
        clear hb
        go_wp2_with fail
        go_ret
        exact ⟨rfl, HB9.out⟩
      · go_wp2_with fail
        refine (FIN.out _ HB.out).mono ?_
        rintro e w9 ⟨rfl, hb⟩
        have HB9 := Lib.hid hb
        clear hb
        go_wp2_with fail
        go_ret
        exact ⟨rfl, HB9.out⟩
      · exact absurd HNE.out (by decide)
end Go.Proofs.YtdenibigefchpaaDoor
