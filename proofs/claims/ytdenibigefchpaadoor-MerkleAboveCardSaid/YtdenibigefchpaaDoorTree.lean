/- Trees of hashes over lists: rows, root, branch, fold, doubled; whatever two hashes together are. No program here. -/
import Derived.Test.YtdenibigefchpaaDoorB
namespace Go.Proofs.YtdenibigefchpaaDoor

section
variable (J : List Nat → List Nat → List Nat)
def up : List (List Nat) → List (List Nat)
  | [] => []
  | [a] => [J a a]
  | a :: b :: t => J a b :: up t
theorem up_len : ∀ l : List (List Nat), (up J l).length = (l.length + 1) / 2
  | [] => rfl
  | [a] => by simp [up]
  | a :: b :: t => by
    rw [up, List.length_cons, up_len t, List.length_cons, List.length_cons]; omega
/-- The k-th of a row. -/
def nt (l : List (List Nat)) (k : Nat) : List Nat := l.getD k []
/-- The partner of the k-th. -/
def mate (l : List (List Nat)) (k : Nat) : List Nat := if k % 2 = 0 then (if k + 1 < l.length then nt l (k + 1) else nt l k) else nt l (k - 1)
def pairs : List (List Nat) → Bool
  | [] => false
  | [_] => false
  | a :: b :: t => decide (b = a) || pairs t
def rootF (z : List Nat) : Nat → List (List Nat) → List Nat
  | 0, l => l.headD z
  | f + 1, l => if l.length ≤ 1 then l.headD z else rootF z f (up J l)
def root (z : List Nat) (l : List (List Nat)) : List Nat := rootF J z l.length l
theorem rootF_eq (z : List Nat) : ∀ (f g : Nat) (l : List (List Nat)), l.length ≤ f → l.length ≤ g → rootF J z f l = rootF J z g l
  | 0, 0, _, _, _ => rfl
  | 0, g + 1, l, h1, h2 => by rw [rootF, rootF, if_pos (by omega)]
  | f + 1, 0, l, h1, h2 => by rw [rootF, rootF, if_pos (by omega)]
  | f + 1, g + 1, l, h1, h2 => by
    rw [rootF, rootF]
    split
    · rfl
    · exact rootF_eq z f g _ (by rw [up_len]; omega) (by rw [up_len]; omega)
theorem root_short {z : List Nat} {l : List (List Nat)} (h : l.length ≤ 1) : root J z l = l.headD z := by
  unfold root
  cases e : l.length with
  | zero => rw [rootF]
  | succ f => rw [rootF, if_pos h]
theorem root_up {z : List Nat} {l : List (List Nat)} (h : 1 < l.length) : root J z l = root J z (up J l) := by
  unfold root
  obtain ⟨f, hf⟩ : ∃ f, l.length = f + 1 := ⟨l.length - 1, by omega⟩
  rw [hf, rootF, if_neg (by omega)]
  exact rootF_eq J z _ _ _ (by rw [up_len]; omega) (Nat.le_refl _)
def branchF : Nat → List (List Nat) → Nat → List (List Nat)
  | 0, _, _ => []
  | f + 1, l, k => if l.length ≤ 1 then [] else mate l k :: branchF f (up J l) (k / 2)
def branch (l : List (List Nat)) (k : Nat) : List (List Nat) := branchF J l.length l k
theorem branchF_eq : ∀ (f g : Nat) (l : List (List Nat)) (k : Nat), l.length ≤ f → l.length ≤ g → branchF J f l k = branchF J g l k
  | 0, 0, _, _, _, _ => rfl
  | 0, g + 1, l, k, h1, h2 => by rw [branchF, branchF, if_pos (by omega)]
  | f + 1, 0, l, k, h1, h2 => by rw [branchF, branchF, if_pos (by omega)]
  | f + 1, g + 1, l, k, h1, h2 => by
    rw [branchF, branchF]
    split
    · rfl
    · exact congrArg _ (branchF_eq f g _ _ (by rw [up_len]; omega) (by rw [up_len]; omega))
theorem branch_short {l : List (List Nat)} {k : Nat} (h : l.length ≤ 1) : branch J l k = [] := by
  unfold branch
  cases e : l.length with
  | zero => rw [branchF]
  | succ f => rw [branchF, if_pos h]
theorem branch_up {l : List (List Nat)} {k : Nat} (h : 1 < l.length) : branch J l k = mate l k :: branch J (up J l) (k / 2) := by
  unfold branch
  obtain ⟨f, hf⟩ : ∃ f, l.length = f + 1 := ⟨l.length - 1, by omega⟩
  rw [hf, branchF, if_neg (by omega)]
  exact congrArg _ (branchF_eq J _ _ _ _ (by rw [up_len]; omega) (Nat.le_refl _))
def twiceF : Nat → List (List Nat) → Bool
  | 0, _ => false
  | f + 1, l => if l.length ≤ 1 then false else pairs l || twiceF f (up J l)
def twice (l : List (List Nat)) : Bool := twiceF J l.length l
theorem twiceF_eq : ∀ (f g : Nat) (l : List (List Nat)), l.length ≤ f → l.length ≤ g → twiceF J f l = twiceF J g l
  | 0, 0, _, _, _ => rfl
  | 0, g + 1, l, h1, h2 => by rw [twiceF, twiceF, if_pos (by omega)]
  | f + 1, 0, l, h1, h2 => by rw [twiceF, twiceF, if_pos (by omega)]
  | f + 1, g + 1, l, h1, h2 => by
    rw [twiceF, twiceF]
    split
    · rfl
    · exact congrArg _ (twiceF_eq f g _ (by rw [up_len]; omega) (by rw [up_len]; omega))
theorem twice_short {l : List (List Nat)} (h : l.length ≤ 1) : twice J l = false := by
  unfold twice
  cases e : l.length with
  | zero => rw [twiceF]
  | succ f => rw [twiceF, if_pos h]
theorem twice_up {l : List (List Nat)} (h : 1 < l.length) : twice J l = (pairs l || twice J (up J l)) := by
  unfold twice
  obtain ⟨f, hf⟩ : ∃ f, l.length = f + 1 := ⟨l.length - 1, by omega⟩
  rw [hf, twiceF, if_neg (by omega)]
  exact congrArg _ (twiceF_eq J _ _ _ (by rw [up_len]; omega) (Nat.le_refl _))
def fold : List Nat → List (List Nat) → Nat → Option (List Nat)
  | x, [], _ => some x
  | x, h :: t, k => if k % 2 = 0 then fold (J x h) t (k / 2) else if x = h then none else fold (J h x) t (k / 2)

theorem nt_cons (a : List Nat) (l : List (List Nat)) (k : Nat) : nt (a :: l) (k + 1) = nt l k := by simp [nt]
theorem nt_zero (a : List Nat) (l : List (List Nat)) : nt (a :: l) 0 = a := by simp [nt]
/-- What stands above: the k/2-th of the row above. -/
theorem up_nt : ∀ (l : List (List Nat)) (j : Nat), 2 * j < l.length → nt (up J l) j = J (nt l (2 * j)) (if 2 * j + 1 < l.length then nt l (2 * j + 1) else nt l (2 * j))
  | [], _, h => by simp at h
  | [a], 0, _ => by simp [up, nt]
  | [a], j + 1, h => by simp at h
  | a :: b :: t, 0, _ => by simp [up, nt]
  | a :: b :: t, j + 1, h => by
    rw [up, nt_cons, up_nt t j (by simp at h; omega), show 2 * (j + 1) = 2 * j + 1 + 1 by omega, nt_cons, nt_cons]
    rw [show 2 * j + 1 + 1 + 1 = (2 * j + 1) + 1 + 1 by omega, nt_cons, nt_cons]
    simp only [List.length_cons]
    by_cases hh : 2 * j + 1 < t.length
    · rw [if_pos hh, if_pos (by omega)]
    · rw [if_neg hh, if_neg (by omega)]
theorem up_even {l : List (List Nat)} {k : Nat} (hk : k < l.length) (h : k % 2 = 0) : nt (up J l) (k / 2) = J (nt l k) (mate l k) := by
  rw [up_nt J l (k / 2) (by omega), show 2 * (k / 2) = k by omega, mate, if_pos h]
theorem up_odd {l : List (List Nat)} {k : Nat} (hk : k < l.length) (h : ¬ k % 2 = 0) : nt (up J l) (k / 2) = J (mate l k) (nt l k) := by
  rw [up_nt J l (k / 2) (by omega), show 2 * (k / 2) = k - 1 by omega, mate, if_neg h, show k - 1 + 1 = k by omega, if_pos hk]
theorem fold_step {l : List (List Nat)} {k : Nat} (h : 1 < l.length) (hk : k < l.length) :
    fold J (nt l k) (branch J l k) k = if k % 2 = 1 ∧ nt l k = nt l (k - 1) then none else fold J (nt (up J l) (k / 2)) (branch J (up J l) (k / 2)) (k / 2) := by
  rw [branch_up J h, fold]
  by_cases e : k % 2 = 0
  · rw [if_pos e, if_neg (by omega), up_even J hk e]
  · rw [if_neg e, up_odd J hk e, mate, if_neg e]
    by_cases q : nt l k = nt l (k - 1)
    · rw [if_pos q, if_pos ⟨by omega, q⟩]
    · rw [if_neg q, if_neg (fun z => q z.2)]
theorem fold_short {l : List (List Nat)} {k : Nat} {z : List Nat} (h : l.length ≤ 1) (hk : k < l.length) : fold J (nt l k) (branch J l k) k = some (root J z l) := by
  rw [branch_short J h, fold, root_short J h]
  obtain ⟨a, rfl⟩ : ∃ a, l = [a] := List.length_eq_one_iff.1 (by omega)
  obtain rfl : k = 0 := by simp at hk; exact hk
  simp [nt]
/-- A branch that leads somewhere leads to the root. -/
theorem fold_root (z : List Nat) : ∀ (f : Nat) (l : List (List Nat)), l.length ≤ f → ∀ k, k < l.length → ∀ r, fold J (nt l k) (branch J l k) k = some r → r = root J z l
  | 0, l, h1, k, hk, r, e => by omega
  | f + 1, l, h1, k, hk, r, e => by
    by_cases h : l.length ≤ 1
    · rw [fold_short J (z := z) h hk] at e
      exact (Option.some.inj e).symm
    · rw [fold_step J (by omega) hk] at e
      split at e
      · cases e
      · rw [root_up J (by omega)]
        exact fold_root z f _ (by rw [up_len]; omega) _ (by rw [up_len]; omega) _ e
theorem pairs_iff : ∀ l : List (List Nat), pairs l = true ↔ ∃ k, k < l.length ∧ k % 2 = 1 ∧ nt l k = nt l (k - 1)
  | [] => by simp [pairs]
  | [a] => by
    simp only [pairs, Bool.false_eq_true, false_iff]
    rintro ⟨k, h1, h2, _⟩
    simp at h1
    omega
  | a :: b :: t => by
    rw [pairs, Bool.or_eq_true, decide_eq_true_eq, pairs_iff t]
    constructor
    · rintro (h | ⟨k, h1, h2, h3⟩)
      · exact ⟨1, by simp, rfl, by rw [nt_cons, nt_zero, nt_zero]; exact h⟩
      · refine ⟨k + 1 + 1, by rw [List.length_cons, List.length_cons]; omega, by omega, ?_⟩
        obtain ⟨j, rfl⟩ : ∃ j, k = j + 1 := ⟨k - 1, by omega⟩
        rw [nt_cons, nt_cons, show j + 1 + 1 + 1 - 1 = j + 1 + 1 by omega, nt_cons, nt_cons, h3, show j + 1 - 1 = j by omega]
    · rintro ⟨k, h1, h2, h3⟩
      rcases (by rcases Nat.lt_or_ge k 2 with q | q; exact .inl (by omega); exact .inr ⟨k - 3, by omega⟩ : k = 1 ∨ ∃ j, k = j + 1 + 1 + 1) with rfl | ⟨j, rfl⟩
      · left; rw [nt_cons, nt_zero, nt_zero] at h3; exact h3
      · refine .inr ⟨j + 1, by rw [List.length_cons, List.length_cons] at h1; omega, by omega, ?_⟩
        rw [nt_cons, nt_cons, show j + 1 + 1 + 1 - 1 = j + 1 + 1 by omega, nt_cons, nt_cons] at h3
        rw [h3, show j + 1 - 1 = j by omega]
/-- Of a list that is not doubled each branch leads somewhere. -/
theorem fold_all : ∀ (f : Nat) (l : List (List Nat)), l.length ≤ f → twice J l = false → ∀ k, k < l.length → fold J (nt l k) (branch J l k) k ≠ none
  | 0, l, h1, _, k, hk => by omega
  | f + 1, l, h1, ht, k, hk => by
    by_cases h : l.length ≤ 1
    · rw [fold_short J (z := []) h hk]
      exact fun e => by cases e
    · rw [twice_up J (by omega), Bool.or_eq_false_iff] at ht
      rw [fold_step J (by omega) hk, if_neg]
      · exact fold_all f _ (by rw [up_len]; omega) ht.2 _ (by rw [up_len]; omega)
      · rintro ⟨a, b⟩
        have := (pairs_iff l).2 ⟨k, hk, a, b⟩
        rw [ht.1] at this
        cases this
/-- Of one that is, some branch proves nothing. -/
theorem fold_none : ∀ (f : Nat) (l : List (List Nat)), l.length ≤ f → twice J l = true → ∃ k, k < l.length ∧ fold J (nt l k) (branch J l k) k = none
  | 0, l, h1, ht => by rw [twice_short J (by omega)] at ht; cases ht
  | f + 1, l, h1, ht => by
    by_cases h : l.length ≤ 1
    · rw [twice_short J h] at ht; cases ht
    · rw [twice_up J (by omega), Bool.or_eq_true] at ht
      rcases ht with hp | hu
      · obtain ⟨k, hk, a, b⟩ := (pairs_iff l).1 hp
        exact ⟨k, hk, by rw [fold_step J (by omega) hk, if_pos ⟨a, b⟩]⟩
      · obtain ⟨j, hj, e⟩ := fold_none f _ (by rw [up_len]; omega) hu
        rw [up_len] at hj
        refine ⟨2 * j, by omega, ?_⟩
        rw [fold_step J (by omega) (by omega), if_neg (by omega), show 2 * j / 2 = j by omega]
        exact e
theorem branch_len : ∀ (f d : Nat) (l : List (List Nat)) (k : Nat), l.length ≤ f → l.length ≤ 2 ^ d → (branch J l k).length ≤ d
  | 0, d, l, k, h1, _ => by rw [branch_short J (by omega)]; simp
  | f + 1, d, l, k, h1, h2 => by
    by_cases h : l.length ≤ 1
    · rw [branch_short J h]; simp
    · cases d with
      | zero => simp at h2; omega
      | succ d =>
        rw [branch_up J (by omega), List.length_cons]
        have := branch_len f d (up J l) (k / 2) (by rw [up_len]; omega) (by rw [up_len]; rw [Nat.pow_succ] at h2; omega)
        omega
end
end Go.Proofs.YtdenibigefchpaaDoor
