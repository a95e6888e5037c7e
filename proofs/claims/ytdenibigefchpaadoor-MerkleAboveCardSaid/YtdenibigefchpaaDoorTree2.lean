/- Trees of hashes: a list with its last one twice, and pairs. No program here. -/
import Derived.Test.YtdenibigefchpaaDoorTree
namespace Go.Proofs.YtdenibigefchpaaDoor

section
variable (J : List Nat → List Nat → List Nat)
theorem up_twin : ∀ {l : List (List Nat)}, l.length % 2 = 1 → up J (l ++ [nt l (l.length - 1)]) = up J l
  | [], h => by simp at h
  | [a], _ => by simp [nt, up]
  | a :: b :: t, h => by
    have ht : t.length % 2 = 1 := by rw [List.length_cons, List.length_cons] at h; omega
    obtain ⟨j, hj⟩ : ∃ j, t.length = j + 1 := ⟨t.length - 1, by omega⟩
    have e := up_twin ht
    rw [hj, show j + 1 - 1 = j by omega] at e
    rw [List.length_cons, List.length_cons, hj, show j + 1 + 1 + 1 - 1 = j + 1 + 1 by omega, nt_cons, nt_cons, List.cons_append, List.cons_append, up, up, e]
theorem nt_app_last (l : List (List Nat)) (x : List Nat) : nt (l ++ [x]) l.length = x := by simp [nt]
theorem nt_app {l m : List (List Nat)} {k : Nat} (h : k < l.length) : nt (l ++ m) k = nt l k := by
  simp [nt, List.getElem?_append_left h]
theorem root_twin {z : List Nat} {l : List (List Nat)} (h : l.length % 2 = 1) (h3 : 1 < l.length) : root J z (l ++ [nt l (l.length - 1)]) = root J z l := by
  rw [root_up J (by rw [List.length_append]; omega), up_twin J h, ← root_up J h3]
theorem twice_twin {l : List (List Nat)} (h : l.length % 2 = 1) : twice J (l ++ [nt l (l.length - 1)]) = true := by
  rw [twice_up J (by rw [List.length_append, List.length_singleton]; omega), Bool.or_eq_true]
  refine .inl ((pairs_iff _).2 ⟨l.length, by rw [List.length_append, List.length_singleton]; omega, h, ?_⟩)
  rw [nt_app_last, nt_app (by omega)]
theorem fold_twin {l : List (List Nat)} (h : l.length % 2 = 1) : fold J (nt l (l.length - 1)) (branch J (l ++ [nt l (l.length - 1)]) l.length) l.length = none := by
  have e := fold_step J (l := l ++ [nt l (l.length - 1)]) (k := l.length) (by rw [List.length_append, List.length_singleton]; omega) (by rw [List.length_append, List.length_singleton]; omega)
  rw [nt_app_last, nt_app (show l.length - 1 < l.length by omega), if_pos ⟨h, rfl⟩] at e
  exact e
def flat : List (List Nat × List Nat) → List (List Nat)
  | [] => []
  | p :: t => p.1 :: p.2 :: flat t
theorem flat_len : ∀ l, (flat l).length = 2 * l.length
  | [] => rfl
  | p :: t => by rw [flat, List.length_cons, List.length_cons, flat_len t, List.length_cons]; omega
theorem flat_app : ∀ l m, flat (l ++ m) = flat l ++ flat m
  | [], m => rfl
  | p :: t, m => by rw [List.cons_append, flat, flat_app t m, flat, List.cons_append, List.cons_append]
theorem up_flat : ∀ l, up J (flat l) = l.map fun p => J p.1 p.2
  | [] => rfl
  | p :: t => by rw [flat, up, up_flat t, List.map_cons]
def pr (l : List (List Nat × List Nat)) (k : Nat) : List Nat × List Nat := l.getD k ([], [])
theorem flat_nt : ∀ (l : List (List Nat × List Nat)) (k : Nat), nt (flat l) (2 * k) = (pr l k).1 ∧ nt (flat l) (2 * k + 1) = (pr l k).2
  | [], k => by simp [nt, flat, pr]
  | p :: t, 0 => by simp [nt, flat, pr]
  | p :: t, k + 1 => by
    have e := flat_nt t k
    rw [flat, show 2 * (k + 1) = 2 * k + 1 + 1 by omega, nt_cons, nt_cons, nt_cons, nt_cons]
    simpa [pr] using e
/-- The branch of one of a pair: its partner, and the branch of what stands above. -/
theorem branch_flat {l : List (List Nat × List Nat)} {k : Nat} (h : k < l.length) (b : Bool) :
    branch J (flat l) (2 * k + (if b then 1 else 0)) = (if b then (pr l k).1 else (pr l k).2) :: branch J (l.map fun p => J p.1 p.2) k := by
  have fl := flat_len l
  rw [branch_up J (by omega), up_flat]
  cases b
  · simp only [Bool.false_eq_true, if_false]
    rw [Nat.add_zero, mate, if_pos (by omega), if_pos (by omega), (flat_nt l k).2, show 2 * k / 2 = k by omega]
  · simp only [if_true]
    rw [mate, if_neg (by omega), show 2 * k + 1 - 1 = 2 * k by omega, (flat_nt l k).1, show (2 * k + 1) / 2 = k by omega]
/-- A branch of one hash only, always at the left. -/
theorem fold_left : ∀ (x h : List Nat) (n : Nat), fold J x (List.replicate n h) 0 ≠ none
  | x, h, 0 => by simp [fold]
  | x, h, n + 1 => by
    rw [List.replicate_succ, fold, if_pos rfl]
    exact fold_left (J x h) h n
end
end Go.Proofs.YtdenibigefchpaaDoor
