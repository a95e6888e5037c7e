/- The rows of a tree of hashes, from below to the one of one hash: its root, a branch, and whether it is doubled, told row by row. No program here. -/
import Derived.Test.YtdenibigefchpaaDoorTree2
namespace Go.Proofs.YtdenibigefchpaaDoor

section
variable (J : List Nat → List Nat → List Nat)
def rowsF : Nat → List (List Nat) → List (List (List Nat))
  | 0, _ => []
  | f + 1, l => if l.length ≤ 1 then [l] else l :: rowsF f (up J l)
def rowsOf (l : List (List Nat)) : List (List (List Nat)) := rowsF J l.length l
theorem rowsF_eq : ∀ (f g : Nat) (l : List (List Nat)), 0 < l.length → l.length ≤ f → l.length ≤ g → rowsF J f l = rowsF J g l
  | 0, _, l, h0, h1, h2 => by omega
  | f + 1, 0, l, h0, h1, h2 => by omega
  | f + 1, g + 1, l, h0, h1, h2 => by
    rw [rowsF, rowsF]
    split
    · rfl
    · exact congrArg _ (rowsF_eq f g _ (by rw [up_len]; omega) (by rw [up_len]; omega) (by rw [up_len]; omega))
theorem rows_nil : rowsOf J [] = [] := rfl
theorem rows_one {l : List (List Nat)} (h : l.length = 1) : rowsOf J l = [l] := by
  unfold rowsOf
  rw [h, rowsF, if_pos (by omega)]
theorem rows_up {l : List (List Nat)} (h : 1 < l.length) : rowsOf J l = l :: rowsOf J (up J l) := by
  unfold rowsOf
  obtain ⟨f, hf⟩ : ∃ f, l.length = f + 1 := ⟨l.length - 1, by omega⟩
  rw [hf, rowsF, if_neg (by omega)]
  exact congrArg _ (rowsF_eq J _ _ _ (by rw [up_len]; omega) (by rw [up_len]; omega) (Nat.le_refl _))
/-- What stands first in the last of rows. -/
def headS (z : List Nat) (rs : List (List (List Nat))) : List Nat := match rs.getLast? with
  | none => z
  | some r => nt r 0
theorem headS_app (z : List Nat) (rs : List (List (List Nat))) (r : List (List Nat)) : headS z (rs ++ [r]) = nt r 0 := by
  unfold headS
  rw [List.getLast?_concat]
theorem headS_rows (z : List Nat) : ∀ (f : Nat) (l : List (List Nat)), l.length ≤ f → 0 < l.length → ∀ p, headS z (p ++ rowsOf J l) = root J z l
  | 0, l, h, h0, p => by omega
  | f + 1, l, h, h0, p => by
    by_cases h1 : l.length = 1
    · rw [rows_one J h1, headS_app, root_short J (by omega)]
      obtain ⟨a, rfl⟩ := List.length_eq_one_iff.1 h1
      rfl
    · rw [rows_up J (by omega), root_up J (by omega)]
      have e := headS_rows z f (up J l) (by rw [up_len]; omega) (by rw [up_len]; omega) (p ++ [l])
      rw [List.append_assoc] at e
      exact e
theorem headS_all (z : List Nat) (l : List (List Nat)) : headS z (rowsOf J l) = root J z l := by
  by_cases h : 0 < l.length
  · exact headS_rows J z _ l (Nat.le_refl _) h []
  · obtain rfl := List.eq_nil_of_length_eq_zero (by omega : l.length = 0)
    rw [root_short J (by decide)]
    rfl
/-- The partners in rows, from the k-th of the first one on. -/
def matesOf : List (List (List Nat)) → Nat → List (List Nat)
  | [], _ => []
  | r :: t, k => (if 1 < r.length then [mate r k] else []) ++ matesOf t (k / 2)
theorem matesOf_app : ∀ (p : List (List (List Nat))) (r : List (List Nat)) (k : Nat), matesOf (p ++ [r]) k = matesOf p k ++ (if 1 < r.length then [mate r (k / 2 ^ p.length)] else [])
  | [], r, k => by simp [matesOf]
  | q :: t, r, k => by
    rw [List.cons_append, matesOf, matesOf_app t r (k / 2), matesOf, List.append_assoc, List.length_cons, Nat.div_div_eq_div_mul, Nat.pow_succ, Nat.mul_comm (2 ^ t.length) 2]
theorem mates_rows : ∀ (f : Nat) (l : List (List Nat)), l.length ≤ f → ∀ k, matesOf (rowsOf J l) k = branch J l k
  | 0, l, h, k => by
    obtain rfl := List.eq_nil_of_length_eq_zero (by omega : l.length = 0)
    rw [branch_short J (by decide)]
    rfl
  | f + 1, l, h, k => by
    by_cases h1 : 1 < l.length
    · rw [rows_up J h1, branch_up J h1, matesOf, if_pos h1, mates_rows f _ (by rw [up_len]; omega)]
      rfl
    · rw [branch_short J (by omega)]
      by_cases h0 : l.length = 1
      · rw [rows_one J h0, matesOf, if_neg h1]
        rfl
      · obtain rfl := List.eq_nil_of_length_eq_zero (by omega : l.length = 0)
        rfl
/-- Whether one of rows has two that are the same. -/
def anyPairs (rs : List (List (List Nat))) : Bool := rs.any pairs
theorem pairs_short {l : List (List Nat)} (h : l.length ≤ 1) : pairs l = false := by
  match l, h with
  | [], _ => rfl
  | [a], _ => rfl
  | _ :: _ :: _, h => simp at h
theorem any_rows : ∀ (f : Nat) (l : List (List Nat)), l.length ≤ f → anyPairs (rowsOf J l) = twice J l
  | 0, l, h => by
    obtain rfl := List.eq_nil_of_length_eq_zero (by omega : l.length = 0)
    rw [twice_short J (by decide)]
    rfl
  | f + 1, l, h => by
    by_cases h1 : 1 < l.length
    · rw [rows_up J h1, twice_up J h1, anyPairs, List.any_cons]
      have := any_rows f (up J l) (by rw [up_len]; omega)
      rw [anyPairs] at this
      rw [this]
    · rw [twice_short J (by omega)]
      by_cases h0 : l.length = 1
      · rw [rows_one J h0, anyPairs, List.any_cons, List.any_nil, pairs_short (by omega)]
        rfl
      · obtain rfl := List.eq_nil_of_length_eq_zero (by omega : l.length = 0)
        rfl
theorem rows_len : ∀ (f d : Nat) (l : List (List Nat)), l.length ≤ f → l.length ≤ 2 ^ d → (rowsOf J l).length ≤ d + 1
  | 0, d, l, h, _ => by
    obtain rfl := List.eq_nil_of_length_eq_zero (by omega : l.length = 0)
    simp [rowsOf, rowsF]
  | f + 1, d, l, h, h2 => by
    by_cases h1 : 1 < l.length
    · cases d with
      | zero => simp at h2; omega
      | succ d =>
        rw [rows_up J h1, List.length_cons]
        have := rows_len f d (up J l) (by rw [up_len]; omega) (by rw [up_len]; rw [Nat.pow_succ] at h2; omega)
        omega
    · by_cases h0 : l.length = 1
      · rw [rows_one J h0]; simp
      · obtain rfl := List.eq_nil_of_length_eq_zero (by omega : l.length = 0)
        simp [rowsOf, rowsF]
end
end Go.Proofs.YtdenibigefchpaaDoor
