/- Branch, Fold and their references whatever the number is. No condition but that the tables lie as laid. -/
import Derived.Test.YtdenibigefchpaaDoorWorks
import Derived.Test.YtdenibigefchpaaDoorRefFoldE
namespace Go.Proofs.YtdenibigefchpaaDoor
open Go.RowKit

open Classical in
noncomputable def brS (l : List (List Nat)) (k : Int) : List (List Nat) := if 0 ≤ k ∧ k < l.length then branch joinS l k.toNat else []
open Classical in
noncomputable def brE (l : List (List Nat)) (k : Int) : Int := if 0 ≤ k ∧ k < l.length then 0 else 1
theorem branchC_any {A : Option Addr} {n c : Nat} {k : Int} {l : List (List Nat)} (w : World) (hLd : Laid w) (hn : n ≤ 1000000) (hL : Gs w A n l) : Calls Tryd.prog 10 #[.slice A n c, .int .i64 k] w fun e w' => ∃ B m d, e = .returned (.tuple #[.slice B m d, .int .i64 (brE l k)]) ∧ Gs w' B m (brS l k) ∧ Below w.heap.size w w' := by
  unfold brS brE
  by_cases h : 0 ≤ k ∧ k < l.length
  · rw [if_pos h, if_pos h]
    obtain ⟨q, rfl⟩ : ∃ q : Nat, k = (q : Int) := ⟨k.toNat, by omega⟩
    rw [Int.toNat_natCast]
    refine (branch_any w hLd hn (by have := hL.len; omega) hL).mono ?_
    rintro e w' ⟨B, m, d, rfl, O⟩
    exact ⟨B, m, d, rfl, O.reads, O.bel⟩
  · rw [if_neg h, if_neg h]
    refine (branch_bad w (by have := hL.len; omega)).mono ?_
    rintro e w' ⟨rfl, b⟩
    exact ⟨_, _, _, rfl, Gs.nil _ _, b⟩
theorem refBranchC_any {A : Option Addr} {n c : Nat} {k : Int} {l : List (List Nat)} (w : World) (hn : n ≤ 1000000) (hL : Gs w A n l) : Calls Tryd.prog 11 #[.slice A n c, .int .i64 k] w fun e w' => ∃ B m d, e = .returned (.tuple #[.slice B m d, .int .i64 (brE l k)]) ∧ Gs w' B m (brS l k) ∧ Below w.heap.size w w' := by
  unfold brS brE
  by_cases h : 0 ≤ k ∧ k < l.length
  · rw [if_pos h, if_pos h]
    obtain ⟨q, rfl⟩ : ∃ q : Nat, k = (q : Int) := ⟨k.toNat, by omega⟩
    rw [Int.toNat_natCast]
    refine (refBranch_any w hn (by have := hL.len; omega) hL).mono ?_
    rintro e w' ⟨B, m, d, rfl, O⟩
    exact ⟨B, m, d, rfl, O.reads, O.bel⟩
  · rw [if_neg h, if_neg h]
    refine (refBranch_bad w (by have := hL.len; omega)).mono ?_
    rintro e w' ⟨rfl, b⟩
    exact ⟨_, _, _, rfl, Gs.nil _ _, b⟩
theorem brS_len {l : List (List Nat)} {k : Int} (h : l.length ≤ 1000000) : (brS l k).length ≤ 20 := by
  unfold brS
  split
  · exact branch_len joinS _ 20 l _ (Nat.le_refl _) (by omega)
  · simp
theorem fold_ok : ∀ (l : List (List Nat)) (x : List Nat) (k : Nat), (x.length = 32 ∧ AllB x) → ∀ r, fold joinS x l k = some r → r.length = 32 ∧ AllB r
  | [], x, k, hx, r, e => by
    rw [fold] at e
    injection e with e
    subst e
    exact hx
  | h :: t, x, k, hx, r, e => by
    rw [fold] at e
    split at e
    · exact fold_ok t _ _ (joinS_ok _ _) r e
    · split at e
      · cases e
      · exact fold_ok t _ _ (joinS_ok _ _) r e
theorem foldV_ok {l : List (List Nat)} {x : List Nat} {k : Nat} (hx : x.length = 32 ∧ AllB x) : (foldV (fold joinS x l k)).length = 32 ∧ AllB (foldV (fold joinS x l k)) := by
  cases e : fold joinS x l k with
  | none => exact z32_ok
  | some r => exact fold_ok l x k hx r e
open Classical in
noncomputable def flV (x : List Nat) (l : List (List Nat)) (k : Int) : List Nat := if 32 < l.length ∨ k < 0 ∨ 0 < k / 2 ^ l.length then z32 else foldV (fold joinS x l k.toNat)
open Classical in
noncomputable def flE (x : List Nat) (l : List (List Nat)) (k : Int) : Int := if 32 < l.length then 6 else if k < 0 ∨ 0 < k / 2 ^ l.length then 1 else (foldE (fold joinS x l k.toNat) : Nat)
theorem flV_ok {x : List Nat} {l : List (List Nat)} {k : Int} (hx : x.length = 32 ∧ AllB x) : (flV x l k).length = 32 ∧ AllB (flV x l k) := by
  unfold flV
  split
  · exact z32_ok
  · exact foldV_ok hx
theorem fl_zero {k : Int} {n : Nat} (h0 : ¬ k < 0) (h : ¬ 0 < k / 2 ^ n) : k / 2 ^ n = 0 := by
  have h1 : 0 ≤ k / 2 ^ n := Int.ediv_nonneg (by omega) (Int.pow_nonneg (by decide))
  omega
theorem foldC_any {A : Option Addr} {n c : Nat} {k : Int} {x : List Nat} {l : List (List Nat)} (w : World) (hLd : Laid w) (ox : x.length = 32 ∧ AllB x) (hk : k ≤ 9223372036854775807) (hL : Gs w A n l) :
    Calls Tryd.prog 19 #[.agg (vals x).toArray, .slice A n c, .int .i64 k] w fun e w' => e = .returned (.tuple #[.agg (vals (flV x l k)).toArray, .int .i64 (flE x l k)]) ∧ Below w.heap.size w w' := by
  have hl := hL.len
  unfold flV flE
  rw [hl]
  by_cases h1 : 32 < n
  · rw [if_pos (.inl h1), if_pos h1]
    exact fold_many w h1
  by_cases h2 : k < 0
  · rw [if_pos (.inr (.inl h2)), if_neg h1, if_pos (.inl h2)]
    exact fold_neg w (by omega) h2
  by_cases h3 : 0 < k / 2 ^ n
  · rw [if_pos (.inr (.inr h3)), if_neg h1, if_pos (.inr h3)]
    exact fold_far w (by omega) h2 h3
  · rw [if_neg (by rintro (h | h | h); exact h1 h; exact h2 h; exact h3 h), if_neg h1, if_neg (by rintro (h | h); exact h2 h; exact h3 h)]
    have hz := fl_zero h2 h3
    obtain ⟨q, rfl⟩ : ∃ q : Nat, k = (q : Int) := ⟨k.toNat, by omega⟩
    rw [Int.toNat_natCast]
    exact fold_any w hLd ox (by omega) (by omega) hz hL
theorem refFoldC_any {A : Option Addr} {n c : Nat} {k : Int} {x : List Nat} {l : List (List Nat)} (w : World) (ox : x.length = 32 ∧ AllB x) (hk : k ≤ 9223372036854775807) (hL : Gs w A n l) :
    Calls Tryd.prog 20 #[.agg (vals x).toArray, .slice A n c, .int .i64 k] w fun e w' => e = .returned (.tuple #[.agg (vals (flV x l k)).toArray, .int .i64 (flE x l k)]) ∧ Below w.heap.size w w' := by
  have hl := hL.len
  unfold flV flE
  rw [hl]
  by_cases h1 : 32 < n
  · rw [if_pos (.inl h1), if_pos h1]
    exact refFold_many w h1
  by_cases h2 : k < 0
  · rw [if_pos (.inr (.inl h2)), if_neg h1, if_pos (.inl h2)]
    exact refFold_neg w (by omega) h2
  by_cases h3 : 0 < k / 2 ^ n
  · rw [if_pos (.inr (.inr h3)), if_neg h1, if_pos (.inr h3)]
    exact refFold_far w (by omega) h2 h3
  · rw [if_neg (by rintro (h | h | h); exact h1 h; exact h2 h; exact h3 h), if_neg h1, if_neg (by rintro (h | h); exact h2 h; exact h3 h)]
    have hz := fl_zero h2 h3
    obtain ⟨q, rfl⟩ : ∃ q : Nat, k = (q : Int) := ⟨k.toNat, by omega⟩
    rw [Int.toNat_natCast]
    exact refFold_any w ox (by omega) (by omega) hz hL
theorem up_ok : ∀ l : List (List Nat), OkG (up joinS l)
  | [] => okG_nil
  | [_] => okG_one (joinS_ok _ _)
  | _ :: _ :: t => OkG.app (a := [joinS _ _]) (okG_one (joinS_ok _ _)) (up_ok t)
theorem root_ok : ∀ (f : Nat) (l : List (List Nat)), l.length ≤ f → OkG l → (root joinS z32 l).length = 32 ∧ AllB (root joinS z32 l)
  | 0, l, h, _ => by
    obtain rfl := List.eq_nil_of_length_eq_zero (by omega : l.length = 0)
    exact z32_ok
  | f + 1, l, h, o => by
    by_cases h1 : 1 < l.length
    · rw [root_up joinS h1]
      exact root_ok f _ (by rw [up_len]; omega) (up_ok l)
    · rw [root_short joinS (by omega)]
      match l, o with
      | [], _ => exact z32_ok
      | a :: t, o => exact o.head
end Go.Proofs.YtdenibigefchpaaDoor
