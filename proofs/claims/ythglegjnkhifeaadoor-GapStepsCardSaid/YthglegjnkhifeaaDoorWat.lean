/- How many scripts are watched, over lists of numbers. No program here. -/
import Derived.Test.YthglegjnkhifeaaDoorB
namespace Go.Proofs.YthglegjnkhifeaaDoor

/-- None of U lies within the last g of n. -/
def cleanAt (U : List Int) (g n : Int) : Bool := U.all fun u => !(decide (0 ≤ u) && decide (u < n) && decide (n - g ≤ u))
theorem clean_iff {U : List Int} {g n : Int} : cleanAt U g n = true ↔ ∀ u ∈ U, ¬ (0 ≤ u ∧ u < n ∧ n - g ≤ u) := by
  unfold cleanAt
  rw [List.all_eq_true]
  constructor
  · intro h u hu
    have := h u hu
    simp only [Bool.not_eq_true', Bool.and_eq_false_iff, decide_eq_false_iff_not] at this
    omega
  · intro h u hu
    have := h u hu
    simp only [Bool.not_eq_true', Bool.and_eq_false_iff, decide_eq_false_iff_not]
    omega
def watF (U : List Int) (g : Int) : Nat → Nat → Nat
  | 0, n => n
  | f + 1, n => if g ≤ (n : Int) ∧ cleanAt U g n = true then n else watF U g f (n + 1)
def watchS (U : List Int) (g : Int) : Nat := watF U g 200 0
def watFrom (U : List Int) (g : Int) (n : Nat) : Nat := watF U g (200 - n) n
theorem watFrom_stop {U : List Int} {g : Int} {n : Nat} (hn : n < 200) (h : g ≤ (n : Int)) (hc : cleanAt U g n = true) : watFrom U g n = n := by
  unfold watFrom
  obtain ⟨f, hf⟩ : ∃ f, 200 - n = f + 1 := ⟨199 - n, by omega⟩
  rw [hf, watF, if_pos ⟨h, hc⟩]
theorem watFrom_next {U : List Int} {g : Int} {n : Nat} (hn : n < 200) (h : ¬ (g ≤ (n : Int) ∧ cleanAt U g n = true)) : watFrom U g n = watFrom U g (n + 1) := by
  unfold watFrom
  obtain ⟨f, hf⟩ : ∃ f, 200 - n = f + 1 := ⟨199 - n, by omega⟩
  rw [hf, watF, if_neg h, show 200 - (n + 1) = f by omega]
theorem watFrom_end {U : List Int} {g : Int} : watFrom U g 200 = 200 := rfl
theorem watchS_from {U : List Int} {g : Int} : ∀ n : Nat, n ≤ 200 → (n : Int) ≤ g → watchS U g = watFrom U g n
  | 0, _, _ => rfl
  | n + 1, h1, h2 => by
    rw [watchS_from n (by omega) (by omega), watFrom_next (by omega) (by omega)]
/-- What is watched. -/
theorem watch_spec (U : List Int) (g : Int) : watchS U g ≤ 200 ∧ (∀ m : Nat, m < watchS U g → ¬ (g ≤ (m : Int) ∧ cleanAt U g m = true)) ∧ (watchS U g < 200 → g ≤ (watchS U g : Int) ∧ cleanAt U g (watchS U g : Nat) = true) := by
  have key : ∀ f n : Nat, n + f = 200 → watF U g f n ≤ 200 ∧ n ≤ watF U g f n ∧ (∀ m : Nat, n ≤ m → m < watF U g f n → ¬ (g ≤ (m : Int) ∧ cleanAt U g m = true)) ∧ (watF U g f n < 200 → g ≤ (watF U g f n : Int) ∧ cleanAt U g (watF U g f n : Nat) = true) := by
    intro f
    induction f with
    | zero => intro n h; exact ⟨by rw [watF]; omega, Nat.le_refl _, fun m h1 h2 => by rw [watF] at h2; omega, fun h2 => by rw [watF] at h2; omega⟩
    | succ f ih =>
      intro n h
      by_cases hc : g ≤ (n : Int) ∧ cleanAt U g n = true
      · have e : watF U g (f + 1) n = n := by rw [watF, if_pos hc]
        rw [e]
        exact ⟨by omega, Nat.le_refl _, fun m h1 h2 => by omega, fun _ => hc⟩
      · have e : watF U g (f + 1) n = watF U g f (n + 1) := by rw [watF, if_neg hc]
        rw [e]
        obtain ⟨h1, h2, h3, h4⟩ := ih (n + 1) (by omega)
        refine ⟨h1, by omega, fun m m1 m2 => ?_, h4⟩
        by_cases hm : m = n
        · subst hm; exact hc
        · exact h3 m (by omega) m2
  obtain ⟨h1, _, h3, h4⟩ := key 200 0 rfl
  exact ⟨h1, fun m h => h3 m (Nat.zero_le _) h, h4⟩
theorem watch_uniq {U : List Int} {g : Int} {n : Nat} (h1 : n ≤ 200) (h2 : ∀ m : Nat, m < n → ¬ (g ≤ (m : Int) ∧ cleanAt U g m = true)) (h3 : n < 200 → g ≤ (n : Int) ∧ cleanAt U g n = true) : watchS U g = n := by
  obtain ⟨a, b, c⟩ := watch_spec U g
  rcases Nat.lt_trichotomy (watchS U g) n with h | h | h
  · exact absurd (c (by omega)) (h2 _ h)
  · exact h
  · exact absurd (h3 (by omega)) (b _ h)
/-- F numbers, next to n and below it, are not used; and no more of them. -/
structure FreeAt (U : List Int) (n F : Nat) : Prop where
  le : F ≤ n
  no : ∀ i : Int, (n : Int) - F ≤ i → i < n → i ∉ U
  end_ : F = n ∨ ((n : Int) - F - 1) ∈ U
theorem free_zero (U : List Int) : FreeAt U 0 0 := ⟨Nat.le_refl _, fun i h1 h2 => by omega, .inl rfl⟩
theorem free_more {U : List Int} {n F : Nat} (h : FreeAt U n F) (hn : (n : Int) ∉ U) : FreeAt U (n + 1) (F + 1) :=
  ⟨by have := h.le; omega, fun i h1 h2 => by
    by_cases e : i = (n : Int)
    · rw [e]; exact hn
    · exact h.no i (by omega) (by omega), by
    rcases h.end_ with e | e
    · exact .inl (by omega)
    · refine .inr ?_
      rwa [show ((n + 1 : Nat) : Int) - ((F + 1 : Nat) : Int) - 1 = (n : Int) - F - 1 by omega]⟩
theorem free_none {U : List Int} {n : Nat} (hn : (n : Int) ∈ U) : FreeAt U (n + 1) 0 :=
  ⟨Nat.zero_le _, fun i h1 h2 => by omega, .inr (by rwa [show ((n + 1 : Nat) : Int) - ((0 : Nat) : Int) - 1 = (n : Int) by omega])⟩
theorem free_clean {U : List Int} {n F : Nat} {g : Int} (h : FreeAt U n F) (hg : 1 ≤ g) (hn : g ≤ (n : Int)) : cleanAt U g n = true ↔ g ≤ (F : Int) := by
  rw [clean_iff]
  have hle := h.le
  constructor
  · intro hc
    rcases h.end_ with e | e
    · omega
    · by_cases q : g ≤ (F : Int)
      · exact q
      · exact absurd ⟨by omega, by omega, by omega⟩ (hc _ e)
  · intro hf u hu hq
    exact h.no u (by omega) (by omega) hu
end Go.Proofs.YthglegjnkhifeaaDoor
