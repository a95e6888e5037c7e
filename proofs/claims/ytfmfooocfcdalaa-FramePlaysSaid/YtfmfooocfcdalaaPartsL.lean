/- FrameParts' lists: lines, their ends and what is held are all bytes; no end stands within a line. No condition. -/
import Derived.Test.YtfmfooocfcdalaaTold2
namespace Go.Proofs.Ytfmfooocfcdalaa

/-- Lines with their ends. -/
def ends : List (List Nat) → List Nat
  | [] => []
  | l :: ls => l ++ 10 :: ends ls
theorem ends_snoc : ∀ (ls : List (List Nat)) (l : List Nat), ends (ls ++ [l]) = ends ls ++ l ++ [10]
  | [], l => by simp [ends]
  | k :: ls, l => by
    show k ++ 10 :: ends (ls ++ [l]) = k ++ 10 :: ends ls ++ l ++ [10]
    rw [ends_snoc ls l]
    simp
theorem feedS_back : ∀ (L : List Nat) (ls : List (List Nat)) (M : List Nat) (ks : List (List Nat)) (N : List Nat), feedS (ls, M, false) L = (ks, N, false) → ends ks ++ N = ends ls ++ M ++ L
  | [], ls, M, ks, N, h => by
    simp only [feedS, List.foldl_nil, Prod.mk.injEq, and_true] at h
    rw [h.1, h.2, List.append_nil]
  | x :: l, ls, M, ks, N, h => by
    have h' : feedS (stepB (ls, M, false) x) l = (ks, N, false) := h
    unfold stepB at h'
    rw [if_neg (by simp)] at h'
    by_cases hx : x = 10
    · rw [if_pos hx] at h'
      rw [feedS_back l _ _ ks N h', ends_snoc, hx]
      simp
    · rw [if_neg hx] at h'
      by_cases hf : M.length = 65536
      · rw [if_pos hf, feedS_over] at h'
        simp at h'
      · rw [if_neg hf] at h'
        rw [feedS_back l _ _ ks N h']
        simp
theorem feedS_clean : ∀ (L : List Nat) (st : St), (∀ l ∈ st.1, ∀ y ∈ l, y ≠ 10) → (∀ y ∈ st.2.1, y ≠ 10) → ∀ l ∈ (feedS st L).1, ∀ y ∈ l, y ≠ 10
  | [], st, h1, _ => h1
  | x :: l, st, h1, h2 => by
    show ∀ k ∈ (feedS (stepB st x) l).1, ∀ y ∈ k, y ≠ 10
    have key : (∀ k ∈ (stepB st x).1, ∀ y ∈ k, y ≠ 10) ∧ (∀ y ∈ (stepB st x).2.1, y ≠ 10) := by
      unfold stepB
      split
      · exact ⟨h1, h2⟩
      · split
        · refine ⟨fun k hk => ?_, fun y hy => by cases hy⟩
          rcases List.mem_append.1 hk with hk | hk
          · exact h1 k hk
          · obtain rfl := List.mem_singleton.1 hk
            exact h2
        · rename_i hx
          split
          · exact ⟨h1, fun y hy => by cases hy⟩
          · refine ⟨h1, fun y hy => ?_⟩
            rcases List.mem_append.1 hy with hy | hy
            · exact h2 y hy
            · obtain rfl := List.mem_singleton.1 hy
              exact hx
    exact feedS_clean l _ key.1 key.2
end Go.Proofs.Ytfmfooocfcdalaa
