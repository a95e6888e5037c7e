/- FrameOver's lists: a head with its end; a long line, in two parts. No condition. -/
import Derived.Test.YtfmfooocfcdalaaFOver
namespace Go.Proofs.Ytfmfooocfcdalaa

/-- Few bytes are never too many. -/
theorem feedS_few : ∀ (L M : List Nat) (ls : List (List Nat)), M.length + L.length ≤ 65536 → (feedS (ls, M, false) L).2.2 = false ∧ ls.length ≤ (feedS (ls, M, false) L).1.length
  | [], M, ls, _ => ⟨rfl, Nat.le_refl _⟩
  | x :: l, M, ls, h => by
    simp only [List.length_cons] at h
    show (feedS (stepB (ls, M, false) x) l).2.2 = false ∧ _ ≤ (feedS (stepB (ls, M, false) x) l).1.length
    unfold stepB
    rw [if_neg (by simp)]
    by_cases hx : x = 10
    · rw [if_pos hx]
      have := feedS_few l [] (ls ++ [M]) (by simp; omega)
      exact ⟨this.1, Nat.le_trans (by simp) this.2⟩
    · rw [if_neg hx, if_neg (by show ¬ M.length = 65536; omega)]
      exact feedS_few l (M ++ [x]) ls (by simp; omega)
theorem feedS_head {L : List Nat} (h : L.length ≤ 4096) : ∃ ls, feedS ([], [], false) (L ++ [10]) = (ls, [], false) ∧ 0 < ls.length := by
  have h1 := feedS_few L [] [] (by simp; omega)
  obtain ⟨⟨ls, M, ov⟩, e⟩ : ∃ st, feedS ([], [], false) L = st := ⟨_, rfl⟩
  rw [feedS_app, e]
  rw [e] at h1
  obtain rfl : ov = false := h1.1
  exact ⟨ls ++ [M], by simp [feedS, stepB], by simp⟩

def xs (n : Nat) : List Nat := List.replicate n 120
theorem xs_len (n : Nat) : (xs n).length = n := by simp [xs]
theorem xs_mem {n y : Nat} (h : y ∈ xs n) : y = 120 := List.eq_of_mem_replicate h
theorem xs_byt (n : Nat) : AllB (xs n) := fun x hx => by rw [xs_mem hx]; decide
theorem xs_take {n k : Nat} (h : k ≤ n) : (xs n).take k = xs k := by simp [xs, List.take_replicate, Nat.min_eq_left h]
theorem xs_drop (n k : Nat) : (xs n).drop k = xs (n - k) := by simp [xs]
theorem xs_app (a b : Nat) : xs a ++ xs b = xs (a + b) := by simp [xs, List.replicate_append_replicate]
theorem feed_xs_room {k : Nat} (h : k ≤ 65536) : feedS ([], [], false) (xs k) = ([], xs k, false) := by
  have := feedS_room [] (xs k) [] (fun y hy => by rw [xs_mem hy]; decide) (by rw [xs_len]; simpa using h)
  simpa using this
theorem feed_xs_full {k : Nat} (h : 65536 < k) : feedS ([], [], false) (xs k) = ([], [], true) :=
  feedS_full [] (xs k) [] (fun y hy => by rw [xs_mem hy]; decide) (by simp) (by rw [xs_len]; simpa using h)
theorem feed_xs_line {k n : Nat} (hk : k ≤ n) (h : n ≤ 65536) : feedS ([], xs k, false) (xs (n - k) ++ [10]) = ([xs n], [], false) := by
  rw [feedS_app, feedS_room [] (xs (n - k)) (xs k) (fun y hy => by rw [xs_mem hy]; decide) (by rw [xs_len, xs_len]; omega), xs_app, show k + (n - k) = n by omega]
  rfl
theorem feed_xs_over {k n : Nat} (hk : k ≤ 65536) (h : 65536 < n) : feedS ([], xs k, false) (xs (n - k) ++ [10]) = ([], [], true) := by
  rw [feedS_app, feedS_full [] (xs (n - k)) (xs k) (fun y hy => by rw [xs_mem hy]; decide) (by rw [xs_len]; exact hk) (by rw [xs_len, xs_len]; omega), feedS_over]
end Go.Proofs.Ytfmfooocfcdalaa
