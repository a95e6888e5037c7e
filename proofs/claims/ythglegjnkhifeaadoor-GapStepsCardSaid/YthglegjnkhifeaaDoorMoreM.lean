/- How many are watched: one more number, the same the other way round; rows of ints of a literal. No condition. -/
import Derived.Test.YthglegjnkhifeaaDoorWorks
namespace Go.Proofs.YthglegjnkhifeaaDoor
open Go.RowKit

theorem clean_cons {U : List Int} {x g n : Int} (h : cleanAt (x :: U) g n = true) : cleanAt U g n = true := by
  rw [clean_iff] at h ⊢
  exact fun u hu => h u (List.mem_cons_of_mem _ hu)
theorem watch_more (U : List Int) (x g : Int) : watchS U g ≤ watchS (x :: U) g := by
  obtain ⟨a1, a2, a3⟩ := watch_spec U g
  obtain ⟨b1, b2, b3⟩ := watch_spec (x :: U) g
  rcases Nat.lt_or_ge (watchS (x :: U) g) (watchS U g) with h | h
  · have := b3 (by omega)
    exact absurd ⟨this.1, clean_cons this.2⟩ (a2 _ h)
  · exact h
/-- The same numbers, in whatever order and how often. -/
theorem watch_mem {U V : List Int} {g : Int} (h : ∀ x, x ∈ U ↔ x ∈ V) : watchS U g = watchS V g := by
  have hc : ∀ n, cleanAt U g n = true ↔ cleanAt V g n = true := fun n => by
    rw [clean_iff, clean_iff]
    exact ⟨fun k u hu => k u ((h u).2 hu), fun k u hu => k u ((h u).1 hu)⟩
  obtain ⟨b1, b2, b3⟩ := watch_spec V g
  exact watch_uniq b1 (fun m hm hq => b2 m hm ⟨hq.1, (hc _).1 hq.2⟩) (fun hm => ⟨(b3 hm).1, (hc _).2 (b3 hm).2⟩)
theorem watch_rev (U : List Int) (g : Int) : watchS U.reverse g = watchS U g := watch_mem fun x => List.mem_reverse
/-- One that is not watched turns nothing. -/
theorem watch_out {U : List Int} {x g : Int} (h : ¬ (0 ≤ x ∧ x < (watchS U g : Nat))) : watchS (x :: U) g = watchS U g := by
  obtain ⟨a1, a2, a3⟩ := watch_spec U g
  refine watch_uniq a1 (fun m hm hq => a2 m hm ⟨hq.1, clean_cons hq.2⟩) (fun hm => ⟨(a3 hm).1, ?_⟩)
  have hc := (a3 hm).2
  rw [clean_iff] at hc ⊢
  intro u hu
  rcases List.mem_cons.1 hu with rfl | hu
  · omega
  · exact hc u hu
theorem watch_out_end {U : List Int} {x g : Int} (h : ¬ (0 ≤ x ∧ x < (watchS U g : Nat))) : watchS (U ++ [x]) g = watchS U g :=
  (watch_mem fun y => by simp [or_comm]).trans (watch_out h)
theorem watch_in_end {U : List Int} {x g : Int} (h : x ∈ U) : watchS (U ++ [x]) g = watchS U g := watch_mem fun y => by
  simp only [List.mem_append, List.mem_singleton]
  exact ⟨fun k => k.elim id fun e => by rw [e]; exact h, .inl⟩
theorem OwnI.lit1 {w0 w : World} (b : Below w0.heap.size w0 w) {x : Int} (h : -9223372036854775808 ≤ x ∧ x ≤ 9223372036854775807) : OwnI w0 (.slice (some ⟨w.heap.size, 0, none⟩) 1 1) 1 [x] (w.alloc (.cells #[.int .i64 x] 3)) :=
  ⟨⟨rfl, .inr ⟨w.heap.size, 1, #[.int .i64 x], rfl, b.size, heap_alloc_new w _, Nat.le_refl _, by unfold maxLen; omega, rfl, rfl⟩⟩, okI_one h, b.alloc b.size _⟩
theorem drop_ith {L : List Int} {q : Nat} (h : q < L.length) : (L.drop q).reverse = (L.drop (q + 1)).reverse ++ [ith L q] := by
  rw [List.drop_eq_getElem_cons h, List.reverse_cons, ith_get h]
end Go.Proofs.YthglegjnkhifeaaDoor
