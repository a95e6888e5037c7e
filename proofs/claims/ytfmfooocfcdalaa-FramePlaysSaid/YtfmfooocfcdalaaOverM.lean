/- A new row of bytes that is filled with one byte, place by place. No condition. -/
import Derived.Test.YtfmfooocfcdalaaOverL
import Derived.Deep.OwnRows
namespace Go.Proofs.Ytfmfooocfcdalaa
open Go.RowKit

/-- The first k places of a row of N are filled. -/
structure Fill (w0 : World) (g N k : Nat) (wr : World) : Prop where
  blk : ∃ cur : Array Value, wr.heap[g]? = some (.cells cur 5 (0, 0)) ∧ cur.size = N ∧ cur.toList.take k = vals (xs k)
  bel : Below w0.heap.size w0 wr
  lo : w0.heap.size ≤ g
theorem Fill.made {w0 w : World} (b : Below w0.heap.size w0 w) (cur : Array Value) : Fill w0 w.heap.size cur.size 0 (w.alloc (.cells cur 5)) :=
  ⟨⟨cur, World.alloc_heap_new w _, rfl, by simp [vals, xs]⟩, b.alloc b.size _, b.size⟩
theorem Fill.cell {w0 wr : World} {g N k : Nat} (h : Fill w0 g N k wr) (hk : k < N) : ∃ v, wr.cell? ⟨g, k, none⟩ = some v := by
  obtain ⟨cur, h1, h2, _⟩ := h.blk
  exact ⟨cur[k], by simp [World.cell?, h1, Array.getElem?_eq_getElem (show k < cur.size by omega)]⟩
theorem Fill.free {w0 wr : World} {g N k : Nat} (h : Fill w0 g N k wr) (i : Nat) : wr.frozen? ⟨g, i, none⟩ = false := by
  obtain ⟨cur, h1, _⟩ := h.blk
  simp [World.frozen?, h1]
theorem Fill.set {w0 wr : World} {g N k : Nat} (h : Fill w0 g N k wr) (hk : k < N) : Fill w0 g N (k + 1) (wr.setCell ⟨g, k, none⟩ (.int .u8 120)) := by
  obtain ⟨cur, h1, h2, h3⟩ := h.blk
  obtain ⟨hlt, hg⟩ := Array.getElem?_eq_some_iff.1 h1
  refine ⟨⟨cur.setIfInBounds k (.int .u8 120), ?_, by simpa using h2, ?_⟩, h.bel.setCell h.lo _, h.lo⟩
  · show (wr.heap.modify g _)[g]? = _
    rw [Array.getElem?_eq_getElem (by rw [Array.size_modify]; exact hlt), Array.getElem_modify_self, hg]
    rfl
  · have hl : k < cur.toList.length := by simpa using (by omega : k < cur.size)
    rw [Array.toList_setIfInBounds, List.take_succ_eq_append_getElem (by simpa using hl), List.take_set_of_le (Nat.le_refl _), h3]
    simp [vals, xs, List.replicate_succ', byteV]
theorem Fill.reads {w0 wr : World} {g N : Nat} (h : Fill w0 g N N wr) : Bs wr (some ⟨g, 0, none⟩) N (xs N) := by
  obtain ⟨cur, h1, h2, h3⟩ := h.blk
  obtain ⟨hlt, _⟩ := Array.getElem?_eq_some_iff.1 h1
  refine ⟨xs_len N, xs_byt N, fun _ => ⟨_, rfl, hlt, fun k hk => ?_⟩⟩
  have e : (⟨g, 0, none⟩ : Addr).add k = ⟨g, k, none⟩ := by unfold Addr.add; split <;> simp_all
  rw [e]
  have h4 := vals_get (xs N) k (by rw [xs_len]; exact hk)
  rw [← h3, List.getElem?_take, if_pos hk] at h4
  simp only [World.cell?, h1]
  simpa using h4
end Go.Proofs.Ytfmfooocfcdalaa
