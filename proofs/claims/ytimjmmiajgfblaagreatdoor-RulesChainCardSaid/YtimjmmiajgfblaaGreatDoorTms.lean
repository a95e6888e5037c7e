/- A row of times in memory whose elements are turned in place. No condition. -/
import Derived.Test.YtimjmmiajgfblaaGreatDoorGab
import Derived.Test.YtimjmmiajgfblaaGreatDoorGaa
import Derived.Deep.OwnRows

namespace Go.Proofs.YtimjmmiajgfblaaGreatDoor
open Go.RowKit

/-- Block g, of c words, begins with L; of what lay in w0 nothing has turned. -/
structure Tw (w0 : World) (g c : Nat) (L : List Nat) (wr : World) : Prop where
  blk : ∃ cur : Array Value, wr.heap[g]? = some (.cells cur 22 (0, 0)) ∧ cur.size = c ∧ cur.toList.take L.length = u32s L
  cap : L.length ≤ c
  bel : Below w0.heap.size w0 wr
  lo : w0.heap.size ≤ g
theorem Tw.lt {w0 wr : World} {g c : Nat} {L : List Nat} (h : Tw w0 g c L wr) : g < wr.heap.size := by
  obtain ⟨cur, h1, _⟩ := h.blk
  exact (Array.getElem?_eq_some_iff.1 h1).1
theorem Tw.cell {w0 wr : World} {g c k : Nat} {L : List Nat} (h : Tw w0 g c L wr) (hk : k < L.length) : wr.cell? ⟨g, k, none⟩ = some (.int .u32 (nth L k : Nat)) := by
  obtain ⟨cur, h1, h2, h3⟩ := h.blk
  have h4 := u32s_get L k hk
  rw [← h3, List.getElem?_take, if_pos hk] at h4
  simp only [World.cell?, h1]
  simpa using h4
theorem Tw.free {w0 wr : World} {g c : Nat} {L : List Nat} (h : Tw w0 g c L wr) (i : Nat) : wr.frozen? ⟨g, i, none⟩ = false := by
  obtain ⟨cur, h1, _⟩ := h.blk
  simp [World.frozen?, h1]
theorem Tw.later {w0 wr w1 : World} {g c : Nat} {L : List Nat} (h : Tw w0 g c L wr) (b : Below wr.heap.size wr w1) : Tw w0 g c L w1 := by
  obtain ⟨cur, h1, h2, h3⟩ := h.blk
  exact ⟨⟨cur, (b.block g h.lt).trans h1, h2, h3⟩, h.cap, h.bel.trans (b.mono h.bel.size), h.lo⟩
theorem Tw.set {w0 wr : World} {g c k : Nat} {L : List Nat} (h : Tw w0 g c L wr) (hk : k < L.length) (x : Nat) : Tw w0 g c (L.set k x) (wr.setCell ⟨g, k, none⟩ (.int .u32 (x : Nat))) := by
  obtain ⟨cur, h1, h2, h3⟩ := h.blk
  obtain ⟨hlt, hg⟩ := Array.getElem?_eq_some_iff.1 h1
  have hc := h.cap
  refine ⟨⟨cur.setIfInBounds k (.int .u32 (x : Nat)), ?_, by simpa using h2, ?_⟩, by simpa using h.cap, h.bel.setCell h.lo _, h.lo⟩
  · show (wr.heap.modify g _)[g]? = _
    rw [Array.getElem?_eq_getElem (by rw [Array.size_modify]; exact hlt), Array.getElem_modify_self, hg]
    rfl
  · rw [Array.toList_setIfInBounds, List.length_set, List.take_set, h3]
    simp [u32s, List.map_set, u32v]
theorem Tw.eq {w0 wr : World} {g c : Nat} {L M : List Nat} (h : Tw w0 g c L wr) (e : L = M) : Tw w0 g c M wr := e ▸ h
theorem Wn.tw {w0 wr : World} {v : Value} {n : Nat} {L : List Nat} (h : Wn w0 v n L wr) (hn : 0 < n) : ∃ g c, v = .slice (some ⟨g, 0, none⟩) n c ∧ n ≤ c ∧ c ≤ maxLen ∧ Tw w0 g c L wr := by
  have hl := h.len
  rcases h.row.2 with ⟨rfl, rfl⟩ | ⟨g, cap, cur, rfl, hg, hw, hn', hm, hs, ht⟩
  · omega
  · refine ⟨g, cap, rfl, hn', hm, ⟨⟨cur, hw, by omega, ?_⟩, by omega, h.bel, hg⟩⟩
    rw [hl]
    simpa using ht
theorem Tw.wn {w0 wr : World} {g c n : Nat} {L : List Nat} (h : Tw w0 g c L wr) (hn : L.length = n) (hm : c ≤ maxLen) : Wn w0 (.slice (some ⟨g, 0, none⟩) n c) n L wr := by
  obtain ⟨cur, h1, h2, h3⟩ := h.blk
  subst hn
  exact Wn.full h.bel L trivial c hm cur h2 h.cap h3 h.lo h1

/-- What an insertion under way has: the first j of A, then x, then the rest of A, then what is not yet looked at. -/
def midI (A : List Nat) (j x : Nat) (R : List Nat) : List Nat := A.take j ++ x :: (A.drop j ++ R)
theorem midI_len (A : List Nat) {j : Nat} (hj : j ≤ A.length) (x : Nat) (R : List Nat) : (midI A j x R).length = A.length + 1 + R.length := by
  simp [midI]
  omega
theorem midI_at {A : List Nat} {j : Nat} (hj : j ≤ A.length) (x : Nat) (R : List Nat) : nth (midI A j x R) j = x := by
  have : (A.take j).length = j := by simp; omega
  unfold midI nth
  rw [List.getD_eq_getElem?_getD, List.getElem?_append_right (by omega), this, Nat.sub_self]
  rfl
theorem midI_low {A : List Nat} {j k : Nat} (hj : j ≤ A.length) (hk : k < j) (x : Nat) (R : List Nat) : nth (midI A j x R) k = nth A k := by
  have : (A.take j).length = j := by simp; omega
  unfold midI nth
  rw [List.getD_eq_getElem?_getD, List.getElem?_append_left (by omega), List.getElem?_take, if_pos hk, List.getD_eq_getElem?_getD]
theorem take_nth {A : List Nat} {j : Nat} (h : j < A.length) : A.take (j + 1) = A.take j ++ [nth A j] := by
  rw [List.take_succ_eq_append_getElem h]
  simp [nth, List.getD, h]
theorem drop_nth {A : List Nat} {j : Nat} (h : j < A.length) : A.drop j = nth A j :: A.drop (j + 1) := by
  rw [List.drop_eq_getElem_cons h]
  simp [nth, List.getD, h]
theorem midI_swap {A : List Nat} {j : Nat} (hj : j < A.length) (x : Nat) (R : List Nat) : ((midI A (j + 1) x R).set (j + 1) (nth A j)).set j x = midI A j x R := by
  have l1 : (A.take j).length = j := by simp; omega
  unfold midI
  rw [take_nth hj, drop_nth hj, List.append_assoc, List.set_append_right _ _ (by omega), List.set_append_right _ _ (by omega), l1, Nat.sub_self, show j + 1 - j = 1 by omega]
  rfl
theorem midI_move {A : List Nat} {j : Nat} (hj : j < A.length) (x : Nat) (R : List Nat) : (midI A (j + 1) x R).set (j + 1) (nth A j) = midI A j (nth A j) R := by
  have l1 : (A.take j).length = j := by simp; omega
  unfold midI
  rw [take_nth hj, drop_nth hj, List.append_assoc, List.set_append_right _ _ (by omega), l1, show j + 1 - j = 1 by omega]
  rfl
theorem midI_put {A : List Nat} {j : Nat} (hj : j ≤ A.length) (x y : Nat) (R : List Nat) : (midI A j y R).set j x = midI A j x R := by
  have l1 : (A.take j).length = j := by simp; omega
  unfold midI
  rw [List.set_append_right _ _ (by omega), l1, Nat.sub_self]
  rfl
/-- Where x stops, it is put. -/
theorem midI_end {A : List Nat} {j x : Nat} {R : List Nat} (hj : j ≤ A.length) (hu : Up A) (hd : ∀ y ∈ A.drop j, x < y) (hs : 0 < j → nth A (j - 1) ≤ x) : midI A j x R = ins x A ++ R := by
  rw [← ins_at hj hu hd (fun h h2 => by have := hs h; simpa [nth, List.getD, h2] using this)]
  simp [midI]
theorem drop_less {A : List Nat} {j x : Nat} (hj : j < A.length) (hd : ∀ y ∈ A.drop (j + 1), x < y) (h : x < nth A j) : ∀ y ∈ A.drop j, x < y := by
  rw [drop_nth hj]
  intro y hy
  rcases List.mem_cons.1 hy with rfl | hy
  · exact h
  · exact hd y hy
theorem srt_take {L : List Nat} {i : Nat} (h : i < L.length) : srt (L.take (i + 1)) = ins (nth L i) (srt (L.take i)) := by rw [take_nth h, srt_snoc]
end Go.Proofs.YtimjmmiajgfblaaGreatDoor
