/- A hash's bytes, the last one first: the library's Reverse over an array of the call's own, and Back of the document's answers of layer 4. No condition. -/
import Derived.Test.YtipbpecihbmneaaDoorHex
import Derived.Deep.OwnRows
import Derived.Laws.Rows
namespace Go.Proofs.YtipbpecihbmneaaDoor
open Go.RowKit

/-- Block b is these bytes, whole, each of which may be written. -/
def Row (w : World) (b : Nat) (T : TypeId) (L : List Nat) : Prop := w.heap[b]? = some (.cells (vals L).toArray T (0, 0))
theorem Row.lt {w : World} {b : Nat} {T : TypeId} {L : List Nat} (h : Row w b T L) : b < w.heap.size := (Array.getElem?_eq_some_iff.1 h).1
theorem Row.cell {w : World} {b : Nat} {T : TypeId} {L : List Nat} (h : Row w b T L) {k : Nat} (hk : k < L.length) : w.cell? ⟨b, k, none⟩ = some (.int .u8 (nth L k : Nat)) := by
  unfold Row at h
  unfold World.cell?
  simp only [h]
  simpa using vals_get L k hk
theorem Row.free {w : World} {b : Nat} {T : TypeId} {L : List Nat} (h : Row w b T L) (k : Nat) : w.frozen? ⟨b, k, none⟩ = false := by
  unfold Row at h
  simp [World.frozen?, h]
theorem Row.later {w w1 : World} {b : Nat} {T : TypeId} {L : List Nat} (h : Row w b T L) (g : Below w.heap.size w w1) : Row w1 b T L := by
  have hlt := h.lt
  unfold Row at *
  rw [g.block b hlt]; exact h
theorem vals_set (L : List Nat) (k x : Nat) : (vals L).set k (.int .u8 (x : Int)) = vals (L.set k x) := by
  simp [vals, List.map_set, byteV]
theorem Row.set {w : World} {b : Nat} {T : TypeId} {L : List Nat} (h : Row w b T L) (k x : Nat) : Row (w.setCell ⟨b, k, none⟩ (.int .u8 (x : Int))) b T (L.set k x) := by
  unfold Row at *
  rw [← vals_set]
  show (w.heap.modify b _)[b]? = _
  rw [Array.getElem?_modify, if_pos rfl, h]
  simp
theorem Row.other {w : World} {b c k : Nat} {T : TypeId} {L : List Nat} (h : Row w b T L) (hc : b ≠ c) (u : Value) : Row (w.setCell ⟨c, k, none⟩ u) b T L := by
  unfold Row at *
  rw [Below.heap_setCell _ _ _ _ hc]; exact h
theorem Row.new (w : World) (T : TypeId) (L : List Nat) : Row (w.alloc (.cells (vals L).toArray T)) w.heap.size T L := heap_alloc_new w _
theorem Row.reads {w : World} {b : Nat} {T : TypeId} {L : List Nat} (h : Row w b T L) (hb : AllB L) : Bs w (some ⟨b, 0, none⟩) L.length L :=
  ⟨rfl, hb, fun _ => ⟨_, rfl, h.lt, fun k hk => by
    have e : (⟨b, 0, none⟩ : Addr).add k = ⟨b, k, none⟩ := by unfold Addr.add; split <;> simp_all
    rw [e]; exact h.cell hk⟩⟩

/-- The list turned, k from each end. -/
def swapK (L : List Nat) (n : Nat) : Nat → List Nat
  | 0 => L
  | k + 1 => ((swapK L n k).set k (nth L (n - 1 - k))).set (n - 1 - k) (nth L k)
theorem swapK_length (L : List Nat) (n : Nat) : ∀ k, (swapK L n k).length = L.length
  | 0 => rfl
  | k + 1 => by rw [swapK, List.length_set, List.length_set, swapK_length L n k]
theorem nth_set_same {L : List Nat} {k x : Nat} (h : k < L.length) : nth (L.set k x) k = x := by simp [nth, List.getD, h]
theorem nth_set_ne {L : List Nat} {k j x : Nat} (h : k ≠ j) : nth (L.set k x) j = nth L j := by simp [nth, List.getD, h]
theorem swapK_mid (L : List Nat) (n : Nat) (hn : L.length = n) : ∀ k j, k ≤ j → j < n - k → 2 * k ≤ n → nth (swapK L n k) j = nth L j
  | 0, _, _, _, _ => rfl
  | k + 1, j, h1, h2, h3 => by
    rw [swapK, nth_set_ne (by omega), nth_set_ne (by omega), swapK_mid L n hn k j (by omega) (by omega) (by omega)]
theorem swapK_out (L : List Nat) (n : Nat) (hn : L.length = n) : ∀ k j, 2 * k ≤ n → (j < k ∨ n - k ≤ j) → j < n → nth (swapK L n k) j = nth L (n - 1 - j)
  | 0, _, _, h, _ => by omega
  | k + 1, j, h1, h2, h3 => by
    rw [swapK]
    by_cases e1 : n - 1 - k = j
    · rw [e1, nth_set_same (by rw [List.length_set, swapK_length]; omega)]
      congr 1; omega
    · rw [nth_set_ne e1]
      by_cases e2 : k = j
      · subst e2
        rw [nth_set_same (by rw [swapK_length]; omega)]
      · rw [nth_set_ne e2]
        exact swapK_out L n hn k j (by omega) (by omega) h3
theorem nth_reverse {L : List Nat} {j : Nat} (h : j < L.length) : nth L.reverse j = nth L (L.length - 1 - j) := by
  simp [nth, List.getD, List.getElem?_reverse h]
theorem swapK_all {L : List Nat} {n k : Nat} (hn : L.length = n) (h1 : 2 * k ≤ n) (h2 : n ≤ 2 * k + 1) : swapK L n k = L.reverse := by
  refine nth_ext (by rw [swapK_length, List.length_reverse]) fun j hj => ?_
  rw [swapK_length] at hj
  rw [nth_reverse hj, hn]
  by_cases e : j < k ∨ n - k ≤ j
  · exact swapK_out L n hn k j h1 e (by omega)
  · rw [swapK_mid L n hn k j (by omega) (by omega) h1]
    congr 1; omega
theorem AllB.rev {L : List Nat} (h : AllB L) : AllB L.reverse := fun x hx => h x (List.mem_reverse.1 hx)

set_option maxRecDepth 100000 in
set_option maxHeartbeats 4000000 in
theorem reverse_any {b n c : Nat} {T : TypeId} {L : List Nat} (B : Nat) (w : World) (hB : B ≤ b) (hn : n ≤ 1099511627776) (hl : L.length = n) (hL : AllB L) (hr : Row w b T L) :
    Calls Tryd.prog 35 #[.slice (some ⟨b, 0, none⟩) n c] w fun e w' => e = .returned (.tuple #[]) ∧ Row w' b T L.reverse ∧ Below B w w' := by
  have HR := Lib.hid hr
  have HLEN := Lib.hid hl
  have HLB := Lib.hid hL
  clear hr hl hL
  go_enter Tryd.func35, Tryd.ntmps35
  go_wp2_with fail
  go_loopw [2, 3] (fun i j wr => ∃ k : Nat, 2 * k ≤ n + 1 ∧ i = .int .i64 (k : Nat) ∧ j = .int .i64 ((n : Int) - 1 - (k : Int)) ∧ Hid (Row wr b T (swapK L n k) ∧ 2 * k ≤ n) ∧ Below B w wr) (fun i _ _ => n - (intOf i).toNat)
  case atStart => exact ⟨0, by omega, rfl, by simp, ⟨HR.out, by omega⟩, Below.refl _ _⟩
  case round =>
    obtain ⟨k, hk, rfl, rfl, HRK, bel⟩ := hrel
    have HBL := Lib.hid bel
    clear bel
    by_cases hlt : 2 * k + 1 < n
    · have t1 : decide ((k : Int) < (n : Int) - 1 - (k : Int)) = true := decide_eq_true (by omega)
      obtain ⟨j, hj⟩ : ∃ j, n - 1 - k = j := ⟨_, rfl⟩
      have ej : (n : Int) - 1 - (k : Int) = (j : Int) := by omega
      have jn : j < n := by omega
      have kn : k < n := by omega
      have kj : k ≠ j := by omega
      have ls := swapK_length L n k
      have c1 := HRK.out.1.cell (k := k) (by rw [ls, HLEN.out]; exact kn)
      have c2 := HRK.out.1.cell (k := j) (by rw [ls, HLEN.out]; exact jn)
      rw [swapK_mid L n HLEN.out k k (Nat.le_refl _) (by omega) (by omega)] at c1
      rw [swapK_mid L n HLEN.out k j (by omega) (by omega) (by omega)] at c2
      have f1 := HRK.out.1.free k
      have f2 := HRK.out.1.free j
      have hsw : swapK L n (k + 1) = ((swapK L n k).set k (nth L j)).set j (nth L k) := by rw [swapK, hj]
      obtain ⟨x, hx⟩ : ∃ x, nth L k = x := ⟨_, rfl⟩
      obtain ⟨y, hy⟩ : ∃ y, nth L j = y := ⟨_, rfl⟩
      rw [hx] at c1 hsw
      rw [hy] at c2 hsw
      have HSW := Lib.hid hsw
      have R2 := Lib.hid ((HRK.out.1.set k y).set j x)
      have HJ := Lib.hid hj
      clear ls hx hy hsw hj
      rw [ej]
      have t2 : decide (k < j) = true := decide_eq_true (by omega)
      go_wp2_with fail
      go_region
      go_wp2_with fail
      go_roundw

      case rel => exact ⟨k + 1, by omega, by go_num, by have := HJ.out; go_num, ⟨by rw [HSW.out]; exact R2.out, by omega⟩, ((HBL.out.setCell (p := ⟨b, k, none⟩) hB _).setCell (p := ⟨b, j, none⟩) hB _).drew⟩
      case measure => simp [intOf]; omega
    · have t1 : decide ((k : Int) < (n : Int) - 1 - (k : Int)) = false := decide_eq_false (by omega)
      have hk2 := HRK.out.2
      have R2 : Hid (Row wr b T L.reverse) := Lib.hid (by have := HRK.out.1; rwa [swapK_all HLEN.out hk2 (by omega)] at this)
      clear hk2
      go_wp2_with fail
      go_end0
      exact ⟨rfl, R2.out, HBL.out⟩
end Go.Proofs.YtipbpecihbmneaaDoor
