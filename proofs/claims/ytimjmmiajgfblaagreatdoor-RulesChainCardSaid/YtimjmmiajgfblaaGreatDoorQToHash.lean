/- ToHash of the package big at every number, byte by byte. No condition but that each word is below 2^64. -/
import Derived.Test.YtimjmmiajgfblaaGreatDoorQHash
import Derived.Test.YtimjmmiajgfblaaGreatDoorQMath
import Derived.Test.YtimjmmiajgfblaaGreatDoorGad
import Derived.Laws.CopyOwn

namespace Go.Proofs.YtimjmmiajgfblaaGreatDoor.Bg
set_option maxRecDepth 100000
open Go.RowKit

/-- A hash's cells. -/
def rowOf (f : Nat → Nat) : Array Value := ((List.range 32).map fun i => Value.int .u8 (f i : Nat)).toArray
theorem rowOf_get (f : Nat → Nat) (j : Nat) (h : j < 32) : (rowOf f)[j]? = some (.int .u8 (f j : Nat)) := by
  unfold rowOf
  rw [List.getElem?_toArray, List.getElem?_map, List.getElem?_range h]; rfl
theorem rowOf_size (f : Nat → Nat) : (rowOf f).size = 32 := by simp [rowOf]
theorem rowOf_cells (f : Nat → Nat) : (rowOf f).all (·.oneCell') = true := by
  rw [Array.all_eq_true_iff_forall_mem]
  intro x hx
  simp [rowOf] at hx
  obtain ⟨a, _, rfl⟩ := hx
  rfl
theorem row_is {row : Array Value} {f : Nat → Nat} (hs : row.size = 32) (h : ∀ j, j < 32 → row[j]? = some (.int .u8 (f j : Nat))) : row = rowOf f := by
  refine Array.ext_getElem? fun i => ?_
  by_cases hi : i < 32
  · rw [h i hi, rowOf_get f i hi]
  · rw [Array.getElem?_eq_none (by omega), Array.getElem?_eq_none (by rw [rowOf_size]; omega)]
theorem rowOf_same {f g : Nat → Nat} (h : ∀ j, j < 32 → f j = g j) : rowOf f = rowOf g :=
  row_is (rowOf_size f) fun j hj => by rw [rowOf_get f j hj, h j hj]
theorem Tryz.infoHash : (Tryz.prog.info? 25).map (·.size) = some 32 := by kernel_rfl

/-- The state of a loop that fills a hash. -/
structure HashAt (w : World) (f : Nat → Nat) (ca row : Array Value) (wr : World) : Prop where
  a : Holds wr w.heap.size ca 51
  z : ∃ z : Array Value, z.size = 32 ∧ Holds wr (w.heap.size + 1) z 25
  l : Holds wr (w.heap.size + 2) row 25
  size : row.size = 32
  bytes : ∀ j, j < 32 → row[j]? = some (.int .u8 (f j : Nat))
  bel : Below w.heap.size w wr
theorem HashAt.later {w wr w1 : World} {f : Nat → Nat} {ca row : Array Value} (h : HashAt w f ca row wr) (g : Below wr.heap.size wr w1) : HashAt w f ca row w1 :=
  ⟨h.a.later g, h.z.imp fun _ k => ⟨k.1, k.2.later g⟩, h.l.later g, h.size, h.bytes, h.bel.trans (g.mono h.bel.size)⟩
theorem HashAt.step {w wr : World} {f g : Nat → Nat} {ca row : Array Value} (h : HashAt w f ca row wr) {k n : Nat} (_hk : k < 32) (hn : n = g k) (same : ∀ j, j < 32 → j ≠ k → g j = f j) :
    HashAt w g ca (row.setIfInBounds k (.int .u8 (n : Nat))) (wr.setCell ⟨w.heap.size + 2, k, none⟩ (.int .u8 (n : Nat))) := by
  subst hn
  refine ⟨h.a.other (by omega) _, h.z.imp fun _ k => ⟨k.1, k.2.other (by omega) _⟩, h.l.set _, by simp [h.size], fun j hj => ?_, h.bel.setCell (by simp) _⟩
  by_cases e : k = j
  · subst e
    rw [Array.getElem?_setIfInBounds_self_of_lt (by rw [h.size]; omega)]
  · rw [Array.getElem?_setIfInBounds_ne e, h.bytes j hj, same j hj (by omega)]
theorem hash_start (w : World) {ca z row : Array Value} (hz : z.size = 32) (hr : row.size = 32) (h0 : ∀ j, j < 32 → row[j]? = some (.int .u8 0)) {f : Nat → Nat} (hf : ∀ j, j < 32 → f j = 0) :
    HashAt w f ca row (((w.alloc (.cells ca 51)).alloc (.cells z 25)).alloc (.cells row 25)) := by
  refine ⟨((Holds.new _ _ _).later ((Below.refl _ _).alloc (Nat.le_refl _) _)).later ((Below.refl _ _).alloc (Nat.le_refl _) _), ⟨z, hz, ?_⟩, ?_, hr, fun j hj => ?_, (((Below.refl _ _).alloc (Nat.le_refl _) _).alloc (by simp) _).alloc (by simp; omega) _⟩
  · have := (Holds.new (w.alloc (.cells ca 51)) z 25).later ((Below.refl _ _).alloc (Nat.le_refl _) (.cells row 25))
    simpa using this
  · have := Holds.new ((w.alloc (.cells ca 51)).alloc (.cells z 25)) row 25
    simpa [Nat.add_assoc] using this
  · rw [h0 j hj, hf j hj]; rfl
def zeros : Array Value := #[.int .u8 0, .int .u8 0, .int .u8 0, .int .u8 0, .int .u8 0, .int .u8 0, .int .u8 0, .int .u8 0, .int .u8 0, .int .u8 0, .int .u8 0, .int .u8 0, .int .u8 0, .int .u8 0, .int .u8 0, .int .u8 0, .int .u8 0, .int .u8 0, .int .u8 0, .int .u8 0, .int .u8 0, .int .u8 0, .int .u8 0, .int .u8 0, .int .u8 0, .int .u8 0, .int .u8 0, .int .u8 0, .int .u8 0, .int .u8 0, .int .u8 0, .int .u8 0]
theorem zeros_get : ∀ j, j < 32 → zeros[j]? = some (.int .u8 0)
  | 0, _ => rfl
  | 1, _ => rfl
  | 2, _ => rfl
  | 3, _ => rfl
  | 4, _ => rfl
  | 5, _ => rfl
  | 6, _ => rfl
  | 7, _ => rfl
  | 8, _ => rfl
  | 9, _ => rfl
  | 10, _ => rfl
  | 11, _ => rfl
  | 12, _ => rfl
  | 13, _ => rfl
  | 14, _ => rfl
  | 15, _ => rfl
  | 16, _ => rfl
  | 17, _ => rfl
  | 18, _ => rfl
  | 19, _ => rfl
  | 20, _ => rfl
  | 21, _ => rfl
  | 22, _ => rfl
  | 23, _ => rfl
  | 24, _ => rfl
  | 25, _ => rfl
  | 26, _ => rfl
  | 27, _ => rfl
  | 28, _ => rfl
  | 29, _ => rfl
  | 30, _ => rfl
  | 31, _ => rfl
  | n + 32, h => absurd h (by omega)

def HPost (f : Nat → Nat) (w : World) (e : Ending) (w' : World) : Prop := e = .returned (.agg (rowOf f)) ∧ Below w.heap.size w w'
/-- A word's byte is the number's. -/
theorem byte_word (lo x hi j r : Nat) (hlo : lo < 2 ^ j) (hr : r ≤ 56) : (lo + 2 ^ j * (x + 18446744073709551616 * hi)) / 2 ^ (j + r) % 256 = x / 2 ^ r % 256 := by
  have hp : 0 < 2 ^ j := Nat.two_pow_pos j
  have hq : 0 < 2 ^ r := Nat.two_pow_pos r
  rw [Nat.pow_add, ← Nat.div_div_eq_div_mul, Nat.add_comm, Nat.mul_comm (2 ^ j), Nat.add_comm, Nat.add_mul_div_right _ _ hp, Nat.div_eq_of_lt hlo, Nat.zero_add]
  have e : (18446744073709551616 : Nat) = 2 ^ r * (256 * 2 ^ (56 - r)) := by
    rw [← Nat.mul_assoc, Nat.mul_comm (2 ^ r) 256, Nat.mul_assoc, ← Nat.pow_add, show r + (56 - r) = 56 by omega]
  rw [e, Nat.mul_assoc, Nat.mul_comm (2 ^ r), Nat.add_mul_div_right _ _ hq, Nat.mul_assoc]
  omega
theorem byte_0 {a0 a1 a2 a3 k s : Nat} (ha : Words a0 a1 a2 a3) (hj : k / 8 = 0) (hs : s = k % 8 * 8) : val a0 a1 a2 a3 / 2 ^ (8 * k) % 256 = a0 / 2 ^ s % 256 := by
  have e64 : (2 : Nat) ^ 64 = 18446744073709551616 := by decide
  have e128 : (2 : Nat) ^ 128 = 340282366920938463463374607431768211456 := by decide
  have e192 : (2 : Nat) ^ 192 = 6277101735386680763835789423207666416102355444464034512896 := by decide
  have e0 : (2 : Nat) ^ 0 = 1 := by decide
  obtain ⟨h0, h1, h2, h3⟩ := ha
  have := byte_word 0 a0 (a1 + 18446744073709551616 * (a2 + 18446744073709551616 * a3)) 0 s (by first | (rw [e64]; omega) | (rw [e128]; omega) | (rw [e192]; omega) | (rw [e0]; omega)) (by omega)
  rw [show 0 + s = 8 * k by omega] at this
  have e : val a0 a1 a2 a3 = 0 + 2 ^ 0 * (a0 + 18446744073709551616 * (a1 + 18446744073709551616 * (a2 + 18446744073709551616 * a3))) := by
    rw [e0]; unfold val; omega
  rw [e]
  exact this
theorem byte_1 {a0 a1 a2 a3 k s : Nat} (ha : Words a0 a1 a2 a3) (hj : k / 8 = 1) (hs : s = k % 8 * 8) : val a0 a1 a2 a3 / 2 ^ (8 * k) % 256 = a1 / 2 ^ s % 256 := by
  have e64 : (2 : Nat) ^ 64 = 18446744073709551616 := by decide
  have e128 : (2 : Nat) ^ 128 = 340282366920938463463374607431768211456 := by decide
  have e192 : (2 : Nat) ^ 192 = 6277101735386680763835789423207666416102355444464034512896 := by decide
  have e0 : (2 : Nat) ^ 0 = 1 := by decide
  obtain ⟨h0, h1, h2, h3⟩ := ha
  have := byte_word a0 a1 (a2 + 18446744073709551616 * a3) 64 s (by first | (rw [e64]; omega) | (rw [e128]; omega) | (rw [e192]; omega) | (rw [e0]; omega)) (by omega)
  rw [show 64 + s = 8 * k by omega] at this
  have e : val a0 a1 a2 a3 = a0 + 2 ^ 64 * (a1 + 18446744073709551616 * (a2 + 18446744073709551616 * a3)) := by
    rw [e64]; unfold val; omega
  rw [e]
  exact this
theorem byte_2 {a0 a1 a2 a3 k s : Nat} (ha : Words a0 a1 a2 a3) (hj : k / 8 = 2) (hs : s = k % 8 * 8) : val a0 a1 a2 a3 / 2 ^ (8 * k) % 256 = a2 / 2 ^ s % 256 := by
  have e64 : (2 : Nat) ^ 64 = 18446744073709551616 := by decide
  have e128 : (2 : Nat) ^ 128 = 340282366920938463463374607431768211456 := by decide
  have e192 : (2 : Nat) ^ 192 = 6277101735386680763835789423207666416102355444464034512896 := by decide
  have e0 : (2 : Nat) ^ 0 = 1 := by decide
  obtain ⟨h0, h1, h2, h3⟩ := ha
  have := byte_word (a0 + 18446744073709551616 * a1) a2 a3 128 s (by first | (rw [e64]; omega) | (rw [e128]; omega) | (rw [e192]; omega) | (rw [e0]; omega)) (by omega)
  rw [show 128 + s = 8 * k by omega] at this
  have e : val a0 a1 a2 a3 = (a0 + 18446744073709551616 * a1) + 2 ^ 128 * (a2 + 18446744073709551616 * a3) := by
    rw [e128]; unfold val; omega
  rw [e]
  exact this
theorem byte_3 {a0 a1 a2 a3 k s : Nat} (ha : Words a0 a1 a2 a3) (hj : k / 8 = 3) (hs : s = k % 8 * 8) : val a0 a1 a2 a3 / 2 ^ (8 * k) % 256 = a3 / 2 ^ s % 256 := by
  have e64 : (2 : Nat) ^ 64 = 18446744073709551616 := by decide
  have e128 : (2 : Nat) ^ 128 = 340282366920938463463374607431768211456 := by decide
  have e192 : (2 : Nat) ^ 192 = 6277101735386680763835789423207666416102355444464034512896 := by decide
  have e0 : (2 : Nat) ^ 0 = 1 := by decide
  obtain ⟨h0, h1, h2, h3⟩ := ha
  have := byte_word (a0 + 18446744073709551616 * (a1 + 18446744073709551616 * a2)) a3 0 192 s (by first | (rw [e64]; omega) | (rw [e128]; omega) | (rw [e192]; omega) | (rw [e0]; omega)) (by omega)
  rw [show 192 + s = 8 * k by omega] at this
  have e : val a0 a1 a2 a3 = (a0 + 18446744073709551616 * (a1 + 18446744073709551616 * a2)) + 2 ^ 192 * (a3 + 18446744073709551616 * 0) := by
    rw [e192]; unfold val; omega
  rw [e]
  exact this

end Go.Proofs.YtimjmmiajgfblaaGreatDoor.Bg
