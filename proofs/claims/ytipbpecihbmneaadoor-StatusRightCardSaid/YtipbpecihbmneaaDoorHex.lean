/- Hex of the package octet: bytes as letters. No condition but a bound on the length. -/
import Derived.Test.YtipbpecihbmneaaDoorSame
import Derived.Deep.RegionLaw
import Derived.Laws.IdiomStrings
import Derived.WalkSpells
import Derived.Outline
import Derived.Deep.OwnRows
namespace Go.Proofs.YtipbpecihbmneaaDoor
open Go.RowKit

/-- make([]byte, n, c). -/
theorem run_make_bytes (n c : Nat) (l k : Int) (hl : l = n) (hk : k = c) (hnc : n ≤ c) (hc : c ≤ 1099511627776) (W : World) :
    (Instr.makeSlice 31 (.int .i64 l) (.int .i64 k)).run Tryd.prog W = .ok (.slice (some ⟨W.heap.size, 0, none⟩) n c) (W.alloc (.cells (vals (List.replicate c 0)).toArray 5)) := by
  obtain ⟨i0, hi, hz0, hz1, hz2⟩ := info_parts Tryd.infoByte
  subst hl hk
  rw [run_make (P := Tryd.prog) W 31 5 i0 (.int .u8 0) Tryd.underlying31 hi hz0 .i64 .i64 (n : Int) (c : Int) (by omega) (by omega) (by rw [hz2]; omega) (by omega), hz1]
  have e : (madeCells (Value.int .u8 0).cells c) = (vals (List.replicate c 0)).toArray := by
    apply Array.toList_inj.1
    show (madeCells #[Value.int .u8 0] c).toList = _
    rw [toList_madeCells_one, vals, List.map_replicate]; rfl
  rw [Int.toNat_natCast, Int.toNat_natCast, Nat.mul_one, e]
theorem take_snoc' (L : List Nat) (k : Nat) (h : k < L.length) : L.take (k + 1) = L.take k ++ [nth L k] := by
  rw [List.take_succ_eq_append_getElem h]
  congr 2
  simp [nth, List.getD, h]
theorem Bs.lit1D (w : World) {x : Nat} (h : x < 256) : Bs ((w.alloc (.cells #[.int .u8 (x : Int)] 5)).drew) (some ⟨w.heap.size, 0, none⟩) 1 [x] := (Bs.lit1 w h).later (Below.refl _ _).drew
theorem Own.allocD {w0 wr : World} {v : Value} {n : Nat} {L : List Nat} (h : Own w0 v n L wr) (o : Obj) : Own w0 v n L ((wr.alloc o).drew) := h.later ((Below.refl _ _).alloc (Nat.le_refl _) _).drew
/-- A string of these bytes. -/
def strB (L : List Nat) : ByteArray := ⟨(L.map UInt8.ofNat).toArray⟩
theorem strB_size (L : List Nat) : (strB L).size = L.length := by
  show ((L.map UInt8.ofNat).toArray).size = _
  simp

theorem run_str {A : Option Addr} {n c : Nat} {L : List Nat} {w : World} (h : Bs w A n L) : (convert 31 9 (.slice A n c)).run Tryd.prog w = .ok (.string (strB L)) w := by
  rcases A with _ | a
  · obtain rfl : n = 0 := by
      rcases Nat.eq_zero_or_pos n with h0 | h0
      · exact h0
      · obtain ⟨_, e, _⟩ := h.cel h0
        cases e
    obtain rfl : L = [] := List.eq_nil_of_length_eq_zero h.len
    rw [run_convert_bytes_string w 31 9 5 none 0 c Tryd.underlying31 Tryd.underlying5 Tryd.underlying9]
    rfl
  · have hl := h.len
    have := run_convert_bytes_back (P := Tryd.prog) w 31 9 5 a c (L.map UInt8.ofNat) Tryd.underlying31 Tryd.underlying5 Tryd.underlying9 (fun j hj => by
      have hj' : j < L.length := by simpa using hj
      obtain ⟨b, e, _, hc⟩ := h.cel (by omega)
      injection e with e
      subst e
      rw [hc j (by omega)]
      have hlt := nth_lt h.byt j
      have e2 : nth L j = L[j] := by simp [nth, List.getD, hj']
      simp only [List.getElem_map]
      rw [UInt8.toNat_ofNat', ← e2, Nat.mod_eq_of_lt hlt])
    rw [List.length_map, hl] at this
    exact this

/-- The letters, as the program has them. -/
theorem letters_at (x : Nat) (h : x < 16) : ((#[48, 49, 50, 51, 52, 53, 54, 55, 56, 57, 97, 98, 99, 100, 101, 102] : Array UInt8)[x]?.map fun b => (b.toNat : Int)) = some (letterN x : Int) := by
  rcases (by omega : x = 0 ∨ x = 1 ∨ x = 2 ∨ x = 3 ∨ x = 4 ∨ x = 5 ∨ x = 6 ∨ x = 7 ∨ x = 8 ∨ x = 9 ∨ x = 10 ∨ x = 11 ∨ x = 12 ∨ x = 13 ∨ x = 14 ∨ x = 15) with rfl | rfl | rfl | rfl | rfl | rfl | rfl | rfl | rfl | rfl | rfl | rfl | rfl | rfl | rfl | rfl <;> rfl

theorem index_letters (x : Nat) (h : x < 16) (W : World) : (Instr.index 9 (.string { data := #[48, 49, 50, 51, 52, 53, 54, 55, 56, 57, 97, 98, 99, 100, 101, 102] }) (.int .u8 (x : Int))).run Tryd.prog W = .ok (.int .u8 (letterN x : Nat)) W := by
  rcases (by omega : x = 0 ∨ x = 1 ∨ x = 2 ∨ x = 3 ∨ x = 4 ∨ x = 5 ∨ x = 6 ∨ x = 7 ∨ x = 8 ∨ x = 9 ∨ x = 10 ∨ x = 11 ∨ x = 12 ∨ x = 13 ∨ x = 14 ∨ x = 15) with rfl | rfl | rfl | rfl | rfl | rfl | rfl | rfl | rfl | rfl | rfl | rfl | rfl | rfl | rfl | rfl <;> kernel_rfl
theorem and15 (x : Nat) (h : x < 256) : bits BinOp.and IntKind.u8 (x : Int) 15 = ((x % 16 : Nat) : Int) := by
  have : ∀ y : Fin 256, bits BinOp.and IntKind.u8 ((y.val : Nat) : Int) 15 = ((y.val % 16 : Nat) : Int) := by decide +kernel
  exact this ⟨x, h⟩

set_option maxRecDepth 100000 in
set_option maxHeartbeats 2000000 in
theorem hex_any {A : Option Addr} {m c : Nat} {L : List Nat} (w : World) (hm : m ≤ 274877906944) (hL : Bs w A m L) :
    Calls Tryd.prog 18 #[.slice A m c] w fun e w' => e = .returned (.string (strB (hexL L))) ∧ Below w.heap.size w w' := by
  have HL := Lib.hid hL
  clear hL
  have hmk := run_make_bytes 0 (2 * m) 0 (2 * m) rfl (by omega) (by omega) (by omega)
  go_enter Tryd.func18, Tryd.ntmps18
  go_wp2_with fail
  go_loopw [3, 12] (fun v i wr => ∃ k : Nat, k ≤ m ∧ i = .int .i64 (k : Nat) ∧ Own w v (2 * k) (hexL (L.take k)) wr) (fun _ i _ => m - (intOf i).toNat)
  case atStart => exact ⟨0, by omega, rfl, Own.made (Below.refl _ _) _ _ (by unfold maxLen; omega) (by simp [vals])⟩
  case round =>
    obtain ⟨k, hk, rfl, O⟩ := hrel
    obtain ⟨B, d, rfl, _⟩ := O.shape
    have HO := Lib.hid O
    clear O
    by_cases hlt : k < m
    · obtain ⟨a, rfl, _, ca, la⟩ := (HL.out.later HO.out.bel).at_ hlt
      have hh : (L.take k) ++ [nth L k] = L.take (k + 1) := (take_snoc' L k (by rw [HL.out.len]; exact hlt)).symm
      obtain ⟨x, hx⟩ : ∃ x, x = nth L k := ⟨_, rfl⟩
      rw [← hx] at ca la hh
      have HH := Lib.hid hh
      clear hh hx
      have hd1 : x / 16 < 16 := by omega
      have hd2 : x % 16 < 16 := by omega
      have e1 : (x : Int) / 16 = ((x / 16 : Nat) : Int) := by omega
      have e2 := and15 x la
      obtain ⟨p, hp⟩ : ∃ p, p = x / 16 := ⟨_, rfl⟩
      obtain ⟨q, hq⟩ : ∃ q, q = x % 16 := ⟨_, rfl⟩
      rw [← hp] at hd1 e1
      rw [← hq] at hd2 e2
      have i1 := index_letters p hd1
      have i2 := index_letters q hd2
      obtain ⟨y, hy⟩ : ∃ y, y = letterN p := ⟨_, rfl⟩
      obtain ⟨z, hz⟩ : ∃ z, z = letterN q := ⟨_, rfl⟩
      have y8 : y < 256 := by rw [hy]; exact letterN_lt hd1
      have z8 : z < 256 := by rw [hz]; exact letterN_lt hd2
      rw [← hy] at i1
      rw [← hz] at i2
      have HPQ : Hid (hexL [x] = [y, z]) := Lib.hid (by rw [hexL, hexL, ← hp, ← hq, ← hy, ← hz])
      clear hp hq hy hz
      have LIT : ∀ W : World, Bs ((W.alloc (.cells #[.int .u8 (y : Int), .int .u8 (z : Int)] 5)).drew) (some ⟨W.heap.size, 0, none⟩) 2 [y, z] := fun W => (Bs.lit W [y, z] (fun u hu => by simp at hu; omega)).later (Below.refl _ _).drew
      have HLIT := Lib.hid LIT
      clear LIT
      go_wp2_with fail
      go_region_law ((refine step_app rfl _ _ rfl rfl (HO.out.later ((Below.refl _ _).alloc (Nat.le_refl _) _).drew) rfl (HLIT.out _) (by omega) ?_; intro A' c' w' h1 h2 _; have H5 := Lib.hid h2; clear h1 h2))
      all_goals go_wp2_with fail
      all_goals exact ⟨⟨k + 1, by omega, by go_num, by rw [← HH.out, hexL_app, HPQ.out]; exact H5.out⟩, by simp [intOf]; omega⟩
    · obtain rfl : k = m := by omega
      have hconv := run_str HO.out.reads (c := d)
      go_wp2_with fail
      go_ret
      exact ⟨by rw [List.take_of_length_le (by rw [HL.out.len]; exact Nat.le_refl _)]; rfl, HO.out.bel⟩
end Go.Proofs.YtipbpecihbmneaaDoor
