/- Hex of the document's answers of layer 4. No condition but a bound on the length. -/
import Derived.Test.YtipbpecihbmneaaDoorHex
namespace Go.Proofs.YtipbpecihbmneaaDoor
open Go.RowKit

theorem letter_v {p v : Nat} (hp : p < 16) (hv : letterN p = v) (w : World) : Calls Tryd.prog 25 #[.int .u8 (p : Nat)] w fun e w' => e = .returned (.int .u8 (v : Nat)) ∧ w' = w := by
  subst hv; exact letter_any p hp w

set_option maxRecDepth 100000 in
set_option maxHeartbeats 4000000 in
theorem rhex_any {A : Option Addr} {m c : Nat} {L : List Nat} (w : World) (hm : m ≤ 274877906944) (hL : Bs w A m L) :
    Calls Tryd.prog 14 #[.slice A m c] w fun e w' => e = .returned (.string (strB (hexL L))) ∧ Below w.heap.size w w' := by
  have HL := Lib.hid hL
  clear hL
  go_enter Tryd.func14, Tryd.ntmps14
  go_wp2_with fail
  go_loopw [3, 4] (fun v i wr => ∃ k : Nat, k ≤ m ∧ i = .int .i64 (k : Nat) ∧ Own w v (2 * k) (hexL (L.take k)) wr) (fun _ i _ => m - (intOf i).toNat)
  case atStart => exact ⟨0, by omega, rfl, ⟨World.ownsRow_nil _ _ _ _, allB_nil, Below.refl _ _⟩⟩
  case round =>
    obtain ⟨k, hk, rfl, O⟩ := hrel
    obtain ⟨B, d, rfl, _⟩ := O.shape
    have HO := Lib.hid O
    clear O
    by_cases hlt : k < m
    · obtain ⟨a, rfl, _, ca, la⟩ := (HL.out.later HO.out.bel).at_ hlt
      have hh : (L.take k) ++ [nth L k] = L.take (k + 1) := (take_snoc' L k (by rw [HL.out.len]; exact hlt)).symm
      obtain ⟨x, hx⟩ : ∃ x, x = nth L k := ⟨_, rfl⟩
      rw [← hx] at ca la hh
      have HH := Lib.hid hh
      clear hh hx
      have hd1 : x / 16 < 16 := by omega
      have hd2 : x % 16 < 16 := by omega
      have e1 : (x : Int) / 16 = ((x / 16 : Nat) : Int) := by omega
      have e2 : (x : Int) % 16 = ((x % 16 : Nat) : Int) := by omega
      obtain ⟨p, hp⟩ : ∃ p, p = x / 16 := ⟨_, rfl⟩
      obtain ⟨q, hq⟩ : ∃ q, q = x % 16 := ⟨_, rfl⟩
      rw [← hp] at hd1 e1
      rw [← hq] at hd2 e2
      obtain ⟨y, hy⟩ : ∃ y, letterN p = y := ⟨_, rfl⟩
      obtain ⟨z, hz⟩ : ∃ z, letterN q = z := ⟨_, rfl⟩
      have y8 : y < 256 := by rw [← hy]; exact letterN_lt hd1
      have z8 : z < 256 := by rw [← hz]; exact letterN_lt hd2
      have HPQ : Hid (hexL [x] = [y, z]) := Lib.hid (by rw [hexL, hexL, ← hp, ← hq, hy, hz])
      have C1 := Lib.hid (letter_v hd1 hy)
      have C2 := Lib.hid (letter_v hd2 hz)
      clear hp hq hy hz
      have LIT : ∀ W : World, Bs ((W.alloc (.cells #[.int .u8 (y : Int), .int .u8 (z : Int)] 5)).drew) (some ⟨W.heap.size, 0, none⟩) 2 [y, z] := fun W => (Bs.lit W [y, z] (fun u hu => by simp at hu; omega)).later (Below.refl _ _).drew
      have HLIT := Lib.hid LIT
      have e3 : (x : Int).tmod 16 = (q : Int) := by rw [Int.tmod_eq_emod_of_nonneg (by omega)]; exact e2
      have W1 : IntKind.u8.wrap (p : Int) = (p : Int) := by rw [IntKind.wrap_u8]; omega
      have W2 : IntKind.u8.wrap (q : Int) = (q : Int) := by rw [IntKind.wrap_u8]; omega
      clear LIT
      go_wp2_with fail
      go_region_law (first | (refine step_app rfl _ _ rfl rfl (HO.out.later ((Below.refl _ _).alloc (Nat.le_refl _) _).drew) rfl (HLIT.out _) (by omega) ?_; intro A' c' w' h1 h2 _; have H5 := Lib.hid h2; clear h1 h2) | (go_simp; with_reducible refine (C1.out _).mono ?_; rintro e w' ⟨rfl, rfl⟩; go_simp) | (go_simp; with_reducible refine (C2.out _).mono ?_; rintro e w' ⟨rfl, rfl⟩; go_simp))
      all_goals go_wp2_with fail
      all_goals exact ⟨⟨k + 1, by omega, by go_num, by rw [← HH.out, hexL_app, HPQ.out]; exact H5.out⟩, by simp [intOf]; omega⟩
    · obtain rfl : k = m := by omega
      have hconv := run_str HO.out.reads (c := d)
      go_wp2_with fail
      go_ret
      exact ⟨by rw [List.take_of_length_le (by rw [HL.out.len]; exact Nat.le_refl _)]; rfl, HO.out.bel⟩
end Go.Proofs.YtipbpecihbmneaaDoor
