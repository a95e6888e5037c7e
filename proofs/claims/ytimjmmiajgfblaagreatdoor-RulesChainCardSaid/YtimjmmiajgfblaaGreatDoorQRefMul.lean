/- Mul of the document's answers of layer 2, at every number and every number of 64 bits: by adding, bit by bit, in 320 bits. -/
import Derived.Test.YtimjmmiajgfblaaGreatDoorGbb
import Derived.Test.YtimjmmiajgfblaaGreatDoorGau
import Derived.Deep.OwnRows

namespace Go.Proofs.YtimjmmiajgfblaaGreatDoor.Bg
set_option maxRecDepth 100000
open Go.RowKit

set_option maxRecDepth 100000 in
set_option maxHeartbeats 4000000 in
theorem from_320 (X B cap : Nat) (w : World) (hB : B < w.heap.size) (hc : BitCells w B X) : Calls Tryz.prog 55 #[.slice (some ⟨B, 0, none⟩) 320 cap] w (FromPost X w) := by
  have HC := Lib.hid hc
  clear hc
  go_enter Tryz.func55, Tryz.ntmps55
  go_wp2_with fail
  go_loopw [4] (fun i wr => FromRel X w i wr) (fun i _ => 256 - (intOf i).toNat)
  case atStart =>
    exact ⟨0, 0, 0, 0, 0, by omega, rfl, ⟨by omega, by omega, by omega, by omega⟩, by rw [Nat.pow_zero, Nat.mod_one]; rfl, (Holds.new _ _ _).later ((Below.refl _ _).alloc (Nat.le_refl _) _), by have := Holds.new (w.alloc (.cells #[.int .u64 0, .int .u64 0, .int .u64 0, .int .u64 0] 51)) #[.int .u64 0, .int .u64 0, .int .u64 0, .int .u64 0] 51; simpa using this, ((Below.refl _ _).alloc (Nat.le_refl _) _).alloc (by simp) _⟩
  case round =>
    obtain ⟨k, o0, o1, o2, o3, hk, rfl, wo, vo, H2, H3, bel⟩ := hrel
    have f0 : ∀ q, wr.frozen? ⟨w.heap.size, q, none⟩ = false := H2.free
    by_cases hlt : k < 256
    · have hcell : wr.cell? ⟨B, k, none⟩ = some (.int .i64 ((X / 2 ^ k % 2 : Nat) : Int)) := (bel.cell (p := ⟨B, k, none⟩) hB).trans (HC.out k hlt)
      have t1 : decide ((k : Int) < 256) = true := decide_eq_true (by omega)
      have t0 : decide ((k : Int) < 320) = true := decide_eq_true (by omega)
      clear f0
      rcases Nat.mod_two_eq_zero_or_one (X / 2 ^ k) with hb | hb
      · rw [hb] at hcell
        have HB := Lib.hid hb
        have HV := Lib.hid vo
        clear hb vo
        go_wp2_with fail
        go_roundw
        case rel => exact ⟨k + 1, o0, o1, o2, o3, by omega, by go_num, wo, by rw [mod_succ, HB.out, Nat.mul_zero, Nat.add_zero]; exact HV.out, H2, H3, bel⟩
        case measure => simp [intOf]; omega
      · rw [hb] at hcell
        have c0 : wr.cell? ⟨w.heap.size + 1, 0, none⟩ = some (.int .u64 (o0 : Nat)) := H3.cell 0
        have c1 : wr.cell? ⟨w.heap.size + 1, 1, none⟩ = some (.int .u64 (o1 : Nat)) := H3.cell 1
        have c2 : wr.cell? ⟨w.heap.size + 1, 2, none⟩ = some (.int .u64 (o2 : Nat)) := H3.cell 2
        have c3 : wr.cell? ⟨w.heap.size + 1, 3, none⟩ = some (.int .u64 (o3 : Nat)) := H3.cell 3
        have z0 : wr.frozen? ⟨w.heap.size + 1, 0, none⟩ = false := H3.free 0
        have z1 : wr.frozen? ⟨w.heap.size + 1, 1, none⟩ = false := H3.free 1
        have z2 : wr.frozen? ⟨w.heap.size + 1, 2, none⟩ = false := H3.free 2
        have z3 : wr.frozen? ⟨w.heap.size + 1, 3, none⟩ = false := H3.free 3
        obtain ⟨r, hr⟩ : ∃ r, r = k % 64 := ⟨_, rfl⟩
        have hr64 : r < 64 := by omega
        have e2 : (k : Int) % 64 = (r : Int) := by omega
        have P : IntKind.u64.wrap (2 ^ r) = ((2 ^ r : Nat) : Int) := by
          have h1 : 2 ^ r ≤ 2 ^ 63 := Nat.pow_le_pow_right (by omega) (by omega)
          have e63 : (2 : Nat) ^ 63 = 9223372036854775808 := by decide
          have e : (2 : Int) ^ r = ((2 ^ r : Nat) : Int) := by simp
          rw [e]
          clear e
          generalize 2 ^ r = p at *
          rw [IntKind.wrap_u64]
          omega
        have hvk : val o0 o1 o2 o3 < 2 ^ k := by rw [vo]; exact Nat.mod_lt _ (Nat.two_pow_pos k)
        have HB := Lib.hid hb
        have HV := Lib.hid vo
        have HK := Lib.hid hvk
        clear hb vo hvk
        rcases (by omega : k / 64 = 0 ∨ k / 64 = 1 ∨ k / 64 = 2 ∨ k / 64 = 3) with h | h | h | h
        · have e1 : (k : Int) / 64 = 0 := by omega
          obtain ⟨s1, s2, s3⟩ := set_0 wo hr64 (show k = 0 + r by omega) HK.out
          have OR := or_add o0 r s1 hr64
          have HS3 := Lib.hid s3
          have HS2 := Lib.hid s2
          clear h hr s1 s2 s3
          generalize 2 ^ r = p at *
          generalize o0 + p = x at *
          go_wp2_with fail
          go_roundw
          case rel => exact ⟨k + 1, x, o1, o2, o3, by omega, by go_num, HS2.out, by rw [mod_succ, HB.out, Nat.mul_one, HS3.out, HV.out], H2.other (by omega) _, H3.set (q := 0) _, bel.setCell (by simp) _⟩
          case measure => simp [intOf]; omega
        · have e1 : (k : Int) / 64 = 1 := by omega
          obtain ⟨s1, s2, s3⟩ := set_1 wo hr64 (show k = 64 + r by omega) HK.out
          have OR := or_add o1 r s1 hr64
          have HS3 := Lib.hid s3
          have HS2 := Lib.hid s2
          clear h hr s1 s2 s3
          generalize 2 ^ r = p at *
          generalize o1 + p = x at *
          go_wp2_with fail
          go_roundw
          case rel => exact ⟨k + 1, o0, x, o2, o3, by omega, by go_num, HS2.out, by rw [mod_succ, HB.out, Nat.mul_one, HS3.out, HV.out], H2.other (by omega) _, H3.set (q := 1) _, bel.setCell (by simp) _⟩
          case measure => simp [intOf]; omega
        · have e1 : (k : Int) / 64 = 2 := by omega
          obtain ⟨s1, s2, s3⟩ := set_2 wo hr64 (show k = 128 + r by omega) HK.out
          have OR := or_add o2 r s1 hr64
          have HS3 := Lib.hid s3
          have HS2 := Lib.hid s2
          clear h hr s1 s2 s3
          generalize 2 ^ r = p at *
          generalize o2 + p = x at *
          go_wp2_with fail
          go_roundw
          case rel => exact ⟨k + 1, o0, o1, x, o3, by omega, by go_num, HS2.out, by rw [mod_succ, HB.out, Nat.mul_one, HS3.out, HV.out], H2.other (by omega) _, H3.set (q := 2) _, bel.setCell (by simp) _⟩
          case measure => simp [intOf]; omega
        · have e1 : (k : Int) / 64 = 3 := by omega
          obtain ⟨s1, s2, s3⟩ := set_3 wo hr64 (show k = 192 + r by omega) HK.out
          have OR := or_add o3 r s1 hr64
          have HS3 := Lib.hid s3
          have HS2 := Lib.hid s2
          clear h hr s1 s2 s3
          generalize 2 ^ r = p at *
          generalize o3 + p = x at *
          go_wp2_with fail
          go_roundw
          case rel => exact ⟨k + 1, o0, o1, o2, x, by omega, by go_num, HS2.out, by rw [mod_succ, HB.out, Nat.mul_one, HS3.out, HV.out], H2.other (by omega) _, H3.set (q := 3) _, bel.setCell (by simp) _⟩
          case measure => simp [intOf]; omega
    · have hk256 : k = 256 := by omega
      subst hk256
      have c0 : wr.cell? ⟨w.heap.size + 1, 0, none⟩ = some (.int .u64 (o0 : Nat)) := H3.cell 0
      have c1 : wr.cell? ⟨w.heap.size + 1, 1, none⟩ = some (.int .u64 (o1 : Nat)) := H3.cell 1
      have c2 : wr.cell? ⟨w.heap.size + 1, 2, none⟩ = some (.int .u64 (o2 : Nat)) := H3.cell 2
      have c3 : wr.cell? ⟨w.heap.size + 1, 3, none⟩ = some (.int .u64 (o3 : Nat)) := H3.cell 3
      have d0 : wr.cell? ⟨w.heap.size, 0, none⟩ = some (.int .u64 0) := H2.cell 0
      have d1 : wr.cell? ⟨w.heap.size, 1, none⟩ = some (.int .u64 0) := H2.cell 1
      have d2 : wr.cell? ⟨w.heap.size, 2, none⟩ = some (.int .u64 0) := H2.cell 2
      have d3 : wr.cell? ⟨w.heap.size, 3, none⟩ = some (.int .u64 0) := H2.cell 3
      have z0 := f0 0
      have z1 := f0 1
      have z2 := f0 2
      have z3 := f0 3
      clear f0
      have HV := Lib.hid vo
      clear vo
      go_wp2_with fail
      have b := (((bel.setCell (p := ⟨w.heap.size, 0, none⟩) (Nat.le_refl _) (.int .u64 (o0 : Nat))).setCell (p := ⟨w.heap.size, 1, none⟩) (Nat.le_refl _) (.int .u64 (o1 : Nat))).setCell (p := ⟨w.heap.size, 2, none⟩) (Nat.le_refl _) (.int .u64 (o2 : Nat))).setCell (p := ⟨w.heap.size, 3, none⟩) (Nat.le_refl _) (.int .u64 (o3 : Nat))
      have HS : Holds ((((wr.setCell ⟨w.heap.size, 0, none⟩ (.int .u64 (o0 : Nat))).setCell ⟨w.heap.size, 1, none⟩ (.int .u64 (o1 : Nat))).setCell ⟨w.heap.size, 2, none⟩ (.int .u64 (o2 : Nat))).setCell ⟨w.heap.size, 3, none⟩ (.int .u64 (o3 : Nat))) w.heap.size #[.int .u64 (o0 : Nat), .int .u64 (o1 : Nat), .int .u64 (o2 : Nat), .int .u64 (o3 : Nat)] 51 := (((H2.set _).set _).set _).set _
      have g0 : ((((wr.setCell ⟨w.heap.size, 0, none⟩ (.int .u64 (o0 : Nat))).setCell ⟨w.heap.size, 1, none⟩ (.int .u64 (o1 : Nat))).setCell ⟨w.heap.size, 2, none⟩ (.int .u64 (o2 : Nat))).setCell ⟨w.heap.size, 3, none⟩ (.int .u64 (o3 : Nat))).cell? ⟨w.heap.size, 0, none⟩ = some (.int .u64 (o0 : Nat)) := HS.cell 0
      have g1 : ((((wr.setCell ⟨w.heap.size, 0, none⟩ (.int .u64 (o0 : Nat))).setCell ⟨w.heap.size, 1, none⟩ (.int .u64 (o1 : Nat))).setCell ⟨w.heap.size, 2, none⟩ (.int .u64 (o2 : Nat))).setCell ⟨w.heap.size, 3, none⟩ (.int .u64 (o3 : Nat))).cell? ⟨w.heap.size, 1, none⟩ = some (.int .u64 (o1 : Nat)) := HS.cell 1
      have g2 : ((((wr.setCell ⟨w.heap.size, 0, none⟩ (.int .u64 (o0 : Nat))).setCell ⟨w.heap.size, 1, none⟩ (.int .u64 (o1 : Nat))).setCell ⟨w.heap.size, 2, none⟩ (.int .u64 (o2 : Nat))).setCell ⟨w.heap.size, 3, none⟩ (.int .u64 (o3 : Nat))).cell? ⟨w.heap.size, 2, none⟩ = some (.int .u64 (o2 : Nat)) := HS.cell 2
      have g3 : ((((wr.setCell ⟨w.heap.size, 0, none⟩ (.int .u64 (o0 : Nat))).setCell ⟨w.heap.size, 1, none⟩ (.int .u64 (o1 : Nat))).setCell ⟨w.heap.size, 2, none⟩ (.int .u64 (o2 : Nat))).setCell ⟨w.heap.size, 3, none⟩ (.int .u64 (o3 : Nat))).cell? ⟨w.heap.size, 3, none⟩ = some (.int .u64 (o3 : Nat)) := HS.cell 3
      refine bodyPost_ret (v := .agg #[.int .u64 (o0 : Nat), .int .u64 (o1 : Nat), .int .u64 (o2 : Nat), .int .u64 (o3 : Nat)]) (by simp [results, Tryz.results55, go_sem, g0, g1, g2, g3]) rfl ⟨o0, o1, o2, o3, rfl, wo, HV.out, b⟩

/-- The state of the multiplication: what the cells of the list hold. -/
structure MulAt (w : World) (f : Nat → Nat) (ca row : Array Value) (wr : World) : Prop where
  a : Holds wr w.heap.size ca 51
  z : Holds wr (w.heap.size + 1) #[.int .u64 0, .int .u64 0, .int .u64 0, .int .u64 0] 51
  l : Holds wr (w.heap.size + 2) row 3
  size : row.size = 320
  bits : ∀ j, j < 320 → row[j]? = some (.int .i64 (f j : Nat))
  bel : Below w.heap.size w wr
theorem MulAt.later {w wr w1 : World} {f : Nat → Nat} {ca row : Array Value} (h : MulAt w f ca row wr) (g : Below wr.heap.size wr w1) : MulAt w f ca row w1 :=
  ⟨h.a.later g, h.z.later g, h.l.later g, h.size, h.bits, h.bel.trans (g.mono h.bel.size)⟩
theorem MulAt.congr {w wr : World} {f g : Nat → Nat} {ca row : Array Value} (h : MulAt w f ca row wr) (e : ∀ j, j < 320 → g j = f j) : MulAt w g ca row wr :=
  ⟨h.a, h.z, h.l, h.size, fun j hj => by rw [e j hj]; exact h.bits j hj, h.bel⟩
theorem MulAt.step {w wr : World} {f g : Nat → Nat} {ca row : Array Value} (h : MulAt w f ca row wr) {k n : Nat} (hn : n = g k) (same : ∀ j, j < 320 → j ≠ k → g j = f j) :
    MulAt w g ca (row.setIfInBounds k (.int .i64 (n : Nat))) (wr.setCell ⟨w.heap.size + 2, k, none⟩ (.int .i64 (n : Nat))) := by
  subst hn
  refine ⟨h.a.other (by omega) _, h.z.other (by omega) _, h.l.set _, by simp [h.size], fun j hj => ?_, h.bel.setCell (by simp) _⟩
  by_cases e : k = j
  · subst e
    rw [Array.getElem?_setIfInBounds_self_of_lt (by rw [h.size]; omega)]
  · rw [Array.getElem?_setIfInBounds_ne e, h.bits j hj, same j hj (by omega)]

theorem bit_far {a0 a1 a2 a3 m x : Nat} (ha : Words a0 a1 a2 a3) (hx : x = val a0 a1 a2 a3 / 2 ^ m % 2) : BitIs a0 a1 a2 a3 m x := by
  intro w
  by_cases h : m < 256
  · exact bitIs ha h hx w
  · have e : val a0 a1 a2 a3 < 2 ^ m := Nat.lt_of_lt_of_le (by rw [show (2 : Nat) ^ 256 = 115792089237316195423570985008687907853269984665640564039457584007913129639936 by decide]; exact val_lt ha) (Nat.pow_le_pow_right (by omega) (show 256 ≤ m by omega))
    rw [Nat.div_eq_of_lt e] at hx
    subst hx
    exact bit_high a0 a1 a2 a3 m w (by omega)
theorem part_low (P A k j : Nat) (h : j < k) : (P + A * 2 ^ k) / 2 ^ j % 2 = P / 2 ^ j % 2 := by
  have e : A * 2 ^ k = A * 2 ^ (k - j - 1) * 2 * 2 ^ j := by
    rw [Nat.mul_assoc, Nat.mul_assoc, Nat.mul_comm 2, ← Nat.pow_succ, ← Nat.pow_add, show k - j - 1 + (j + 1) = k by omega]
  rw [e, Nat.add_mul_div_right _ _ (Nat.two_pow_pos j), Nat.add_mul_mod_self_right]
theorem part_high (A k j : Nat) (h : k ≤ j) : A * 2 ^ k / 2 ^ j = A / 2 ^ (j - k) := by
  have e : 2 ^ j = 2 ^ (j - k) * 2 ^ k := by rw [← Nat.pow_add, show j - k + k = j by omega]
  rw [e, Nat.mul_div_mul_right _ _ (Nat.two_pow_pos k)]
theorem part_start (P A k : Nat) : (P % 2 ^ k + A * 2 ^ k % 2 ^ k) / 2 ^ k = 0 := by
  rw [Nat.mul_mod_left, Nat.add_zero, Nat.div_eq_of_lt (Nat.mod_lt _ (Nat.two_pow_pos k))]
theorem times_succ (A n k : Nat) : A * (n % 2 ^ (k + 1)) = A * (n % 2 ^ k) + A * 2 ^ k * (n / 2 ^ k % 2) := by
  rw [mod_succ, Nat.mul_add, Nat.mul_assoc]

def MulPost (X : Nat) (w : World) (e : Ending) (w' : World) : Prop := ∃ o0 o1 o2 o3 : Nat, e = .returned (.tuple #[.agg #[.int .u64 (o0 : Nat), .int .u64 (o1 : Nat), .int .u64 (o2 : Nat), .int .u64 (o3 : Nat)], .int .u64 (X / 115792089237316195423570985008687907853269984665640564039457584007913129639936 : Nat)]) ∧ Words o0 o1 o2 o3 ∧ val o0 o1 o2 o3 = X % 115792089237316195423570985008687907853269984665640564039457584007913129639936 ∧ Below w.heap.size w w'

set_option maxRecDepth 100000 in
set_option maxHeartbeats 20000000 in
theorem refmul_any {a0 a1 a2 a3 n : Nat} (ha : Words a0 a1 a2 a3) (hn : n < 18446744073709551616) (w : World) : Calls Tryz.prog 26 #[.agg #[.int .u64 (a0 : Nat), .int .u64 (a1 : Nat), .int .u64 (a2 : Nat), .int .u64 (a3 : Nat)], .int .u64 (n : Nat)] w (MulPost (val a0 a1 a2 a3 * n) w) := by
  obtain ⟨i0, hi, hz0, hz1, hz2⟩ := info_parts Tryz.infoInt
  have HNL := Lib.hid hn
  have LA := Lib.hid (val_lt ha)
  have HAW := Lib.hid ha
  clear hn ha
  go_enter Tryz.func26, Tryz.ntmps26
  go_wp2_with (refine wpList_make_row _ rfl _ _ 84 rfl 3 i0 (.int .i64 0) Tryz.underlying84 hi hz0 hz1 rfl .i64 .i64 320 rfl rfl (by rw [hz2]; omega) (by omega) ?_)
  go_loopw [7] (fun kv wr => ∃ (k : Nat) (row : Array Value), k ≤ 64 ∧ kv = .int .i64 (k : Nat) ∧ MulAt w (fun j => val a0 a1 a2 a3 * (n % 2 ^ k) / 2 ^ j % 2) #[.int .u64 (a0 : Nat), .int .u64 (a1 : Nat), .int .u64 (a2 : Nat), .int .u64 (a3 : Nat)] row wr) (fun i _ => 64 - (intOf i).toNat)
  case atStart =>
    have lst : ∀ j, j < 320 → (madeCells #[.int .i64 0] 320)[j]? = some (.int .i64 0) := fun j hj => by
      rw [← Array.getElem?_toList, toList_madeCells_one, List.getElem?_replicate_of_lt hj]
    refine ⟨0, madeCells #[.int .i64 0] 320, by omega, rfl, ⟨((Holds.new _ _ _).later ((Below.refl _ _).alloc (Nat.le_refl _) _)).later ((Below.refl _ _).alloc (Nat.le_refl _) _), ?_, ?_, size_madeCells _ _, fun j hj => ?_, (((Below.refl _ _).alloc (Nat.le_refl _) _).alloc (by simp) _).alloc (by simp; omega) _⟩⟩
    · have := (Holds.new (w.alloc (.cells #[.int .u64 (a0 : Nat), .int .u64 (a1 : Nat), .int .u64 (a2 : Nat), .int .u64 (a3 : Nat)] 51)) #[.int .u64 0, .int .u64 0, .int .u64 0, .int .u64 0] 51).later ((Below.refl _ _).alloc (Nat.le_refl _) (.cells (madeCells #[.int .i64 0] 320) 3))
      simpa using this
    · have := Holds.new ((w.alloc (.cells #[.int .u64 (a0 : Nat), .int .u64 (a1 : Nat), .int .u64 (a2 : Nat), .int .u64 (a3 : Nat)] 51)).alloc (.cells #[.int .u64 0, .int .u64 0, .int .u64 0, .int .u64 0] 51)) (madeCells #[.int .i64 0] 320) 3
      simpa [Nat.add_assoc] using this
    · rw [lst j hj, Nat.pow_zero, Nat.mod_one, Nat.mul_zero, Nat.zero_div]; rfl
  case round =>
    obtain ⟨k, row, hk, rfl, L⟩ := hrel
    by_cases hlt : k < 64
    · have t1 : decide ((k : Int) < 64) = true := decide_eq_true (by omega)
      have D : (n : Int) / 2 ^ k = ((n / 2 ^ k : Nat) : Int) := by rw [Int.natCast_ediv]; rfl
      have dl : n / 2 ^ k < 18446744073709551616 := Nat.lt_of_le_of_lt (Nat.div_le_self _ _) HNL.out
      have TS := Lib.hid (times_succ (val a0 a1 a2 a3) n k)
      generalize n / 2 ^ k = d at *
      have AN := and_one_u64 (d : Int) (by omega) (by omega)
      rw [show ((d : Int) % 2) = ((d % 2 : Nat) : Int) by omega] at AN
      rcases Nat.mod_two_eq_zero_or_one d with hd | hd
      · rw [hd] at AN
        have L2 := Lib.hid (L.congr (g := fun j => val a0 a1 a2 a3 * (n % 2 ^ (k + 1)) / 2 ^ j % 2) fun j _ => by rw [TS.out, hd, Nat.mul_zero, Nat.add_zero])
        clear hd L dl TS
        go_wp2_with fail
        go_roundw
        case rel => exact ⟨k + 1, row, by omega, by go_num, L2.out⟩
        case measure => simp [intOf]; omega
      · rw [hd] at AN
        have HD := Lib.hid hd
        have LH := Lib.hid L
        obtain ⟨P, hP⟩ : ∃ P, P = val a0 a1 a2 a3 * (n % 2 ^ k) := ⟨_, rfl⟩
        obtain ⟨Q, hQ⟩ : ∃ Q, Q = val a0 a1 a2 a3 * (n % 2 ^ (k + 1)) := ⟨_, rfl⟩
        have hPQ : Q = P + val a0 a1 a2 a3 * 2 ^ k := by rw [hQ, TS.out, hd, Nat.mul_one, ← hP]
        rw [← hP] at L
        have HPQ := Lib.hid hPQ
        have HQ := Lib.hid hQ
        have L3 := Lib.hid L
        clear hd L LH hP hPQ hQ dl TS
        go_wp2_with fail
        go_loopw [8, 9] (fun cv iv wi => ∃ (i c : Nat) (rw' : Array Value), k ≤ i ∧ i ≤ 320 ∧ iv = .int .i64 (i : Nat) ∧ cv = .int .i64 (c : Nat) ∧ c = (P % 2 ^ i + val a0 a1 a2 a3 * 2 ^ k % 2 ^ i) / 2 ^ i ∧ MulAt w (fun j => if j < i then Q / 2 ^ j % 2 else P / 2 ^ j % 2) #[.int .u64 (a0 : Nat), .int .u64 (a1 : Nat), .int .u64 (a2 : Nat), .int .u64 (a3 : Nat)] rw' wi) (fun _ i _ => 320 - (intOf i).toNat)
        case atStart =>
          refine ⟨k, 0, row, by omega, by omega, rfl, rfl, (part_start _ _ _).symm, L3.out.congr fun j _ => ?_⟩
          by_cases lt : j < k
          · rw [if_pos lt, HPQ.out, part_low _ _ _ _ lt]
          · rw [if_neg lt]
        case round =>
          obtain ⟨i, c, row', hki, hi320, rfl, rfl, hc, L⟩ := hrel
          clear L3
          by_cases hil : i < 320
          · have t2 : decide ((i : Int) < 320) = true := decide_eq_true (by omega)
            obtain ⟨x, hx⟩ : ∃ x, x = val a0 a1 a2 a3 / 2 ^ (i - k) % 2 := ⟨_, rfl⟩
            obtain ⟨m, hm⟩ : ∃ m, m = i - k := ⟨_, rfl⟩
            rw [← hm] at hx
            have CX := Lib.hid (bit_far HAW.out hx)
            have S0 : (i : Int) - (k : Int) = (m : Int) := by omega
            have S1 : IntKind.i64.wrap (m : Int) = (m : Int) := by rw [IntKind.wrap_i64]; omega
            obtain ⟨hbit, hnext⟩ := add_bit P (val a0 a1 a2 a3 * 2 ^ k) i
            rw [part_high _ _ _ hki, ← hm, ← hx, ← hc] at hbit hnext
            rw [← HPQ.out] at hbit
            obtain ⟨l, hl⟩ : ∃ l, l = P / 2 ^ i % 2 := ⟨_, rfl⟩
            rw [← hl] at hbit hnext
            have c1 : c ≤ 1 := by rw [hc]; exact carry_le _ _ _
            have l1 : l ≤ 1 := by omega
            have x1 : x ≤ 1 := by omega
            obtain ⟨p, hp⟩ : ∃ p, p = l + x := ⟨_, rfl⟩
            obtain ⟨s, hs⟩ : ∃ s, s = p + c := ⟨_, rfl⟩
            rw [← hp, ← hs] at hbit hnext
            obtain ⟨b, hb⟩ : ∃ b, b = s % 2 := ⟨_, rfl⟩
            obtain ⟨y, hy⟩ : ∃ y, y = s / 2 := ⟨_, rfl⟩
            rw [← hb] at hbit
            rw [← hy] at hnext
            have P0 : (l : Int) + (x : Int) = (p : Int) := by omega
            have P1 : IntKind.i64.wrap (p : Int) = (p : Int) := by rw [IntKind.wrap_i64]; omega
            have P2 : (p : Int) + (c : Int) = (s : Int) := by omega
            have P3 : IntKind.i64.wrap (s : Int) = (s : Int) := by rw [IntKind.wrap_i64]; omega
            have P4 : (s : Int) % 2 = (b : Int) := by omega
            have P5 : (s : Int) / 2 = (y : Int) := by omega
            have HNEXT := Lib.hid hnext
            have HBIT := Lib.hid hbit
            have hcell : wr.cell? ⟨w.heap.size + 2, i, none⟩ = some (.int .i64 (l : Nat)) := (L.l.cell i).trans ((L.bits i hil).trans (by rw [if_neg (by omega), ← hl]))
            have ul : ∀ u : After wr, u.w.cell? ⟨w.heap.size + 2, i, none⟩ = some (.int .i64 (l : Nat)) := fun u => u.cell hcell
            have HL : Hid (some (Value.int .i64 (((if i < i then Q / 2 ^ i % 2 else P / 2 ^ i % 2 : Nat)) : Int)) = some (.int .i64 (l : Nat))) := by
              show _ = _
              rw [if_neg (by omega), ← hl]
            have LI := Lib.hid L
            have ua0 : ∀ u : After wr, u.w.cell? ⟨w.heap.size, 0, none⟩ = some (.int .u64 (a0 : Nat)) := fun u => (LI.out.a.later u.below).cell 0
            have ua1 : ∀ u : After wr, u.w.cell? ⟨w.heap.size, 1, none⟩ = some (.int .u64 (a1 : Nat)) := fun u => (LI.out.a.later u.below).cell 1
            have ua2 : ∀ u : After wr, u.w.cell? ⟨w.heap.size, 2, none⟩ = some (.int .u64 (a2 : Nat)) := fun u => (LI.out.a.later u.below).cell 2
            have ua3 : ∀ u : After wr, u.w.cell? ⟨w.heap.size, 3, none⟩ = some (.int .u64 (a3 : Nat)) := fun u => (LI.out.a.later u.below).cell 3
            clear L hbit hnext hc hx hl hp hs hb hy hm hcell
            go_wp2_with fail
            refine wp_region_after (by kernel_rfl) (by kernel_rfl) ?_
            repeat (go_big_quiet_step ((go_at_call 54; exact after_call (CX.out _))))
            refine wpQuiet_nil ?_
            rintro _ ⟨u, rfl⟩
            clear ua0 ua1 ua2 ua3 ul
            have L4 := Lib.hid (LI.out.later u.below)
            clear LI
            generalize u.w = w4 at *
            have hf : w4.frozen? ⟨w.heap.size + 2, i, none⟩ = false := L4.out.l.free i
            have hc4 : w4.cell? ⟨w.heap.size + 2, i, none⟩ = some (.int .i64 (l : Nat)) := (L4.out.l.cell i).trans ((L4.out.bits i hil).trans HL.out)
            have L5 := Lib.hid (L4.out.step (g := fun j => if j < i + 1 then Q / 2 ^ j % 2 else P / 2 ^ j % 2) (k := i) (n := b) (by rw [if_pos (by omega)]; exact HBIT.out.symm) (fun j _ hj => by
              by_cases lt : j < i
              · rw [if_pos lt, if_pos (by omega)]
              · rw [if_neg lt, if_neg (by omega)]))
            clear L4
            go_wp2_with fail
            go_roundw
            case rel => exact ⟨i + 1, y, _, by omega, by omega, by go_num, rfl, HNEXT.out.symm, L5.out⟩
            case measure => simp [intOf]; omega
          · obtain rfl : i = 320 := by omega
            have L2 := Lib.hid (L.congr (g := fun j => val a0 a1 a2 a3 * (n % 2 ^ (k + 1)) / 2 ^ j % 2) fun j hj => by rw [if_pos hj, ← HQ.out])
            clear L hc
            go_wp2_with fail
            go_roundw
            case rel => exact ⟨k + 1, row', by omega, by go_num, L2.out⟩
            case measure => simp [intOf]; omega
    · obtain rfl : k = 64 := by omega
      obtain ⟨X, hX⟩ : ∃ X, X = val a0 a1 a2 a3 * n := ⟨_, rfl⟩
      have e64 : n % 2 ^ 64 = n := Nat.mod_eq_of_lt HNL.out
      rw [e64, ← hX] at L
      have XL : X < 2135987035920910082395021706169552114602704522356652769947041607822219725780640550022962086936576 := by
        rw [hX]
        have h1 : val a0 a1 a2 a3 * n ≤ 115792089237316195423570985008687907853269984665640564039457584007913129639936 * n := Nat.mul_le_mul_right _ (Nat.le_of_lt LA.out)
        have := HNL.out
        omega
      have HXL := Lib.hid XL
      have L1 := Lib.hid L
      have HXE := Lib.hid hX
      clear e64 hX XL L
      go_wp2_with fail
      go_loopw [11, 12] (fun ov iv wi => ∃ i o : Nat, i ≤ 64 ∧ iv = .int .i64 (i : Nat) ∧ ov = .int .u64 (o : Nat) ∧ o = X / 115792089237316195423570985008687907853269984665640564039457584007913129639936 % 2 ^ i ∧ MulAt w (fun j => X / 2 ^ j % 2) #[.int .u64 (a0 : Nat), .int .u64 (a1 : Nat), .int .u64 (a2 : Nat), .int .u64 (a3 : Nat)] row wi) (fun _ i _ => 64 - (intOf i).toNat)
      case atStart => exact ⟨0, 0, by omega, rfl, rfl, by rw [Nat.pow_zero, Nat.mod_one], L1.out⟩
      case round =>
        obtain ⟨i, o, hi64, rfl, rfl, ho, L⟩ := hrel
        clear L1
        by_cases hil : i < 64
        · have t2 : decide ((i : Int) < 64) = true := decide_eq_true (by omega)
          obtain ⟨q, hq⟩ : ∃ q, q = 256 + i := ⟨_, rfl⟩
          have Q0 : (256 : Int) + (i : Int) = (q : Int) := by omega
          have Q1 : IntKind.i64.wrap (q : Int) = (q : Int) := by rw [IntKind.wrap_i64]; omega
          have ql : q < 320 := by omega
          have hcell : wr.cell? ⟨w.heap.size + 2, q, none⟩ = some (.int .i64 ((X / 2 ^ q % 2 : Nat) : Int)) := (L.l.cell q).trans (L.bits q ql)
          have eb : X / 2 ^ q = X / 115792089237316195423570985008687907853269984665640564039457584007913129639936 / 2 ^ i := by rw [hq, Nat.pow_add, ← Nat.div_div_eq_div_mul, show (2 : Nat) ^ 256 = 115792089237316195423570985008687907853269984665640564039457584007913129639936 by decide]
          rw [eb] at hcell
          have ol : o < 2 ^ i := by rw [ho]; exact Nat.mod_lt _ (Nat.two_pow_pos i)
          have next := mod_succ (X / 115792089237316195423570985008687907853269984665640564039457584007913129639936) i
          rw [← ho] at next
          have LI := Lib.hid L
          have PW : IntKind.u64.wrap (2 ^ i) = ((2 ^ i : Nat) : Int) := by
            have h1 : 2 ^ i ≤ 2 ^ 63 := Nat.pow_le_pow_right (by omega) (by omega)
            have e63 : (2 : Nat) ^ 63 = 9223372036854775808 := by decide
            have e : (2 : Int) ^ i = ((2 ^ i : Nat) : Int) := by simp
            rw [e]
            clear e
            generalize 2 ^ i = p at *
            rw [IntKind.wrap_u64]
            omega
          have OR := or_add o i ol hil
          have OR0 : bits BinOp.or IntKind.u64 (o : Int) 0 = (o : Int) := by
            have h1 : 2 ^ i ≤ 2 ^ 63 := Nat.pow_le_pow_right (by omega) (by omega)
            have e63 : (2 : Nat) ^ 63 = 9223372036854775808 := by decide
            have := bits_or_u64_nat o 0 (by omega) (by omega)
            rw [Nat.or_zero] at this
            exact this
          rcases Nat.mod_two_eq_zero_or_one (X / 115792089237316195423570985008687907853269984665640564039457584007913129639936 / 2 ^ i) with hb | hb
          · rw [hb] at hcell next
            rw [Nat.mul_zero, Nat.add_zero] at next
            have HN := Lib.hid next
            clear hb next L ho hq eb ol PW OR
            go_wp2_with fail
            go_roundw
            case rel => exact ⟨i + 1, o, by omega, by go_num, rfl, HN.out.symm, LI.out⟩
            case measure => simp [intOf]; omega
          · rw [hb] at hcell next
            rw [Nat.mul_one] at next
            have HN := Lib.hid next
            clear hb next L ho hq eb ol OR0
            obtain ⟨p, hp⟩ : ∃ p, p = 2 ^ i := ⟨_, rfl⟩
            rw [← hp] at PW OR HN
            clear hp
            go_wp2_with fail
            go_roundw
            case rel => exact ⟨i + 1, o + p, by omega, by go_num, rfl, HN.out.symm, LI.out⟩
            case measure => simp [intOf]; omega
        · obtain rfl : i = 64 := by omega
          have eo : o = X / 115792089237316195423570985008687907853269984665640564039457584007913129639936 := by
            rw [ho, show (2 : Nat) ^ 64 = 18446744073709551616 by decide]
            have := HXL.out
            omega
          subst eo
          have hbits : BitCells wr (w.heap.size + 2) X := fun j hj => (L.l.cell j).trans (L.bits j (by omega))
          have HBITS := Lib.hid hbits
          have HB := Lib.hid L.l.lt
          have L1 := Lib.hid L
          clear hbits L ho
          obtain ⟨ov, hov⟩ : ∃ ov, ov = X / 115792089237316195423570985008687907853269984665640564039457584007913129639936 := ⟨_, rfl⟩
          rw [← hov]
          have HOV := Lib.hid hov
          clear hov
          go_wp2_with fail
          refine (from_320 X (w.heap.size + 2) 320 _ HB.out HBITS.out).mono ?_
          rintro e w2 ⟨o0, o1, o2, o3, rfl, wo, vo, hc⟩
          have L2 := Lib.hid (L1.out.later hc)
          have H5 := L2.out.z
          have HV := Lib.hid vo
          clear vo hc HBITS HB L1
          have d0 : w2.cell? ⟨w.heap.size + 1, 0, none⟩ = some (.int .u64 0) := H5.cell 0
          have z0 : w2.frozen? ⟨w.heap.size + 1, 0, none⟩ = false := H5.free 0
          have d1 : w2.cell? ⟨w.heap.size + 1, 1, none⟩ = some (.int .u64 0) := H5.cell 1
          have z1 : w2.frozen? ⟨w.heap.size + 1, 1, none⟩ = false := H5.free 1
          have d2 : w2.cell? ⟨w.heap.size + 1, 2, none⟩ = some (.int .u64 0) := H5.cell 2
          have z2 : w2.frozen? ⟨w.heap.size + 1, 2, none⟩ = false := H5.free 2
          have d3 : w2.cell? ⟨w.heap.size + 1, 3, none⟩ = some (.int .u64 0) := H5.cell 3
          have z3 : w2.frozen? ⟨w.heap.size + 1, 3, none⟩ = false := H5.free 3
          go_wp2_with fail
          have b := ((((L2.out.bel.setCell (p := ⟨w.heap.size + 1, 0, none⟩) (by simp) (.int .u64 (o0 : Nat))).setCell (p := ⟨w.heap.size + 1, 1, none⟩) (by simp) (.int .u64 (o1 : Nat))).setCell (p := ⟨w.heap.size + 1, 2, none⟩) (by simp) (.int .u64 (o2 : Nat))).setCell (p := ⟨w.heap.size + 1, 3, none⟩) (by simp) (.int .u64 (o3 : Nat)))
          have HS : Holds ((((w2.setCell ⟨w.heap.size + 1, 0, none⟩ (.int .u64 (o0 : Nat))).setCell ⟨w.heap.size + 1, 1, none⟩ (.int .u64 (o1 : Nat))).setCell ⟨w.heap.size + 1, 2, none⟩ (.int .u64 (o2 : Nat))).setCell ⟨w.heap.size + 1, 3, none⟩ (.int .u64 (o3 : Nat))) (w.heap.size + 1) #[.int .u64 (o0 : Nat), .int .u64 (o1 : Nat), .int .u64 (o2 : Nat), .int .u64 (o3 : Nat)] 51 := (((H5.set _).set _).set _).set _
          have g0 : ((((w2.setCell ⟨w.heap.size + 1, 0, none⟩ (.int .u64 (o0 : Nat))).setCell ⟨w.heap.size + 1, 1, none⟩ (.int .u64 (o1 : Nat))).setCell ⟨w.heap.size + 1, 2, none⟩ (.int .u64 (o2 : Nat))).setCell ⟨w.heap.size + 1, 3, none⟩ (.int .u64 (o3 : Nat))).cell? ⟨w.heap.size + 1, 0, none⟩ = some (.int .u64 (o0 : Nat)) := HS.cell 0
          have g1 : ((((w2.setCell ⟨w.heap.size + 1, 0, none⟩ (.int .u64 (o0 : Nat))).setCell ⟨w.heap.size + 1, 1, none⟩ (.int .u64 (o1 : Nat))).setCell ⟨w.heap.size + 1, 2, none⟩ (.int .u64 (o2 : Nat))).setCell ⟨w.heap.size + 1, 3, none⟩ (.int .u64 (o3 : Nat))).cell? ⟨w.heap.size + 1, 1, none⟩ = some (.int .u64 (o1 : Nat)) := HS.cell 1
          have g2 : ((((w2.setCell ⟨w.heap.size + 1, 0, none⟩ (.int .u64 (o0 : Nat))).setCell ⟨w.heap.size + 1, 1, none⟩ (.int .u64 (o1 : Nat))).setCell ⟨w.heap.size + 1, 2, none⟩ (.int .u64 (o2 : Nat))).setCell ⟨w.heap.size + 1, 3, none⟩ (.int .u64 (o3 : Nat))).cell? ⟨w.heap.size + 1, 2, none⟩ = some (.int .u64 (o2 : Nat)) := HS.cell 2
          have g3 : ((((w2.setCell ⟨w.heap.size + 1, 0, none⟩ (.int .u64 (o0 : Nat))).setCell ⟨w.heap.size + 1, 1, none⟩ (.int .u64 (o1 : Nat))).setCell ⟨w.heap.size + 1, 2, none⟩ (.int .u64 (o2 : Nat))).setCell ⟨w.heap.size + 1, 3, none⟩ (.int .u64 (o3 : Nat))).cell? ⟨w.heap.size + 1, 3, none⟩ = some (.int .u64 (o3 : Nat)) := HS.cell 3
          refine bodyPost_ret (v := .tuple #[.agg #[.int .u64 (o0 : Nat), .int .u64 (o1 : Nat), .int .u64 (o2 : Nat), .int .u64 (o3 : Nat)], .int .u64 (ov : Nat)]) (by simp [results, Tryz.results26, go_sem, g0, g1, g2, g3]) rfl ⟨o0, o1, o2, o3, by rw [HOV.out, HXE.out], wo, HV.out.trans (by rw [HXE.out]), b⟩

end Go.Proofs.YtimjmmiajgfblaaGreatDoor.Bg
