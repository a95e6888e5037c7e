/- ToHash and OfHash of the document's answers of layer 2, at every number and every hash, bit by bit. -/
import Derived.Test.YtimjmmiajgfblaaGreatDoorQToHash
import Derived.Test.YtimjmmiajgfblaaGreatDoorGba
import Derived.Test.YtimjmmiajgfblaaGreatDoorGbb
import Derived.Test.YtimjmmiajgfblaaGreatDoorGah
import Derived.Test.YtimjmmiajgfblaaGreatDoorGau

namespace Go.Proofs.YtimjmmiajgfblaaGreatDoor.Bg
set_option maxRecDepth 100000
open Go.RowKit

theorem bits_or_u8_nat (a b : Nat) (ha : a < 256) (hb : b < 256) : bits .or .u8 (a : Int) (b : Int) = ((a ||| b : Nat) : Int) := by
  have hx : a ||| b < 2 ^ 8 := Nat.or_lt_two_pow (by omega) (by omega)
  have h1 : (BitVec.ofInt 8 (a : Int)).toNat = a := by
    rw [BitVec.ofInt_natCast, BitVec.toNat_ofNat]; exact Nat.mod_eq_of_lt (by omega)
  have h2 : (BitVec.ofInt 8 (b : Int)).toNat = b := by
    rw [BitVec.ofInt_natCast, BitVec.toNat_ofNat]; exact Nat.mod_eq_of_lt (by omega)
  show IntKind.u8.wrap ((BitVec.ofInt 8 (a : Int) ||| BitVec.ofInt 8 (b : Int)).toNat : Int) = _
  rw [BitVec.toNat_or, h1, h2, IntKind.wrap_u8]
  omega
theorem and_one_u8 (a : Nat) (ha : a < 256) : bits .and .u8 (a : Int) 1 = ((a % 2 : Nat) : Int) := by
  have hx : a &&& 1 < 2 ^ 8 := Nat.and_lt_two_pow _ (by omega)
  have h1 : (BitVec.ofInt 8 (a : Int)).toNat = a := by
    rw [BitVec.ofInt_natCast, BitVec.toNat_ofNat]; exact Nat.mod_eq_of_lt (by omega)
  show IntKind.u8.wrap ((BitVec.ofInt 8 (a : Int) &&& BitVec.ofInt 8 (1 : Int)).toNat : Int) = _
  rw [BitVec.toNat_and, h1, show (BitVec.ofInt 8 (1 : Int)).toNat = 1 by decide, Nat.and_one_is_mod, IntKind.wrap_u8]
  omega
theorem or_u8_add {o r : Nat} (ho : o < 2 ^ r) (hr : r < 8) (x : Nat) (hx : x ≤ 1) : bits .or .u8 (o : Int) ((x * 2 ^ r : Nat) : Int) = ((o + x * 2 ^ r : Nat) : Int) := by
  have h1 : 2 ^ r ≤ 2 ^ 7 := Nat.pow_le_pow_right (by omega) (by omega)
  have e7 : (2 : Nat) ^ 7 = 128 := by decide
  have orr := Nat.two_pow_add_eq_or_of_lt ho x
  rw [Nat.mul_comm] at orr
  have : x * 2 ^ r ≤ 1 * 2 ^ r := Nat.mul_le_mul_right _ hx
  generalize x * 2 ^ r = p at *
  rw [bits_or_u8_nat o p (by omega) (by omega), Nat.or_comm, ← orr, Nat.add_comm]
theorem bits_same (X k j : Nat) (h : j ≠ k / 8) : X % 2 ^ (k + 1) / 2 ^ (8 * j) % 256 = X % 2 ^ k / 2 ^ (8 * j) % 256 := by
  rcases Nat.lt_or_ge (k / 8) j with hlt | hge
  · have h3 : 2 ^ (k + 1) ≤ 2 ^ (8 * j) := Nat.pow_le_pow_right (by omega) (by omega)
    have h4 : 2 ^ k ≤ 2 ^ (8 * j) := Nat.pow_le_pow_right (by omega) (by omega)
    rw [Nat.div_eq_of_lt (Nat.lt_of_lt_of_le (Nat.mod_lt _ (Nat.two_pow_pos _)) h3), Nat.div_eq_of_lt (Nat.lt_of_lt_of_le (Nat.mod_lt _ (Nat.two_pow_pos _)) h4)]
  · have e : 2 ^ k * (X / 2 ^ k % 2) = 2 ^ (k - 8 * j - 8) * (X / 2 ^ k % 2) * 256 * 2 ^ (8 * j) := by
      generalize X / 2 ^ k % 2 = b
      rw [Nat.mul_right_comm _ b 256, Nat.mul_right_comm _ b (2 ^ (8 * j)), show (256 : Nat) = 2 ^ 8 by decide, ← Nat.pow_add, ← Nat.pow_add, show k - 8 * j - 8 + 8 + 8 * j = k by omega]
    rw [mod_succ, e, Nat.add_mul_div_right _ _ (Nat.two_pow_pos _), Nat.add_mul_mod_self_right]
theorem bits_here (X k : Nat) : X % 2 ^ k / 2 ^ (8 * (k / 8)) % 256 < 2 ^ (k % 8) ∧ X % 2 ^ (k + 1) / 2 ^ (8 * (k / 8)) % 256 = X % 2 ^ k / 2 ^ (8 * (k / 8)) % 256 + X / 2 ^ k % 2 * 2 ^ (k % 8) := by
  have ek : 2 ^ k = 2 ^ (k % 8) * 2 ^ (8 * (k / 8)) := by rw [← Nat.pow_add, show k % 8 + 8 * (k / 8) = k by omega]
  have e : 2 ^ k * (X / 2 ^ k % 2) = X / 2 ^ k % 2 * 2 ^ (k % 8) * 2 ^ (8 * (k / 8)) := by
    generalize X / 2 ^ k % 2 = b
    rw [ek, Nat.mul_comm, Nat.mul_assoc]
  have h7 : 2 ^ (k % 8) ≤ 2 ^ 7 := Nat.pow_le_pow_right (by omega) (by omega)
  have e7 : (2 : Nat) ^ 7 = 128 := by decide
  have lo : X % 2 ^ k / 2 ^ (8 * (k / 8)) < 2 ^ (k % 8) := by
    rw [Nat.div_lt_iff_lt_mul (Nat.two_pow_pos _), ← ek]; exact Nat.mod_lt _ (Nat.two_pow_pos _)
  have hp : X / 2 ^ k % 2 * 2 ^ (k % 8) ≤ 1 * 2 ^ (k % 8) := Nat.mul_le_mul_right _ (by omega)
  rw [mod_succ, e, Nat.add_mul_div_right _ _ (Nat.two_pow_pos _)]
  generalize X % 2 ^ k / 2 ^ (8 * (k / 8)) = y at *
  generalize X / 2 ^ k % 2 * 2 ^ (k % 8) = p at *
  generalize 2 ^ (k % 8) = q at *
  omega

/-- The bytes of a number, and the number of these. -/
theorem num_byte {f : Nat → Nat} (h : Bytes f) : ∀ n, n ≤ 32 → ∀ j, j < n → hashNum f n / 2 ^ (8 * j) % 256 = f j
  | 0, _, j, hj => by omega
  | n + 1, hn, j, hj => by
    rw [hashNum]
    by_cases e : j = n
    · subst e
      rw [Nat.add_mul_div_right _ _ (Nat.two_pow_pos _), Nat.div_eq_of_lt (hashNum_lt h j (by omega)), Nat.zero_add]
      exact Nat.mod_eq_of_lt (h j (by omega))
    · have e : f n * 2 ^ (8 * n) = f n * 2 ^ (8 * n - 8 * j - 8) * 256 * 2 ^ (8 * j) := by
        rw [show (256 : Nat) = 2 ^ 8 by decide, Nat.mul_assoc, Nat.mul_assoc, ← Nat.pow_add, ← Nat.pow_add, show 8 * n - 8 * j - 8 + (8 + 8 * j) = 8 * n by omega]
      rw [e, Nat.add_mul_div_right _ _ (Nat.two_pow_pos _), Nat.add_mul_mod_self_right]
      exact num_byte h n (by omega) j (by omega)
theorem num_bytes (X : Nat) : ∀ n, hashNum (fun j => X / 2 ^ (8 * j) % 256) n = X % 2 ^ (8 * n)
  | 0 => by rw [hashNum, Nat.mul_zero, Nat.pow_zero, Nat.mod_one]
  | n + 1 => by
    rw [hashNum, num_bytes X n, show 8 * (n + 1) = 8 * n + 8 by omega, Nat.pow_add, show (2 : Nat) ^ 8 = 256 by decide, Nat.mod_mul, Nat.mul_comm (X / 2 ^ (8 * n) % 256)]
theorem num_bit {f : Nat → Nat} (h : Bytes f) (k : Nat) (hk : k < 256) : hashNum f 32 / 2 ^ k % 2 = f (k / 8) / 2 ^ (k % 8) % 2 := by
  have e := num_byte h 32 (by omega) (k / 8) (by omega)
  rw [← e]
  have ek : 2 ^ k = 2 ^ (8 * (k / 8)) * 2 ^ (k % 8) := by rw [← Nat.pow_add, show 8 * (k / 8) + k % 8 = k by omega]
  rw [ek, ← Nat.div_div_eq_div_mul]
  generalize hashNum f 32 / 2 ^ (8 * (k / 8)) = y
  rcases (by omega : k % 8 = 0 ∨ k % 8 = 1 ∨ k % 8 = 2 ∨ k % 8 = 3 ∨ k % 8 = 4 ∨ k % 8 = 5 ∨ k % 8 = 6 ∨ k % 8 = 7) with r | r | r | r | r | r | r | r <;> rw [r] <;> omega

/-- A list of bits under way, of a hash. -/
structure HListAt (X : Nat) (w : World) (row : Array Value) (k : Nat) (v : Value) (wr : World) : Prop where
  le : k ≤ 256
  own : wr.ownsRow (w.heap.size + ([0, 0] : List Nat).length) 3 1 v k (bitVals X k)
  row : Holds wr w.heap.size row 25
  res : Holds wr (w.heap.size + 1) #[.int .u64 0, .int .u64 0, .int .u64 0, .int .u64 0] 51
  bel : Below w.heap.size w wr
  size : w.heap.size + ([0, 0] : List Nat).length ≤ wr.heap.size
theorem HListAt.later {X : Nat} {w wr w1 : World} {row : Array Value} {k : Nat} {v : Value} (h : HListAt X w row k v wr) (g : Below wr.heap.size wr w1) : HListAt X w row k v w1 :=
  ⟨h.le, ownsRow_later h.own g, h.row.later g, h.res.later g, h.bel.trans (g.mono h.bel.size), Nat.le_trans h.size g.size⟩
theorem HListAt.step {X b k : Nat} {w wr w1 : World} {row : Array Value} {v v' : Value} {o : Obj} (h : HListAt X w row k v wr) (hk : k < 256) (hb : X / 2 ^ k % 2 = b)
    (hown' : w1.ownsRow (w.heap.size + ([0, 0] : List Nat).length) 3 1 v' (k + 1) (bitVals X k ++ [.int .i64 (b : Nat)])) (hgrow : (wr.alloc o).grownBy w1 v.ownBlock) : HListAt X w row (k + 1) v' w1 := by
  have hsz := h.size
  have far : ∀ q, q < w.heap.size + ([0, 0] : List Nat).length → some q ≠ v.ownBlock := fun q hq e => by have := (h.own.lt q e.symm).1; omega
  have keep : ∀ {i : Nat} {c : Array Value} {T : TypeId}, i < w.heap.size + ([0, 0] : List Nat).length → Holds wr i c T → Holds w1 i c T := fun hi hh => by
    have h2 := hh.later ((Below.refl _ _).alloc (Nat.le_refl _) o)
    unfold Holds at h2 ⊢
    rw [hgrow.block _ (by simp at hi hsz ⊢; omega) (far _ hi)]
    exact h2
  refine ⟨by omega, by rw [bitVals, hb]; exact hown', keep (by simp) h.row, keep (by simp) h.res, (h.bel.alloc (by omega) o).grown hgrow (by simp at hsz ⊢; omega) (fun q hq => by have := (h.own.lt q hq).1; simp at this; omega), ?_⟩
  have := hgrow.size
  simp at this hsz ⊢
  omega

set_option maxRecDepth 100000 in
set_option maxHeartbeats 8000000 in
theorem refOfHash_any {f : Nat → Nat} (hby : Bytes f) (row : Array Value) (hget : ∀ j, j < 32 → row[j]? = some (.int .u8 (f j : Nat))) (w : World) : Calls Tryz.prog 72 #[.agg row] w (FromPost (hashNum f 32) w) := by
  obtain ⟨i0, hi, hz0, hz1, hz2⟩ := info_parts Tryz.infoInt
  obtain ⟨X, hX⟩ : ∃ X, X = hashNum f 32 := ⟨_, rfl⟩
  rw [← hX]
  have HX := Lib.hid hX
  have HBY := Lib.hid hby
  have HGET := Lib.hid hget
  clear hX hby hget
  go_enter Tryz.func72, Tryz.ntmps72
  go_wp2_with fail
  go_loopw [3, 4] (fun v i wr => ∃ k : Nat, i = .int .i64 (k : Nat) ∧ HListAt X w row k v wr) (fun _ i _ => 256 - (intOf i).toNat)
  case atStart => exact ⟨0, rfl, ⟨by omega, ⟨rfl, Or.inl ⟨rfl, rfl⟩⟩, (Holds.new _ _ _).later ((Below.refl _ _).alloc (Nat.le_refl _) _), by have := Holds.new (w.alloc (.cells row 25)) #[.int .u64 0, .int .u64 0, .int .u64 0, .int .u64 0] 51; simpa using this, ((Below.refl _ _).alloc (Nat.le_refl _) _).alloc (by simp) _, by simp⟩⟩
  case round =>
    obtain ⟨k, rfl, L⟩ := hrel
    by_cases hlt : k < 256
    · have t1 : decide ((k : Int) < 256) = true := decide_eq_true (by omega)
      obtain ⟨j, hj⟩ : ∃ j, j = k / 8 := ⟨_, rfl⟩
      obtain ⟨r, hr⟩ : ∃ r, r = k % 8 := ⟨_, rfl⟩
      have j32 : j < 32 := by omega
      have r8 : r < 8 := by omega
      have EJ : (k : Int) / 8 = (j : Int) := by omega
      have ER : (k : Int) % 8 = (r : Int) := by omega
      have hc : wr.cell? ⟨w.heap.size, j, none⟩ = some (.int .u8 (f j : Nat)) := (L.row.cell j).trans (HGET.out j j32)
      have NB := num_bit HBY.out k hlt
      rw [← hj, ← hr] at NB
      have fl := HBY.out j j32
      have D : (f j : Int) / 2 ^ r = ((f j / 2 ^ r : Nat) : Int) := by rw [Int.natCast_ediv]; rfl
      have dl : f j / 2 ^ r < 256 := Nat.lt_of_le_of_lt (Nat.div_le_self _ _) fl
      have AN := and_one_u8 (f j / 2 ^ r) dl
      generalize f j / 2 ^ r = d at *
      generalize f j = fj at *
      have HN := Lib.hid NB
      clear NB hj hr
      rcases Nat.mod_two_eq_zero_or_one d with hd | hd
      · rw [hd] at AN
        have HD := Lib.hid hd
        clear hd
        have hb : X / 2 ^ k % 2 = 0 := by rw [HX.out]; rw [HN.out, HD.out]
        have HB := Lib.hid hb
        clear hb
        obtain ⟨w2, hw2⟩ : ∃ w2 : World, w2 = wr := ⟨_, rfl⟩
        subst hw2
        have L2 := Lib.hid L
        clear L
        go_wp2_with (at_builtin; refine wpList_append_own _ rfl _ _ 84 rfl (w.heap.size + _) 3 i0 (.int .i64 0) 1 8 Tryz.underlying84 hi hz0 hz1 hz2 rfl (by decide) _ _ _ rfl (L2.out.own.alloc _) ⟨w2.heap.size, 0, none⟩ 1 1 [.int .i64 0] rfl rfl (news_one _ _ _) (one_int _ _) ?c3 ?c4 ?c5 ?_)
        case c3 => have := L2.out.le; unfold maxLen; omega
        case c4 => have := L2.out.le; omega
        case c5 => have := L2.out.size; simp at this ⊢; omega
        intro v' w1 hown' hgrow _
        have HR := Lib.hid (L2.out.step hlt HB.out hown' hgrow)
        clear hown' hgrow
        go_wp2_with fail
        go_roundw
        case rel => exact ⟨k + 1, by go_num, HR.out⟩
        case measure => simp [intOf]; omega
      · rw [hd] at AN
        have HD := Lib.hid hd
        clear hd
        have hb : X / 2 ^ k % 2 = 1 := by rw [HX.out]; rw [HN.out, HD.out]
        have HB := Lib.hid hb
        clear hb
        obtain ⟨w2, hw2⟩ : ∃ w2 : World, w2 = wr := ⟨_, rfl⟩
        subst hw2
        have L2 := Lib.hid L
        clear L
        go_wp2_with (at_builtin; refine wpList_append_own _ rfl _ _ 84 rfl (w.heap.size + _) 3 i0 (.int .i64 0) 1 8 Tryz.underlying84 hi hz0 hz1 hz2 rfl (by decide) _ _ _ rfl (L2.out.own.alloc _) ⟨w2.heap.size, 0, none⟩ 1 1 [.int .i64 1] rfl rfl (news_one _ _ _) (one_int _ _) ?c3 ?c4 ?c5 ?_)
        case c3 => have := L2.out.le; unfold maxLen; omega
        case c4 => have := L2.out.le; omega
        case c5 => have := L2.out.size; simp at this ⊢; omega
        intro v' w1 hown' hgrow _
        have HR := Lib.hid (L2.out.step hlt HB.out hown' hgrow)
        clear hown' hgrow
        go_wp2_with fail
        go_roundw
        case rel => exact ⟨k + 1, by go_num, HR.out⟩
        case measure => simp [intOf]; omega
    · obtain rfl : k = 256 := by have := L.le; omega
      obtain ⟨B, cap, rfl, hB, hBw, hbits⟩ := owned_bits L.own
      have HBITS := Lib.hid hbits
      have L1 := Lib.hid L
      clear hbits L
      go_wp2_with fail
      refine (from_any X B cap _ hB HBITS.out).mono ?_
      rintro e w2 ⟨o0, o1, o2, o3, rfl, wo, vo, hc⟩
      have L2 := Lib.hid (L1.out.later hc)
      have H5 : Holds w2 (w.heap.size + 1) #[.int .u64 0, .int .u64 0, .int .u64 0, .int .u64 0] 51 := L2.out.res
      have HV := Lib.hid vo
      clear vo hc HBITS L1 hB
      have d0 : w2.cell? ⟨w.heap.size + 1, 0, none⟩ = some (.int .u64 0) := H5.cell 0
      have z0 : w2.frozen? ⟨w.heap.size + 1, 0, none⟩ = false := H5.free 0
      have d1 : w2.cell? ⟨w.heap.size + 1, 1, none⟩ = some (.int .u64 0) := H5.cell 1
      have z1 : w2.frozen? ⟨w.heap.size + 1, 1, none⟩ = false := H5.free 1
      have d2 : w2.cell? ⟨w.heap.size + 1, 2, none⟩ = some (.int .u64 0) := H5.cell 2
      have z2 : w2.frozen? ⟨w.heap.size + 1, 2, none⟩ = false := H5.free 2
      have d3 : w2.cell? ⟨w.heap.size + 1, 3, none⟩ = some (.int .u64 0) := H5.cell 3
      have z3 : w2.frozen? ⟨w.heap.size + 1, 3, none⟩ = false := H5.free 3
      go_wp2_with fail
      have b := ((((L2.out.bel.setCell (p := ⟨w.heap.size + 1, 0, none⟩) (by simp) (.int .u64 (o0 : Nat))).setCell (p := ⟨w.heap.size + 1, 1, none⟩) (by simp) (.int .u64 (o1 : Nat))).setCell (p := ⟨w.heap.size + 1, 2, none⟩) (by simp) (.int .u64 (o2 : Nat))).setCell (p := ⟨w.heap.size + 1, 3, none⟩) (by simp) (.int .u64 (o3 : Nat)))
      have HS : Holds ((((w2.setCell ⟨w.heap.size + 1, 0, none⟩ (.int .u64 (o0 : Nat))).setCell ⟨w.heap.size + 1, 1, none⟩ (.int .u64 (o1 : Nat))).setCell ⟨w.heap.size + 1, 2, none⟩ (.int .u64 (o2 : Nat))).setCell ⟨w.heap.size + 1, 3, none⟩ (.int .u64 (o3 : Nat))) (w.heap.size + 1) #[.int .u64 (o0 : Nat), .int .u64 (o1 : Nat), .int .u64 (o2 : Nat), .int .u64 (o3 : Nat)] 51 := (((H5.set _).set _).set _).set _
      have g0 : ((((w2.setCell ⟨w.heap.size + 1, 0, none⟩ (.int .u64 (o0 : Nat))).setCell ⟨w.heap.size + 1, 1, none⟩ (.int .u64 (o1 : Nat))).setCell ⟨w.heap.size + 1, 2, none⟩ (.int .u64 (o2 : Nat))).setCell ⟨w.heap.size + 1, 3, none⟩ (.int .u64 (o3 : Nat))).cell? ⟨w.heap.size + 1, 0, none⟩ = some (.int .u64 (o0 : Nat)) := HS.cell 0
      have g1 : ((((w2.setCell ⟨w.heap.size + 1, 0, none⟩ (.int .u64 (o0 : Nat))).setCell ⟨w.heap.size + 1, 1, none⟩ (.int .u64 (o1 : Nat))).setCell ⟨w.heap.size + 1, 2, none⟩ (.int .u64 (o2 : Nat))).setCell ⟨w.heap.size + 1, 3, none⟩ (.int .u64 (o3 : Nat))).cell? ⟨w.heap.size + 1, 1, none⟩ = some (.int .u64 (o1 : Nat)) := HS.cell 1
      have g2 : ((((w2.setCell ⟨w.heap.size + 1, 0, none⟩ (.int .u64 (o0 : Nat))).setCell ⟨w.heap.size + 1, 1, none⟩ (.int .u64 (o1 : Nat))).setCell ⟨w.heap.size + 1, 2, none⟩ (.int .u64 (o2 : Nat))).setCell ⟨w.heap.size + 1, 3, none⟩ (.int .u64 (o3 : Nat))).cell? ⟨w.heap.size + 1, 2, none⟩ = some (.int .u64 (o2 : Nat)) := HS.cell 2
      have g3 : ((((w2.setCell ⟨w.heap.size + 1, 0, none⟩ (.int .u64 (o0 : Nat))).setCell ⟨w.heap.size + 1, 1, none⟩ (.int .u64 (o1 : Nat))).setCell ⟨w.heap.size + 1, 2, none⟩ (.int .u64 (o2 : Nat))).setCell ⟨w.heap.size + 1, 3, none⟩ (.int .u64 (o3 : Nat))).cell? ⟨w.heap.size + 1, 3, none⟩ = some (.int .u64 (o3 : Nat)) := HS.cell 3
      refine bodyPost_ret (v := .agg #[.int .u64 (o0 : Nat), .int .u64 (o1 : Nat), .int .u64 (o2 : Nat), .int .u64 (o3 : Nat)]) (by simp [results, Tryz.results72, go_sem, g0, g1, g2, g3]) rfl ⟨o0, o1, o2, o3, rfl, wo, HV.out, b⟩

end Go.Proofs.YtimjmmiajgfblaaGreatDoor.Bg
