/- From of the document's answers of layer 2: the number of 256 bits that lie in a slice. -/
import Derived.Test.YtimjmmiajgfblaaGreatDoorQRefBit
import Derived.Test.YtimjmmiajgfblaaGreatDoorGad
import Derived.Laws.AppendOwn
import Derived.Laws.OwnMore

namespace Go.Proofs.YtimjmmiajgfblaaGreatDoor.Bg
open Go.RowKit

/-- The cells of a block are the bits of X. -/
def BitCells (w : World) (B X : Nat) : Prop := ∀ k, k < 256 → w.cell? ⟨B, k, none⟩ = some (.int .i64 ((X / 2 ^ k % 2 : Nat) : Int))
def FromPost (X : Nat) (w : World) (e : Ending) (w' : World) : Prop := ∃ o0 o1 o2 o3 : Nat, e = .returned (.agg #[.int .u64 (o0 : Nat), .int .u64 (o1 : Nat), .int .u64 (o2 : Nat), .int .u64 (o3 : Nat)]) ∧ Words o0 o1 o2 o3 ∧ val o0 o1 o2 o3 = X % 115792089237316195423570985008687907853269984665640564039457584007913129639936 ∧ Below w.heap.size w w'
def FromRel (X : Nat) (w : World) (i : Value) (wr : World) : Prop :=
  ∃ k o0 o1 o2 o3 : Nat, k ≤ 256 ∧ i = .int .i64 (k : Nat) ∧ Words o0 o1 o2 o3 ∧ val o0 o1 o2 o3 = X % 2 ^ k ∧ Holds wr w.heap.size #[.int .u64 0, .int .u64 0, .int .u64 0, .int .u64 0] 51 ∧ Holds wr (w.heap.size + 1) #[.int .u64 (o0 : Nat), .int .u64 (o1 : Nat), .int .u64 (o2 : Nat), .int .u64 (o3 : Nat)] 51 ∧ Below w.heap.size w wr

theorem mod_succ (X k : Nat) : X % 2 ^ (k + 1) = X % 2 ^ k + 2 ^ k * (X / 2 ^ k % 2) := by
  rw [Nat.pow_succ, Nat.mod_mul]
theorem or_add (o r : Nat) (ho : o < 2 ^ r) (hr : r < 64) : bits BinOp.or IntKind.u64 (o : Int) ((2 ^ r : Nat) : Int) = ((o + 2 ^ r : Nat) : Int) := by
  have h1 : 2 ^ r ≤ 2 ^ 63 := Nat.pow_le_pow_right (by omega) (by omega)
  have e63 : (2 : Nat) ^ 63 = 9223372036854775808 := by decide
  rw [bits_or_u64_nat o (2 ^ r) (by omega) (by omega)]
  have := Nat.two_pow_add_eq_or_of_lt ho 1
  rw [Nat.mul_one] at this
  rw [Nat.or_comm, ← this, Nat.add_comm]
theorem set_0 {o0 o1 o2 o3 r k : Nat} (ho : Words o0 o1 o2 o3) (hr : r < 64) (hk : k = 0 + r) (h : val o0 o1 o2 o3 < 2 ^ k) : o0 < 2 ^ r ∧ Words (o0 + 2 ^ r) o1 o2 o3 ∧ val (o0 + 2 ^ r) o1 o2 o3 = val o0 o1 o2 o3 + 2 ^ k := by
  have h1 : 2 ^ r ≤ 2 ^ 63 := Nat.pow_le_pow_right (by omega) (by omega)
  have e63 : (2 : Nat) ^ 63 = 9223372036854775808 := by decide
  have ek : 2 ^ k = 1 * 2 ^ r := by rw [hk, Nat.pow_add]
  obtain ⟨h0, h1', h2, h3⟩ := ho
  rw [ek] at h ⊢
  generalize 2 ^ r = p at *
  clear ek e63
  have hj : o0 < p := by unfold val at h; omega
  refine ⟨hj, ⟨by omega, by omega, by omega, by omega⟩, ?_⟩
  unfold val; omega
theorem set_1 {o0 o1 o2 o3 r k : Nat} (ho : Words o0 o1 o2 o3) (hr : r < 64) (hk : k = 64 + r) (h : val o0 o1 o2 o3 < 2 ^ k) : o1 < 2 ^ r ∧ Words o0 (o1 + 2 ^ r) o2 o3 ∧ val o0 (o1 + 2 ^ r) o2 o3 = val o0 o1 o2 o3 + 2 ^ k := by
  have h1 : 2 ^ r ≤ 2 ^ 63 := Nat.pow_le_pow_right (by omega) (by omega)
  have e63 : (2 : Nat) ^ 63 = 9223372036854775808 := by decide
  have ek : 2 ^ k = 18446744073709551616 * 2 ^ r := by rw [hk, Nat.pow_add]
  obtain ⟨h0, h1', h2, h3⟩ := ho
  rw [ek] at h ⊢
  generalize 2 ^ r = p at *
  clear ek e63
  have hj : o1 < p := by unfold val at h; omega
  refine ⟨hj, ⟨by omega, by omega, by omega, by omega⟩, ?_⟩
  unfold val; omega
theorem set_2 {o0 o1 o2 o3 r k : Nat} (ho : Words o0 o1 o2 o3) (hr : r < 64) (hk : k = 128 + r) (h : val o0 o1 o2 o3 < 2 ^ k) : o2 < 2 ^ r ∧ Words o0 o1 (o2 + 2 ^ r) o3 ∧ val o0 o1 (o2 + 2 ^ r) o3 = val o0 o1 o2 o3 + 2 ^ k := by
  have h1 : 2 ^ r ≤ 2 ^ 63 := Nat.pow_le_pow_right (by omega) (by omega)
  have e63 : (2 : Nat) ^ 63 = 9223372036854775808 := by decide
  have ek : 2 ^ k = 340282366920938463463374607431768211456 * 2 ^ r := by rw [hk, Nat.pow_add]
  obtain ⟨h0, h1', h2, h3⟩ := ho
  rw [ek] at h ⊢
  generalize 2 ^ r = p at *
  clear ek e63
  have hj : o2 < p := by unfold val at h; omega
  refine ⟨hj, ⟨by omega, by omega, by omega, by omega⟩, ?_⟩
  unfold val; omega
theorem set_3 {o0 o1 o2 o3 r k : Nat} (ho : Words o0 o1 o2 o3) (hr : r < 64) (hk : k = 192 + r) (h : val o0 o1 o2 o3 < 2 ^ k) : o3 < 2 ^ r ∧ Words o0 o1 o2 (o3 + 2 ^ r) ∧ val o0 o1 o2 (o3 + 2 ^ r) = val o0 o1 o2 o3 + 2 ^ k := by
  have h1 : 2 ^ r ≤ 2 ^ 63 := Nat.pow_le_pow_right (by omega) (by omega)
  have e63 : (2 : Nat) ^ 63 = 9223372036854775808 := by decide
  have ek : 2 ^ k = 6277101735386680763835789423207666416102355444464034512896 * 2 ^ r := by rw [hk, Nat.pow_add]
  obtain ⟨h0, h1', h2, h3⟩ := ho
  rw [ek] at h ⊢
  generalize 2 ^ r = p at *
  clear ek e63
  have hj : o3 < p := by unfold val at h; omega
  refine ⟨hj, ⟨by omega, by omega, by omega, by omega⟩, ?_⟩
  unfold val; omega

set_option maxRecDepth 100000 in
set_option maxHeartbeats 4000000 in
theorem from_any (X B cap : Nat) (w : World) (hB : B < w.heap.size) (hc : BitCells w B X) : Calls Tryz.prog 55 #[.slice (some ⟨B, 0, none⟩) 256 cap] w (FromPost X w) := by
  have HC := Lib.hid hc
  clear hc
  go_enter Tryz.func55, Tryz.ntmps55
  go_wp2_with fail
  go_loopw [4] (fun i wr => FromRel X w i wr) (fun i _ => 256 - (intOf i).toNat)
  case atStart =>
    exact ⟨0, 0, 0, 0, 0, by omega, rfl, ⟨by omega, by omega, by omega, by omega⟩, by rw [Nat.pow_zero, Nat.mod_one]; rfl, (Holds.new _ _ _).later ((Below.refl _ _).alloc (Nat.le_refl _) _), by have := Holds.new (w.alloc (.cells #[.int .u64 0, .int .u64 0, .int .u64 0, .int .u64 0] 51)) #[.int .u64 0, .int .u64 0, .int .u64 0, .int .u64 0] 51; simpa using this, ((Below.refl _ _).alloc (Nat.le_refl _) _).alloc (by simp) _⟩
  case round =>
    obtain ⟨k, o0, o1, o2, o3, hk, rfl, wo, vo, H2, H3, bel⟩ := hrel
    have f0 : ∀ q, wr.frozen? ⟨w.heap.size, q, none⟩ = false := H2.free
    by_cases hlt : k < 256
    · have hcell : wr.cell? ⟨B, k, none⟩ = some (.int .i64 ((X / 2 ^ k % 2 : Nat) : Int)) := (bel.cell (p := ⟨B, k, none⟩) hB).trans (HC.out k hlt)
      have t1 : decide ((k : Int) < 256) = true := decide_eq_true (by omega)
      clear f0
      rcases Nat.mod_two_eq_zero_or_one (X / 2 ^ k) with hb | hb
      · rw [hb] at hcell
        have HB := Lib.hid hb
        have HV := Lib.hid vo
        clear hb vo
        go_wp2_with fail
        go_roundw
        case rel => exact ⟨k + 1, o0, o1, o2, o3, by omega, by go_num, wo, by rw [mod_succ, HB.out, Nat.mul_zero, Nat.add_zero]; exact HV.out, H2, H3, bel⟩
        case measure => simp [intOf]; omega
      · rw [hb] at hcell
        have c0 : wr.cell? ⟨w.heap.size + 1, 0, none⟩ = some (.int .u64 (o0 : Nat)) := H3.cell 0
        have c1 : wr.cell? ⟨w.heap.size + 1, 1, none⟩ = some (.int .u64 (o1 : Nat)) := H3.cell 1
        have c2 : wr.cell? ⟨w.heap.size + 1, 2, none⟩ = some (.int .u64 (o2 : Nat)) := H3.cell 2
        have c3 : wr.cell? ⟨w.heap.size + 1, 3, none⟩ = some (.int .u64 (o3 : Nat)) := H3.cell 3
        have z0 : wr.frozen? ⟨w.heap.size + 1, 0, none⟩ = false := H3.free 0
        have z1 : wr.frozen? ⟨w.heap.size + 1, 1, none⟩ = false := H3.free 1
        have z2 : wr.frozen? ⟨w.heap.size + 1, 2, none⟩ = false := H3.free 2
        have z3 : wr.frozen? ⟨w.heap.size + 1, 3, none⟩ = false := H3.free 3
        obtain ⟨r, hr⟩ : ∃ r, r = k % 64 := ⟨_, rfl⟩
        have hr64 : r < 64 := by omega
        have e2 : (k : Int) % 64 = (r : Int) := by omega
        have P : IntKind.u64.wrap (2 ^ r) = ((2 ^ r : Nat) : Int) := by
          have h1 : 2 ^ r ≤ 2 ^ 63 := Nat.pow_le_pow_right (by omega) (by omega)
          have e63 : (2 : Nat) ^ 63 = 9223372036854775808 := by decide
          have e : (2 : Int) ^ r = ((2 ^ r : Nat) : Int) := by simp
          rw [e]
          clear e
          generalize 2 ^ r = p at *
          rw [IntKind.wrap_u64]
          omega
        have hvk : val o0 o1 o2 o3 < 2 ^ k := by rw [vo]; exact Nat.mod_lt _ (Nat.two_pow_pos k)
        have HB := Lib.hid hb
        have HV := Lib.hid vo
        have HK := Lib.hid hvk
        clear hb vo hvk
        rcases (by omega : k / 64 = 0 ∨ k / 64 = 1 ∨ k / 64 = 2 ∨ k / 64 = 3) with h | h | h | h
        · have e1 : (k : Int) / 64 = 0 := by omega
          obtain ⟨s1, s2, s3⟩ := set_0 wo hr64 (show k = 0 + r by omega) HK.out
          have OR := or_add o0 r s1 hr64
          have HS3 := Lib.hid s3
          have HS2 := Lib.hid s2
          clear h hr s1 s2 s3
          generalize 2 ^ r = p at *
          generalize o0 + p = x at *
          go_wp2_with fail
          go_roundw
          case rel => exact ⟨k + 1, x, o1, o2, o3, by omega, by go_num, HS2.out, by rw [mod_succ, HB.out, Nat.mul_one, HS3.out, HV.out], H2.other (by omega) _, H3.set (q := 0) _, bel.setCell (by simp) _⟩
          case measure => simp [intOf]; omega
        · have e1 : (k : Int) / 64 = 1 := by omega
          obtain ⟨s1, s2, s3⟩ := set_1 wo hr64 (show k = 64 + r by omega) HK.out
          have OR := or_add o1 r s1 hr64
          have HS3 := Lib.hid s3
          have HS2 := Lib.hid s2
          clear h hr s1 s2 s3
          generalize 2 ^ r = p at *
          generalize o1 + p = x at *
          go_wp2_with fail
          go_roundw
          case rel => exact ⟨k + 1, o0, x, o2, o3, by omega, by go_num, HS2.out, by rw [mod_succ, HB.out, Nat.mul_one, HS3.out, HV.out], H2.other (by omega) _, H3.set (q := 1) _, bel.setCell (by simp) _⟩
          case measure => simp [intOf]; omega
        · have e1 : (k : Int) / 64 = 2 := by omega
          obtain ⟨s1, s2, s3⟩ := set_2 wo hr64 (show k = 128 + r by omega) HK.out
          have OR := or_add o2 r s1 hr64
          have HS3 := Lib.hid s3
          have HS2 := Lib.hid s2
          clear h hr s1 s2 s3
          generalize 2 ^ r = p at *
          generalize o2 + p = x at *
          go_wp2_with fail
          go_roundw
          case rel => exact ⟨k + 1, o0, o1, x, o3, by omega, by go_num, HS2.out, by rw [mod_succ, HB.out, Nat.mul_one, HS3.out, HV.out], H2.other (by omega) _, H3.set (q := 2) _, bel.setCell (by simp) _⟩
          case measure => simp [intOf]; omega
        · have e1 : (k : Int) / 64 = 3 := by omega
          obtain ⟨s1, s2, s3⟩ := set_3 wo hr64 (show k = 192 + r by omega) HK.out
          have OR := or_add o3 r s1 hr64
          have HS3 := Lib.hid s3
          have HS2 := Lib.hid s2
          clear h hr s1 s2 s3
          generalize 2 ^ r = p at *
          generalize o3 + p = x at *
          go_wp2_with fail
          go_roundw
          case rel => exact ⟨k + 1, o0, o1, o2, x, by omega, by go_num, HS2.out, by rw [mod_succ, HB.out, Nat.mul_one, HS3.out, HV.out], H2.other (by omega) _, H3.set (q := 3) _, bel.setCell (by simp) _⟩
          case measure => simp [intOf]; omega
    · have hk256 : k = 256 := by omega
      subst hk256
      have c0 : wr.cell? ⟨w.heap.size + 1, 0, none⟩ = some (.int .u64 (o0 : Nat)) := H3.cell 0
      have c1 : wr.cell? ⟨w.heap.size + 1, 1, none⟩ = some (.int .u64 (o1 : Nat)) := H3.cell 1
      have c2 : wr.cell? ⟨w.heap.size + 1, 2, none⟩ = some (.int .u64 (o2 : Nat)) := H3.cell 2
      have c3 : wr.cell? ⟨w.heap.size + 1, 3, none⟩ = some (.int .u64 (o3 : Nat)) := H3.cell 3
      have d0 : wr.cell? ⟨w.heap.size, 0, none⟩ = some (.int .u64 0) := H2.cell 0
      have d1 : wr.cell? ⟨w.heap.size, 1, none⟩ = some (.int .u64 0) := H2.cell 1
      have d2 : wr.cell? ⟨w.heap.size, 2, none⟩ = some (.int .u64 0) := H2.cell 2
      have d3 : wr.cell? ⟨w.heap.size, 3, none⟩ = some (.int .u64 0) := H2.cell 3
      have z0 := f0 0
      have z1 := f0 1
      have z2 := f0 2
      have z3 := f0 3
      clear f0
      have HV := Lib.hid vo
      clear vo
      go_wp2_with fail
      have b := (((bel.setCell (p := ⟨w.heap.size, 0, none⟩) (Nat.le_refl _) (.int .u64 (o0 : Nat))).setCell (p := ⟨w.heap.size, 1, none⟩) (Nat.le_refl _) (.int .u64 (o1 : Nat))).setCell (p := ⟨w.heap.size, 2, none⟩) (Nat.le_refl _) (.int .u64 (o2 : Nat))).setCell (p := ⟨w.heap.size, 3, none⟩) (Nat.le_refl _) (.int .u64 (o3 : Nat))
      have HS : Holds ((((wr.setCell ⟨w.heap.size, 0, none⟩ (.int .u64 (o0 : Nat))).setCell ⟨w.heap.size, 1, none⟩ (.int .u64 (o1 : Nat))).setCell ⟨w.heap.size, 2, none⟩ (.int .u64 (o2 : Nat))).setCell ⟨w.heap.size, 3, none⟩ (.int .u64 (o3 : Nat))) w.heap.size #[.int .u64 (o0 : Nat), .int .u64 (o1 : Nat), .int .u64 (o2 : Nat), .int .u64 (o3 : Nat)] 51 := (((H2.set _).set _).set _).set _
      have g0 : ((((wr.setCell ⟨w.heap.size, 0, none⟩ (.int .u64 (o0 : Nat))).setCell ⟨w.heap.size, 1, none⟩ (.int .u64 (o1 : Nat))).setCell ⟨w.heap.size, 2, none⟩ (.int .u64 (o2 : Nat))).setCell ⟨w.heap.size, 3, none⟩ (.int .u64 (o3 : Nat))).cell? ⟨w.heap.size, 0, none⟩ = some (.int .u64 (o0 : Nat)) := HS.cell 0
      have g1 : ((((wr.setCell ⟨w.heap.size, 0, none⟩ (.int .u64 (o0 : Nat))).setCell ⟨w.heap.size, 1, none⟩ (.int .u64 (o1 : Nat))).setCell ⟨w.heap.size, 2, none⟩ (.int .u64 (o2 : Nat))).setCell ⟨w.heap.size, 3, none⟩ (.int .u64 (o3 : Nat))).cell? ⟨w.heap.size, 1, none⟩ = some (.int .u64 (o1 : Nat)) := HS.cell 1
      have g2 : ((((wr.setCell ⟨w.heap.size, 0, none⟩ (.int .u64 (o0 : Nat))).setCell ⟨w.heap.size, 1, none⟩ (.int .u64 (o1 : Nat))).setCell ⟨w.heap.size, 2, none⟩ (.int .u64 (o2 : Nat))).setCell ⟨w.heap.size, 3, none⟩ (.int .u64 (o3 : Nat))).cell? ⟨w.heap.size, 2, none⟩ = some (.int .u64 (o2 : Nat)) := HS.cell 2
      have g3 : ((((wr.setCell ⟨w.heap.size, 0, none⟩ (.int .u64 (o0 : Nat))).setCell ⟨w.heap.size, 1, none⟩ (.int .u64 (o1 : Nat))).setCell ⟨w.heap.size, 2, none⟩ (.int .u64 (o2 : Nat))).setCell ⟨w.heap.size, 3, none⟩ (.int .u64 (o3 : Nat))).cell? ⟨w.heap.size, 3, none⟩ = some (.int .u64 (o3 : Nat)) := HS.cell 3
      refine bodyPost_ret (v := .agg #[.int .u64 (o0 : Nat), .int .u64 (o1 : Nat), .int .u64 (o2 : Nat), .int .u64 (o3 : Nat)]) (by simp [results, Tryz.results55, go_sem, g0, g1, g2, g3]) rfl ⟨o0, o1, o2, o3, rfl, wo, HV.out, b⟩

end Go.Proofs.YtimjmmiajgfblaaGreatDoor.Bg

/- A list of bits that a loop makes, as the document's answers of layer 2 do: what a call of the loop's own owns, bit by bit. -/
namespace Go.Proofs.YtimjmmiajgfblaaGreatDoor.Bg
open Go.RowKit

/-- The first k bits of X, the lowest first. -/
def bitVals (X : Nat) : Nat → List Value
  | 0 => []
  | k + 1 => bitVals X k ++ [.int .i64 ((X / 2 ^ k % 2 : Nat) : Int)]
theorem bitVals_length (X : Nat) : ∀ k, (bitVals X k).length = k
  | 0 => rfl
  | k + 1 => by rw [bitVals, List.length_append, bitVals_length X k]; rfl
theorem bitVals_get (X : Nat) : ∀ n k, k < n → (bitVals X n)[k]? = some (.int .i64 ((X / 2 ^ k % 2 : Nat) : Int))
  | 0, k, h => by omega
  | n + 1, k, h => by
    rw [bitVals]
    by_cases e : k = n
    · subst e
      rw [List.getElem?_append_right (by rw [bitVals_length]; omega), bitVals_length, Nat.sub_self]; rfl
    · rw [List.getElem?_append_left (by rw [bitVals_length]; omega), bitVals_get X n k (by omega)]

theorem ownsRow_later {w w' : World} {base : Nat} {e : TypeId} {size : Nat} {v : Value} {n : Nat} {xs : List Value} (h : w.ownsRow base e size v n xs) (g : Below w.heap.size w w') : w'.ownsRow base e size v n xs := by
  obtain ⟨h1, h2⟩ := h
  refine ⟨h1, ?_⟩
  rcases h2 with h2 | ⟨b, cap, cur, hv, hb, hh, r⟩
  · exact Or.inl h2
  · exact Or.inr ⟨b, cap, cur, hv, hb, by rw [g.block b (Array.getElem?_eq_some_iff.1 hh).1]; exact hh, r⟩

/-- An owned row of 256 bits is a slice whose cells they are. -/
theorem owned_bits {w : World} {base X : Nat} {v : Value} (h : w.ownsRow base 3 1 v 256 (bitVals X 256)) : ∃ B cap, v = .slice (some ⟨B, 0, none⟩) 256 cap ∧ B < w.heap.size ∧ base ≤ B ∧ BitCells w B X := by
  have h0 := h
  obtain ⟨h1, h2 | ⟨b, cap, cur, hv, hb, hh, r⟩⟩ := h
  · exact absurd h2.2 (by decide)
  · refine ⟨b, cap, hv, (Array.getElem?_eq_some_iff.1 hh).1, hb, fun k hk => ?_⟩
    subst hv
    have := World.ownsRow.cellAt h0 k (by omega)
    rw [this, bitVals_get X 256 k hk]

theorem Tryz.infoInt : (Tryz.prog.info? 3).map (fun i => (i.zero, i.size, i.bytes)) = some (some (.int .i64 0), 1, 8) := by kernel_rfl

theorem bit_at {a0 a1 a2 a3 : Nat} (ha : Words a0 a1 a2 a3) {i : Int} (n : Nat) (e : i = (n : Int)) (hn : n < 256) (w : World) :
    Calls Tryz.prog 54 #[.agg #[.int .u64 (a0 : Nat), .int .u64 (a1 : Nat), .int .u64 (a2 : Nat), .int .u64 (a3 : Nat)], .int .i64 i] w fun e w' => e = .returned (.int .i64 ((val a0 a1 a2 a3 / 2 ^ n % 2 : Nat) : Int)) ∧ Below w.heap.size w w' := by
  subst e; exact bit_any ha n hn w

theorem news_one (w : World) (v : Value) (T : TypeId) : ∀ j u, [v][j]? = some u → (w.alloc (.cells #[v] T)).cell? ((⟨w.heap.size, 0, none⟩ : Addr).add j) = some u := by
  intro j u hj
  rcases j with _ | j
  · simp at hj
    subst hj
    simp [go_sem]
  · simp at hj
theorem one_int (k : IntKind) (n : Int) : ∀ u ∈ [Value.int k n], u.oneCell' = true := by
  intro u hu
  simp at hu
  subst hu
  rfl


theorem boxes2 (w : World) (a c : Array Value) : ∀ j x, [a, c][j]? = some x → Holds ((w.alloc (.cells a 51)).alloc (.cells c 51)) (w.heap.size + j) x 51 := by
  intro j x hj
  rcases j with _ | _ | j
  · simp at hj; subst hj; exact (Holds.new _ _ _).later ((Below.refl _ _).alloc (Nat.le_refl _) _)
  · simp at hj; subst hj; have := Holds.new (w.alloc (.cells a 51)) c 51; simpa using this
  · simp at hj
theorem below2 (w : World) (a c : Array Value) : Below w.heap.size w ((w.alloc (.cells a 51)).alloc (.cells c 51)) := ((Below.refl _ _).alloc (Nat.le_refl _) _).alloc (by simp) _
theorem boxes3 (w : World) (a c d : Array Value) : ∀ j x, [a, c, d][j]? = some x → Holds (((w.alloc (.cells a 51)).alloc (.cells c 51)).alloc (.cells d 51)) (w.heap.size + j) x 51 := by
  intro j x hj
  rcases j with _ | _ | _ | j
  · exact (boxes2 w a c 0 x hj).later ((Below.refl _ _).alloc (Nat.le_refl _) _)
  · exact (boxes2 w a c 1 x hj).later ((Below.refl _ _).alloc (Nat.le_refl _) _)
  · simp at hj; subst hj; have := Holds.new ((w.alloc (.cells a 51)).alloc (.cells c 51)) d 51; simpa [Nat.add_assoc] using this
  · simp at hj
theorem below3 (w : World) (a c d : Array Value) : Below w.heap.size w (((w.alloc (.cells a 51)).alloc (.cells c 51)).alloc (.cells d 51)) := (below2 w a c).alloc (by simp; omega) _
/-- A list of bits under way: v owns the first k bits of X; the boxes of the call lie below it. -/
structure ListAt (X : Nat) (w : World) (bx : List (Array Value)) (k : Nat) (v : Value) (wr : World) : Prop where
  le : k ≤ 256
  own : wr.ownsRow (w.heap.size + bx.length) 3 1 v k (bitVals X k)
  box : ∀ j c, bx[j]? = some c → Holds wr (w.heap.size + j) c 51
  bel : Below w.heap.size w wr
  size : w.heap.size + bx.length ≤ wr.heap.size

theorem ListAt.later {X : Nat} {w wr w1 : World} {bx : List (Array Value)} {k : Nat} {v : Value} (h : ListAt X w bx k v wr) (g : Below wr.heap.size wr w1) : ListAt X w bx k v w1 :=
  ⟨h.le, ownsRow_later h.own g, fun j c hj => (h.box j c hj).later g, h.bel.trans (g.mono h.bel.size), Nat.le_trans h.size g.size⟩

theorem ListAt.step {X b k : Nat} {w wr w1 : World} {bx : List (Array Value)} {v v' : Value} {o : Obj} (h : ListAt X w bx k v wr) (hk : k < 256) (hb : X / 2 ^ k % 2 = b)
    (hown' : w1.ownsRow (w.heap.size + bx.length) 3 1 v' (k + 1) (bitVals X k ++ [.int .i64 (b : Nat)])) (hgrow : (wr.alloc o).grownBy w1 v.ownBlock) : ListAt X w bx (k + 1) v' w1 := by
  have hsz := h.size
  have far : ∀ q, q < w.heap.size + bx.length → some q ≠ v.ownBlock := fun q hq e => by have := (h.own.lt q e.symm).1; omega
  refine ⟨by omega, by rw [bitVals, hb]; exact hown', fun j c hj => ?_, (h.bel.alloc (by omega) o).grown hgrow (by simp; omega) (fun q hq => by have := (h.own.lt q hq).1; omega), ?_⟩
  · have h2 := (h.box j c hj).later ((Below.refl _ _).alloc (Nat.le_refl _) o)
    have hlt : j < bx.length := (List.getElem?_eq_some_iff.1 hj).1
    unfold Holds at h2 ⊢
    rw [hgrow.block _ (by simp; omega) (far _ (by omega))]
    exact h2
  · have := hgrow.size
    simp at this
    omega

end Go.Proofs.YtimjmmiajgfblaaGreatDoor.Bg

/- Up and Down of the document's answers of layer 2, at every number and every shift. -/
namespace Go.Proofs.YtimjmmiajgfblaaGreatDoor.Bg
open Go.RowKit

theorem up_bit_low (A n j : Nat) (h : j < n) : A * 2 ^ n / 2 ^ j % 2 = 0 := by
  have e : A * 2 ^ n = A * 2 ^ (n - j - 1) * 2 * 2 ^ j := by
    rw [Nat.mul_assoc, Nat.mul_assoc, Nat.mul_comm 2, ← Nat.pow_succ, ← Nat.pow_add, show n - j - 1 + (j + 1) = n by omega]
  rw [e, Nat.mul_div_cancel _ (Nat.two_pow_pos j), Nat.mul_mod_left]
theorem up_bit_high (A n j : Nat) (h : n ≤ j) : A * 2 ^ n / 2 ^ j = A / 2 ^ (j - n) := by
  have e : 2 ^ j = 2 ^ (j - n) * 2 ^ n := by rw [← Nat.pow_add, show j - n + n = j by omega]
  rw [e, Nat.mul_div_mul_right _ _ (Nat.two_pow_pos n)]
theorem down_bit (A n j : Nat) : A / 2 ^ n / 2 ^ j = A / 2 ^ (j + n) := by
  rw [Nat.div_div_eq_div_mul, ← Nat.pow_add, Nat.add_comm]
theorem down_bit_high (A n j : Nat) (hA : A < 115792089237316195423570985008687907853269984665640564039457584007913129639936) (h : 256 ≤ j + n) : A / 2 ^ n / 2 ^ j % 2 = 0 := by
  rw [down_bit]
  have e256 : (2 : Nat) ^ 256 = 115792089237316195423570985008687907853269984665640564039457584007913129639936 := by decide
  have : 2 ^ 256 ≤ 2 ^ (j + n) := Nat.pow_le_pow_right (by omega) h
  rw [Nat.div_eq_of_lt (by omega)]


set_option maxRecDepth 100000 in
set_option maxHeartbeats 8000000 in
theorem refup_any {a0 a1 a2 a3 : Nat} (ha : Words a0 a1 a2 a3) (n : Nat) (hn : 1 ≤ n) (hm : n ≤ 9223372036854775807) (w : World) : Calls Tryz.prog 52 #[.agg #[.int .u64 (a0 : Nat), .int .u64 (a1 : Nat), .int .u64 (a2 : Nat), .int .u64 (a3 : Nat)], .int .i64 (n : Nat)] w (FromPost (val a0 a1 a2 a3 * 2 ^ n) w) := by
  obtain ⟨i0, hi, hz0, hz1, hz2⟩ := info_parts Tryz.infoInt
  obtain ⟨X, hX⟩ : ∃ X, X = val a0 a1 a2 a3 * 2 ^ n := ⟨_, rfl⟩
  rw [← hX]
  have HX := Lib.hid hX
  have hA : val a0 a1 a2 a3 < 115792089237316195423570985008687907853269984665640564039457584007913129639936 := by obtain ⟨_, _, _, _⟩ := ha; unfold val; omega
  have HA := Lib.hid hA
  have n0 : decide (n = 0) = false := decide_eq_false (by omega)
  clear hX hA
  go_enter Tryz.func52, Tryz.ntmps52
  go_wp2_with fail
  go_loopw [5, 6] (fun v i wr => ∃ k : Nat, i = .int .i64 (k : Nat) ∧ ListAt X w [#[.int .u64 (a0 : Nat), .int .u64 (a1 : Nat), .int .u64 (a2 : Nat), .int .u64 (a3 : Nat)], #[.int .u64 0, .int .u64 0, .int .u64 0, .int .u64 0]] k v wr) (fun _ i _ => 256 - (intOf i).toNat)
  case atStart => exact ⟨0, rfl, ⟨by omega, ⟨rfl, Or.inl ⟨rfl, rfl⟩⟩, boxes2 _ _ _, below2 _ _ _, by simp⟩⟩
  case round =>
    obtain ⟨k, rfl, L⟩ := hrel
    by_cases hlt : k < 256
    · have t1 : decide ((k : Int) < 256) = true := decide_eq_true (by omega)
      have a0' : wr.cell? ⟨w.heap.size, 0, none⟩ = some (.int .u64 (a0 : Nat)) := (L.box 0 _ rfl).cell 0
      have a1' : wr.cell? ⟨w.heap.size, 1, none⟩ = some (.int .u64 (a1 : Nat)) := (L.box 0 _ rfl).cell 1
      have a2' : wr.cell? ⟨w.heap.size, 2, none⟩ = some (.int .u64 (a2 : Nat)) := (L.box 0 _ rfl).cell 2
      have a3' : wr.cell? ⟨w.heap.size, 3, none⟩ = some (.int .u64 (a3 : Nat)) := (L.box 0 _ rfl).cell 3
      by_cases far : 256 < n
      · have t2 : decide ((256 : Int) < (n : Int)) = true := decide_eq_true (by omega)
        have hb : X / 2 ^ k % 2 = 0 := by rw [HX.out]; exact up_bit_low _ _ _ (by omega)
        have HB := Lib.hid hb
        clear hb
        obtain ⟨w2, hw2⟩ : ∃ w2 : World, w2 = wr := ⟨_, rfl⟩
        subst hw2
        have L2 := Lib.hid L
        clear L
        go_wp2_with (at_builtin; refine wpList_append_own _ rfl _ _ 84 rfl (w.heap.size + _) 3 i0 (.int .i64 0) 1 8 Tryz.underlying84 hi hz0 hz1 hz2 rfl (by decide) _ _ _ rfl (L2.out.own.alloc _) ⟨w2.heap.size, 0, none⟩ 1 1 [.int .i64 0] rfl rfl (news_one _ _ _) (one_int _ _) ?c3 ?c4 ?c5 ?_)
        case c3 => have := L2.out.le; unfold maxLen; omega
        case c4 => have := L2.out.le; omega
        case c5 => have := L2.out.size; simp at this ⊢; omega
        intro v' w1 hown' hgrow _
        have HR := Lib.hid (L2.out.step hlt HB.out hown' hgrow)
        clear hown' hgrow
        go_wp2_with fail
        go_roundw
        case rel => exact ⟨k + 1, by go_num, HR.out⟩
        case measure => simp [intOf]; omega
      · have t2 : decide ((256 : Int) < (n : Int)) = false := decide_eq_false (by omega)
        by_cases part : k < n
        · have hb : X / 2 ^ k % 2 = 0 := by rw [HX.out]; exact up_bit_low _ _ _ part
          have HB := Lib.hid hb
          clear hb
          go_wp2_with fail
          refine (bit_low a0 a1 a2 a3 _ _ (by omega)).mono ?_
          rintro e w2 ⟨rfl, hc⟩
          have L2 := Lib.hid (L.later hc)
          clear L hc
          go_wp2_with (at_builtin; refine wpList_append_own _ rfl _ _ 84 rfl (w.heap.size + _) 3 i0 (.int .i64 0) 1 8 Tryz.underlying84 hi hz0 hz1 hz2 rfl (by decide) _ _ _ rfl (L2.out.own.alloc _) ⟨w2.heap.size, 0, none⟩ 1 1 [.int .i64 0] rfl rfl (news_one _ _ _) (one_int _ _) ?c3 ?c4 ?c5 ?_)
          case c3 => have := L2.out.le; unfold maxLen; omega
          case c4 => have := L2.out.le; omega
          case c5 => have := L2.out.size; simp at this ⊢; omega
          intro v' w1 hown' hgrow _
          have HR := Lib.hid (L2.out.step hlt HB.out hown' hgrow)
          clear hown' hgrow
          go_wp2_with fail
          go_roundw
          case rel => exact ⟨k + 1, by go_num, HR.out⟩
          case measure => simp [intOf]; omega
        · have hb : X / 2 ^ k % 2 = val a0 a1 a2 a3 / 2 ^ (k - n) % 2 := by rw [HX.out]; rw [up_bit_high _ _ _ (by omega)]
          have HB := Lib.hid hb
          clear hb
          go_wp2_with fail
          refine (bit_at ha (k - n) (by omega) (by omega) _).mono ?_
          rintro e w2 ⟨rfl, hc⟩
          have L2 := Lib.hid (L.later hc)
          clear L hc
          go_wp2_with (at_builtin; refine wpList_append_own _ rfl _ _ 84 rfl (w.heap.size + _) 3 i0 (.int .i64 0) 1 8 Tryz.underlying84 hi hz0 hz1 hz2 rfl (by decide) _ _ _ rfl (L2.out.own.alloc _) ⟨w2.heap.size, 0, none⟩ 1 1 [.int .i64 ((val a0 a1 a2 a3 / 2 ^ (k - n) % 2 : Nat) : Int)] rfl rfl (news_one _ _ _) (one_int _ _) ?c3 ?c4 ?c5 ?_)
          case c3 => have := L2.out.le; unfold maxLen; omega
          case c4 => have := L2.out.le; omega
          case c5 => have := L2.out.size; simp at this ⊢; omega
          intro v' w1 hown' hgrow _
          have HR := Lib.hid (L2.out.step hlt HB.out hown' hgrow)
          clear hown' hgrow
          go_wp2_with fail
          go_roundw
          case rel => exact ⟨k + 1, by go_num, HR.out⟩
          case measure => simp [intOf]; omega
    · obtain rfl : k = 256 := by have := L.le; omega
      obtain ⟨B, cap, rfl, hB, hBw, hbits⟩ := owned_bits L.own
      have HBITS := Lib.hid hbits
      have L1 := Lib.hid L
      clear hbits L
      go_wp2_with fail
      refine (from_any X B cap _ hB HBITS.out).mono ?_
      rintro e w2 ⟨o0, o1, o2, o3, rfl, wo, vo, hc⟩
      have L2 := Lib.hid (L1.out.later hc)
      have H5 : Holds w2 (w.heap.size + 1) #[.int .u64 0, .int .u64 0, .int .u64 0, .int .u64 0] 51 := L2.out.box 1 _ rfl
      have HV := Lib.hid vo
      clear vo hc HBITS L1 hB
      have d0 : w2.cell? ⟨w.heap.size + 1, 0, none⟩ = some (.int .u64 0) := H5.cell 0
      have z0 : w2.frozen? ⟨w.heap.size + 1, 0, none⟩ = false := H5.free 0
      have d1 : w2.cell? ⟨w.heap.size + 1, 1, none⟩ = some (.int .u64 0) := H5.cell 1
      have z1 : w2.frozen? ⟨w.heap.size + 1, 1, none⟩ = false := H5.free 1
      have d2 : w2.cell? ⟨w.heap.size + 1, 2, none⟩ = some (.int .u64 0) := H5.cell 2
      have z2 : w2.frozen? ⟨w.heap.size + 1, 2, none⟩ = false := H5.free 2
      have d3 : w2.cell? ⟨w.heap.size + 1, 3, none⟩ = some (.int .u64 0) := H5.cell 3
      have z3 : w2.frozen? ⟨w.heap.size + 1, 3, none⟩ = false := H5.free 3
      go_wp2_with fail
      have b := ((((L2.out.bel.setCell (p := ⟨w.heap.size + 1, 0, none⟩) (by simp) (.int .u64 (o0 : Nat))).setCell (p := ⟨w.heap.size + 1, 1, none⟩) (by simp) (.int .u64 (o1 : Nat))).setCell (p := ⟨w.heap.size + 1, 2, none⟩) (by simp) (.int .u64 (o2 : Nat))).setCell (p := ⟨w.heap.size + 1, 3, none⟩) (by simp) (.int .u64 (o3 : Nat)))
      have HS : Holds ((((w2.setCell ⟨w.heap.size + 1, 0, none⟩ (.int .u64 (o0 : Nat))).setCell ⟨w.heap.size + 1, 1, none⟩ (.int .u64 (o1 : Nat))).setCell ⟨w.heap.size + 1, 2, none⟩ (.int .u64 (o2 : Nat))).setCell ⟨w.heap.size + 1, 3, none⟩ (.int .u64 (o3 : Nat))) (w.heap.size + 1) #[.int .u64 (o0 : Nat), .int .u64 (o1 : Nat), .int .u64 (o2 : Nat), .int .u64 (o3 : Nat)] 51 := (((H5.set _).set _).set _).set _
      have g0 : ((((w2.setCell ⟨w.heap.size + 1, 0, none⟩ (.int .u64 (o0 : Nat))).setCell ⟨w.heap.size + 1, 1, none⟩ (.int .u64 (o1 : Nat))).setCell ⟨w.heap.size + 1, 2, none⟩ (.int .u64 (o2 : Nat))).setCell ⟨w.heap.size + 1, 3, none⟩ (.int .u64 (o3 : Nat))).cell? ⟨w.heap.size + 1, 0, none⟩ = some (.int .u64 (o0 : Nat)) := HS.cell 0
      have g1 : ((((w2.setCell ⟨w.heap.size + 1, 0, none⟩ (.int .u64 (o0 : Nat))).setCell ⟨w.heap.size + 1, 1, none⟩ (.int .u64 (o1 : Nat))).setCell ⟨w.heap.size + 1, 2, none⟩ (.int .u64 (o2 : Nat))).setCell ⟨w.heap.size + 1, 3, none⟩ (.int .u64 (o3 : Nat))).cell? ⟨w.heap.size + 1, 1, none⟩ = some (.int .u64 (o1 : Nat)) := HS.cell 1
      have g2 : ((((w2.setCell ⟨w.heap.size + 1, 0, none⟩ (.int .u64 (o0 : Nat))).setCell ⟨w.heap.size + 1, 1, none⟩ (.int .u64 (o1 : Nat))).setCell ⟨w.heap.size + 1, 2, none⟩ (.int .u64 (o2 : Nat))).setCell ⟨w.heap.size + 1, 3, none⟩ (.int .u64 (o3 : Nat))).cell? ⟨w.heap.size + 1, 2, none⟩ = some (.int .u64 (o2 : Nat)) := HS.cell 2
      have g3 : ((((w2.setCell ⟨w.heap.size + 1, 0, none⟩ (.int .u64 (o0 : Nat))).setCell ⟨w.heap.size + 1, 1, none⟩ (.int .u64 (o1 : Nat))).setCell ⟨w.heap.size + 1, 2, none⟩ (.int .u64 (o2 : Nat))).setCell ⟨w.heap.size + 1, 3, none⟩ (.int .u64 (o3 : Nat))).cell? ⟨w.heap.size + 1, 3, none⟩ = some (.int .u64 (o3 : Nat)) := HS.cell 3
      refine bodyPost_ret (v := .agg #[.int .u64 (o0 : Nat), .int .u64 (o1 : Nat), .int .u64 (o2 : Nat), .int .u64 (o3 : Nat)]) (by simp [results, Tryz.results52, go_sem, g0, g1, g2, g3]) rfl ⟨o0, o1, o2, o3, rfl, wo, HV.out, b⟩

set_option maxRecDepth 100000 in
set_option maxHeartbeats 8000000 in
theorem refdown_any {a0 a1 a2 a3 : Nat} (ha : Words a0 a1 a2 a3) (n : Nat) (hn : 1 ≤ n) (hm : n ≤ 9223372036854775807) (w : World) : Calls Tryz.prog 51 #[.agg #[.int .u64 (a0 : Nat), .int .u64 (a1 : Nat), .int .u64 (a2 : Nat), .int .u64 (a3 : Nat)], .int .i64 (n : Nat)] w (FromPost (val a0 a1 a2 a3 / 2 ^ n) w) := by
  obtain ⟨i0, hi, hz0, hz1, hz2⟩ := info_parts Tryz.infoInt
  obtain ⟨X, hX⟩ : ∃ X, X = val a0 a1 a2 a3 / 2 ^ n := ⟨_, rfl⟩
  rw [← hX]
  have HX := Lib.hid hX
  have hA : val a0 a1 a2 a3 < 115792089237316195423570985008687907853269984665640564039457584007913129639936 := by obtain ⟨_, _, _, _⟩ := ha; unfold val; omega
  have HA := Lib.hid hA
  have n0 : decide (n = 0) = false := decide_eq_false (by omega)
  clear hX hA
  go_enter Tryz.func51, Tryz.ntmps51
  go_wp2_with fail
  go_loopw [5, 6] (fun v i wr => ∃ k : Nat, i = .int .i64 (k : Nat) ∧ ListAt X w [#[.int .u64 (a0 : Nat), .int .u64 (a1 : Nat), .int .u64 (a2 : Nat), .int .u64 (a3 : Nat)], #[.int .u64 0, .int .u64 0, .int .u64 0, .int .u64 0]] k v wr) (fun _ i _ => 256 - (intOf i).toNat)
  case atStart => exact ⟨0, rfl, ⟨by omega, ⟨rfl, Or.inl ⟨rfl, rfl⟩⟩, boxes2 _ _ _, below2 _ _ _, by simp⟩⟩
  case round =>
    obtain ⟨k, rfl, L⟩ := hrel
    by_cases hlt : k < 256
    · have t1 : decide ((k : Int) < 256) = true := decide_eq_true (by omega)
      have a0' : wr.cell? ⟨w.heap.size, 0, none⟩ = some (.int .u64 (a0 : Nat)) := (L.box 0 _ rfl).cell 0
      have a1' : wr.cell? ⟨w.heap.size, 1, none⟩ = some (.int .u64 (a1 : Nat)) := (L.box 0 _ rfl).cell 1
      have a2' : wr.cell? ⟨w.heap.size, 2, none⟩ = some (.int .u64 (a2 : Nat)) := (L.box 0 _ rfl).cell 2
      have a3' : wr.cell? ⟨w.heap.size, 3, none⟩ = some (.int .u64 (a3 : Nat)) := (L.box 0 _ rfl).cell 3
      by_cases far : 256 < n
      · have t2 : decide ((256 : Int) < (n : Int)) = true := decide_eq_true (by omega)
        have hb : X / 2 ^ k % 2 = 0 := by rw [HX.out]; exact down_bit_high _ _ _ HA.out (by omega)
        have HB := Lib.hid hb
        clear hb
        obtain ⟨w2, hw2⟩ : ∃ w2 : World, w2 = wr := ⟨_, rfl⟩
        subst hw2
        have L2 := Lib.hid L
        clear L
        go_wp2_with (at_builtin; refine wpList_append_own _ rfl _ _ 84 rfl (w.heap.size + _) 3 i0 (.int .i64 0) 1 8 Tryz.underlying84 hi hz0 hz1 hz2 rfl (by decide) _ _ _ rfl (L2.out.own.alloc _) ⟨w2.heap.size, 0, none⟩ 1 1 [.int .i64 0] rfl rfl (news_one _ _ _) (one_int _ _) ?c3 ?c4 ?c5 ?_)
        case c3 => have := L2.out.le; unfold maxLen; omega
        case c4 => have := L2.out.le; omega
        case c5 => have := L2.out.size; simp at this ⊢; omega
        intro v' w1 hown' hgrow _
        have HR := Lib.hid (L2.out.step hlt HB.out hown' hgrow)
        clear hown' hgrow
        go_wp2_with fail
        go_roundw
        case rel => exact ⟨k + 1, by go_num, HR.out⟩
        case measure => simp [intOf]; omega
      · have t2 : decide ((256 : Int) < (n : Int)) = false := decide_eq_false (by omega)
        by_cases part : 256 ≤ k + n
        · have hb : X / 2 ^ k % 2 = 0 := by rw [HX.out]; exact down_bit_high _ _ _ HA.out part
          have HB := Lib.hid hb
          clear hb
          go_wp2_with fail
          refine (bit_high a0 a1 a2 a3 _ _ (by omega)).mono ?_
          rintro e w2 ⟨rfl, hc⟩
          have L2 := Lib.hid (L.later hc)
          clear L hc
          go_wp2_with (at_builtin; refine wpList_append_own _ rfl _ _ 84 rfl (w.heap.size + _) 3 i0 (.int .i64 0) 1 8 Tryz.underlying84 hi hz0 hz1 hz2 rfl (by decide) _ _ _ rfl (L2.out.own.alloc _) ⟨w2.heap.size, 0, none⟩ 1 1 [.int .i64 0] rfl rfl (news_one _ _ _) (one_int _ _) ?c3 ?c4 ?c5 ?_)
          case c3 => have := L2.out.le; unfold maxLen; omega
          case c4 => have := L2.out.le; omega
          case c5 => have := L2.out.size; simp at this ⊢; omega
          intro v' w1 hown' hgrow _
          have HR := Lib.hid (L2.out.step hlt HB.out hown' hgrow)
          clear hown' hgrow
          go_wp2_with fail
          go_roundw
          case rel => exact ⟨k + 1, by go_num, HR.out⟩
          case measure => simp [intOf]; omega
        · have hb : X / 2 ^ k % 2 = val a0 a1 a2 a3 / 2 ^ (k + n) % 2 := by rw [HX.out]; rw [down_bit]
          have HB := Lib.hid hb
          clear hb
          go_wp2_with fail
          refine (bit_at ha (k + n) (by omega) (by omega) _).mono ?_
          rintro e w2 ⟨rfl, hc⟩
          have L2 := Lib.hid (L.later hc)
          clear L hc
          go_wp2_with (at_builtin; refine wpList_append_own _ rfl _ _ 84 rfl (w.heap.size + _) 3 i0 (.int .i64 0) 1 8 Tryz.underlying84 hi hz0 hz1 hz2 rfl (by decide) _ _ _ rfl (L2.out.own.alloc _) ⟨w2.heap.size, 0, none⟩ 1 1 [.int .i64 ((val a0 a1 a2 a3 / 2 ^ (k + n) % 2 : Nat) : Int)] rfl rfl (news_one _ _ _) (one_int _ _) ?c3 ?c4 ?c5 ?_)
          case c3 => have := L2.out.le; unfold maxLen; omega
          case c4 => have := L2.out.le; omega
          case c5 => have := L2.out.size; simp at this ⊢; omega
          intro v' w1 hown' hgrow _
          have HR := Lib.hid (L2.out.step hlt HB.out hown' hgrow)
          clear hown' hgrow
          go_wp2_with fail
          go_roundw
          case rel => exact ⟨k + 1, by go_num, HR.out⟩
          case measure => simp [intOf]; omega
    · obtain rfl : k = 256 := by have := L.le; omega
      obtain ⟨B, cap, rfl, hB, hBw, hbits⟩ := owned_bits L.own
      have HBITS := Lib.hid hbits
      have L1 := Lib.hid L
      clear hbits L
      go_wp2_with fail
      refine (from_any X B cap _ hB HBITS.out).mono ?_
      rintro e w2 ⟨o0, o1, o2, o3, rfl, wo, vo, hc⟩
      have L2 := Lib.hid (L1.out.later hc)
      have H5 : Holds w2 (w.heap.size + 1) #[.int .u64 0, .int .u64 0, .int .u64 0, .int .u64 0] 51 := L2.out.box 1 _ rfl
      have HV := Lib.hid vo
      clear vo hc HBITS L1 hB
      have d0 : w2.cell? ⟨w.heap.size + 1, 0, none⟩ = some (.int .u64 0) := H5.cell 0
      have z0 : w2.frozen? ⟨w.heap.size + 1, 0, none⟩ = false := H5.free 0
      have d1 : w2.cell? ⟨w.heap.size + 1, 1, none⟩ = some (.int .u64 0) := H5.cell 1
      have z1 : w2.frozen? ⟨w.heap.size + 1, 1, none⟩ = false := H5.free 1
      have d2 : w2.cell? ⟨w.heap.size + 1, 2, none⟩ = some (.int .u64 0) := H5.cell 2
      have z2 : w2.frozen? ⟨w.heap.size + 1, 2, none⟩ = false := H5.free 2
      have d3 : w2.cell? ⟨w.heap.size + 1, 3, none⟩ = some (.int .u64 0) := H5.cell 3
      have z3 : w2.frozen? ⟨w.heap.size + 1, 3, none⟩ = false := H5.free 3
      go_wp2_with fail
      have b := ((((L2.out.bel.setCell (p := ⟨w.heap.size + 1, 0, none⟩) (by simp) (.int .u64 (o0 : Nat))).setCell (p := ⟨w.heap.size + 1, 1, none⟩) (by simp) (.int .u64 (o1 : Nat))).setCell (p := ⟨w.heap.size + 1, 2, none⟩) (by simp) (.int .u64 (o2 : Nat))).setCell (p := ⟨w.heap.size + 1, 3, none⟩) (by simp) (.int .u64 (o3 : Nat)))
      have HS : Holds ((((w2.setCell ⟨w.heap.size + 1, 0, none⟩ (.int .u64 (o0 : Nat))).setCell ⟨w.heap.size + 1, 1, none⟩ (.int .u64 (o1 : Nat))).setCell ⟨w.heap.size + 1, 2, none⟩ (.int .u64 (o2 : Nat))).setCell ⟨w.heap.size + 1, 3, none⟩ (.int .u64 (o3 : Nat))) (w.heap.size + 1) #[.int .u64 (o0 : Nat), .int .u64 (o1 : Nat), .int .u64 (o2 : Nat), .int .u64 (o3 : Nat)] 51 := (((H5.set _).set _).set _).set _
      have g0 : ((((w2.setCell ⟨w.heap.size + 1, 0, none⟩ (.int .u64 (o0 : Nat))).setCell ⟨w.heap.size + 1, 1, none⟩ (.int .u64 (o1 : Nat))).setCell ⟨w.heap.size + 1, 2, none⟩ (.int .u64 (o2 : Nat))).setCell ⟨w.heap.size + 1, 3, none⟩ (.int .u64 (o3 : Nat))).cell? ⟨w.heap.size + 1, 0, none⟩ = some (.int .u64 (o0 : Nat)) := HS.cell 0
      have g1 : ((((w2.setCell ⟨w.heap.size + 1, 0, none⟩ (.int .u64 (o0 : Nat))).setCell ⟨w.heap.size + 1, 1, none⟩ (.int .u64 (o1 : Nat))).setCell ⟨w.heap.size + 1, 2, none⟩ (.int .u64 (o2 : Nat))).setCell ⟨w.heap.size + 1, 3, none⟩ (.int .u64 (o3 : Nat))).cell? ⟨w.heap.size + 1, 1, none⟩ = some (.int .u64 (o1 : Nat)) := HS.cell 1
      have g2 : ((((w2.setCell ⟨w.heap.size + 1, 0, none⟩ (.int .u64 (o0 : Nat))).setCell ⟨w.heap.size + 1, 1, none⟩ (.int .u64 (o1 : Nat))).setCell ⟨w.heap.size + 1, 2, none⟩ (.int .u64 (o2 : Nat))).setCell ⟨w.heap.size + 1, 3, none⟩ (.int .u64 (o3 : Nat))).cell? ⟨w.heap.size + 1, 2, none⟩ = some (.int .u64 (o2 : Nat)) := HS.cell 2
      have g3 : ((((w2.setCell ⟨w.heap.size + 1, 0, none⟩ (.int .u64 (o0 : Nat))).setCell ⟨w.heap.size + 1, 1, none⟩ (.int .u64 (o1 : Nat))).setCell ⟨w.heap.size + 1, 2, none⟩ (.int .u64 (o2 : Nat))).setCell ⟨w.heap.size + 1, 3, none⟩ (.int .u64 (o3 : Nat))).cell? ⟨w.heap.size + 1, 3, none⟩ = some (.int .u64 (o3 : Nat)) := HS.cell 3
      refine bodyPost_ret (v := .agg #[.int .u64 (o0 : Nat), .int .u64 (o1 : Nat), .int .u64 (o2 : Nat), .int .u64 (o3 : Nat)]) (by simp [results, Tryz.results51, go_sem, g0, g1, g2, g3]) rfl ⟨o0, o1, o2, o3, rfl, wo, HV.out, b⟩

end Go.Proofs.YtimjmmiajgfblaaGreatDoor.Bg
