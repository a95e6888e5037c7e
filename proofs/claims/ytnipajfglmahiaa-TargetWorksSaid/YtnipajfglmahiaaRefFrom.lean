/- From of the document's answers of layer 2: the number of 256 bits that lie in a slice. -/
import Derived.Test.YtnipajfglmahiaaRefBit
import Derived.Test.YtnipajfglmahiaaGrow
namespace Go.Proofs.Ytnipajfglmahiaa
open Go.RowKit

/-- The cells of a block are the bits of X. -/
def BitCells (w : World) (B X : Nat) : Prop := ∀ k, k < 256 → w.cell? ⟨B, k, none⟩ = some (.int .i64 ((X / 2 ^ k % 2 : Nat) : Int))
def FromPost (X : Nat) (w : World) (e : Ending) (w' : World) : Prop := ∃ o0 o1 o2 o3 : Nat, e = .returned (.agg #[.int .u64 (o0 : Nat), .int .u64 (o1 : Nat), .int .u64 (o2 : Nat), .int .u64 (o3 : Nat)]) ∧ Words o0 o1 o2 o3 ∧ val o0 o1 o2 o3 = X % 115792089237316195423570985008687907853269984665640564039457584007913129639936 ∧ Below w.heap.size w w'
def FromRel (X : Nat) (w : World) (i : Value) (wr : World) : Prop :=
  ∃ k o0 o1 o2 o3 : Nat, k ≤ 256 ∧ i = .int .i64 (k : Nat) ∧ Words o0 o1 o2 o3 ∧ val o0 o1 o2 o3 = X % 2 ^ k ∧ Holds wr w.heap.size #[.int .u64 0, .int .u64 0, .int .u64 0, .int .u64 0] 25 ∧ Holds wr (w.heap.size + 1) #[.int .u64 (o0 : Nat), .int .u64 (o1 : Nat), .int .u64 (o2 : Nat), .int .u64 (o3 : Nat)] 25 ∧ Below w.heap.size w wr

theorem mod_succ (X k : Nat) : X % 2 ^ (k + 1) = X % 2 ^ k + 2 ^ k * (X / 2 ^ k % 2) := by
  rw [Nat.pow_succ, Nat.mod_mul]
theorem or_add (o r : Nat) (ho : o < 2 ^ r) (hr : r < 64) : bits BinOp.or IntKind.u64 (o : Int) ((2 ^ r : Nat) : Int) = ((o + 2 ^ r : Nat) : Int) := by
  have h1 : 2 ^ r ≤ 2 ^ 63 := Nat.pow_le_pow_right (by omega) (by omega)
  have e63 : (2 : Nat) ^ 63 = 9223372036854775808 := by decide
  rw [bits_or_u64_nat o (2 ^ r) (by omega) (by omega)]
  have := Nat.two_pow_add_eq_or_of_lt ho 1
  rw [Nat.mul_one] at this
  rw [Nat.or_comm, ← this, Nat.add_comm]
theorem set_0 {o0 o1 o2 o3 r k : Nat} (ho : Words o0 o1 o2 o3) (hr : r < 64) (hk : k = 0 + r) (h : val o0 o1 o2 o3 < 2 ^ k) : o0 < 2 ^ r ∧ Words (o0 + 2 ^ r) o1 o2 o3 ∧ val (o0 + 2 ^ r) o1 o2 o3 = val o0 o1 o2 o3 + 2 ^ k := by
  have h1 : 2 ^ r ≤ 2 ^ 63 := Nat.pow_le_pow_right (by omega) (by omega)
  have e63 : (2 : Nat) ^ 63 = 9223372036854775808 := by decide
  have ek : 2 ^ k = 1 * 2 ^ r := by rw [hk, Nat.pow_add]
  obtain ⟨h0, h1', h2, h3⟩ := ho
  rw [ek] at h ⊢
  generalize 2 ^ r = p at *
  clear ek e63
  have hj : o0 < p := by unfold val at h; omega
  refine ⟨hj, ⟨by omega, by omega, by omega, by omega⟩, ?_⟩
  unfold val; omega
theorem set_1 {o0 o1 o2 o3 r k : Nat} (ho : Words o0 o1 o2 o3) (hr : r < 64) (hk : k = 64 + r) (h : val o0 o1 o2 o3 < 2 ^ k) : o1 < 2 ^ r ∧ Words o0 (o1 + 2 ^ r) o2 o3 ∧ val o0 (o1 + 2 ^ r) o2 o3 = val o0 o1 o2 o3 + 2 ^ k := by
  have h1 : 2 ^ r ≤ 2 ^ 63 := Nat.pow_le_pow_right (by omega) (by omega)
  have e63 : (2 : Nat) ^ 63 = 9223372036854775808 := by decide
  have ek : 2 ^ k = 18446744073709551616 * 2 ^ r := by rw [hk, Nat.pow_add]
  obtain ⟨h0, h1', h2, h3⟩ := ho
  rw [ek] at h ⊢
  generalize 2 ^ r = p at *
  clear ek e63
  have hj : o1 < p := by unfold val at h; omega
  refine ⟨hj, ⟨by omega, by omega, by omega, by omega⟩, ?_⟩
  unfold val; omega
theorem set_2 {o0 o1 o2 o3 r k : Nat} (ho : Words o0 o1 o2 o3) (hr : r < 64) (hk : k = 128 + r) (h : val o0 o1 o2 o3 < 2 ^ k) : o2 < 2 ^ r ∧ Words o0 o1 (o2 + 2 ^ r) o3 ∧ val o0 o1 (o2 + 2 ^ r) o3 = val o0 o1 o2 o3 + 2 ^ k := by
  have h1 : 2 ^ r ≤ 2 ^ 63 := Nat.pow_le_pow_right (by omega) (by omega)
  have e63 : (2 : Nat) ^ 63 = 9223372036854775808 := by decide
  have ek : 2 ^ k = 340282366920938463463374607431768211456 * 2 ^ r := by rw [hk, Nat.pow_add]
  obtain ⟨h0, h1', h2, h3⟩ := ho
  rw [ek] at h ⊢
  generalize 2 ^ r = p at *
  clear ek e63
  have hj : o2 < p := by unfold val at h; omega
  refine ⟨hj, ⟨by omega, by omega, by omega, by omega⟩, ?_⟩
  unfold val; omega
theorem set_3 {o0 o1 o2 o3 r k : Nat} (ho : Words o0 o1 o2 o3) (hr : r < 64) (hk : k = 192 + r) (h : val o0 o1 o2 o3 < 2 ^ k) : o3 < 2 ^ r ∧ Words o0 o1 o2 (o3 + 2 ^ r) ∧ val o0 o1 o2 (o3 + 2 ^ r) = val o0 o1 o2 o3 + 2 ^ k := by
  have h1 : 2 ^ r ≤ 2 ^ 63 := Nat.pow_le_pow_right (by omega) (by omega)
  have e63 : (2 : Nat) ^ 63 = 9223372036854775808 := by decide
  have ek : 2 ^ k = 6277101735386680763835789423207666416102355444464034512896 * 2 ^ r := by rw [hk, Nat.pow_add]
  obtain ⟨h0, h1', h2, h3⟩ := ho
  rw [ek] at h ⊢
  generalize 2 ^ r = p at *
  clear ek e63
  have hj : o3 < p := by unfold val at h; omega
  refine ⟨hj, ⟨by omega, by omega, by omega, by omega⟩, ?_⟩
  unfold val; omega

set_option maxRecDepth 100000 in
set_option maxHeartbeats 4000000 in
theorem from_any (X B cap : Nat) (w : World) (hB : B < w.heap.size) (hc : BitCells w B X) : Calls Try.prog 43 #[.slice (some ⟨B, 0, none⟩) 256 cap] w (FromPost X w) := by
  have HC := Lib.hid hc
  clear hc
  go_enter Try.func43, Try.ntmps43
  go_wp2_with fail
  go_loopw [4] (fun i wr => FromRel X w i wr) (fun i _ => 256 - (intOf i).toNat)
  case atStart =>
    exact ⟨0, 0, 0, 0, 0, by omega, rfl, ⟨by omega, by omega, by omega, by omega⟩, by rw [Nat.pow_zero, Nat.mod_one]; rfl, (Holds.new _ _ _).later ((Below.refl _ _).alloc (Nat.le_refl _) _), by have := Holds.new (w.alloc (.cells #[.int .u64 0, .int .u64 0, .int .u64 0, .int .u64 0] 25)) #[.int .u64 0, .int .u64 0, .int .u64 0, .int .u64 0] 25; simpa using this, ((Below.refl _ _).alloc (Nat.le_refl _) _).alloc (by simp) _⟩
  case round =>
    obtain ⟨k, o0, o1, o2, o3, hk, rfl, wo, vo, H2, H3, bel⟩ := hrel
    have f0 : ∀ q, wr.frozen? ⟨w.heap.size, q, none⟩ = false := H2.free
    by_cases hlt : k < 256
    · have hcell : wr.cell? ⟨B, k, none⟩ = some (.int .i64 ((X / 2 ^ k % 2 : Nat) : Int)) := (bel.cell (p := ⟨B, k, none⟩) hB).trans (HC.out k hlt)
      have t1 : decide ((k : Int) < 256) = true := decide_eq_true (by omega)
      clear f0
      rcases Nat.mod_two_eq_zero_or_one (X / 2 ^ k) with hb | hb
      · rw [hb] at hcell
        have HB := Lib.hid hb
        have HV := Lib.hid vo
        clear hb vo
        go_wp2_with fail
        go_roundw
        case rel => exact ⟨k + 1, o0, o1, o2, o3, by omega, by go_num, wo, by rw [mod_succ, HB.out, Nat.mul_zero, Nat.add_zero]; exact HV.out, H2, H3, bel⟩
        case measure => simp [intOf]; omega
      · rw [hb] at hcell
        have c0 : wr.cell? ⟨w.heap.size + 1, 0, none⟩ = some (.int .u64 (o0 : Nat)) := H3.cell 0
        have c1 : wr.cell? ⟨w.heap.size + 1, 1, none⟩ = some (.int .u64 (o1 : Nat)) := H3.cell 1
        have c2 : wr.cell? ⟨w.heap.size + 1, 2, none⟩ = some (.int .u64 (o2 : Nat)) := H3.cell 2
        have c3 : wr.cell? ⟨w.heap.size + 1, 3, none⟩ = some (.int .u64 (o3 : Nat)) := H3.cell 3
        have z0 : wr.frozen? ⟨w.heap.size + 1, 0, none⟩ = false := H3.free 0
        have z1 : wr.frozen? ⟨w.heap.size + 1, 1, none⟩ = false := H3.free 1
        have z2 : wr.frozen? ⟨w.heap.size + 1, 2, none⟩ = false := H3.free 2
        have z3 : wr.frozen? ⟨w.heap.size + 1, 3, none⟩ = false := H3.free 3
        obtain ⟨r, hr⟩ : ∃ r, r = k % 64 := ⟨_, rfl⟩
        have hr64 : r < 64 := by omega
        have e2 : (k : Int) % 64 = (r : Int) := by omega
        have P : IntKind.u64.wrap (2 ^ r) = ((2 ^ r : Nat) : Int) := by
          have h1 : 2 ^ r ≤ 2 ^ 63 := Nat.pow_le_pow_right (by omega) (by omega)
          have e63 : (2 : Nat) ^ 63 = 9223372036854775808 := by decide
          have e : (2 : Int) ^ r = ((2 ^ r : Nat) : Int) := by simp
          rw [e]
          clear e
          generalize 2 ^ r = p at *
          rw [IntKind.wrap_u64]
          omega
        have hvk : val o0 o1 o2 o3 < 2 ^ k := by rw [vo]; exact Nat.mod_lt _ (Nat.two_pow_pos k)
        have HB := Lib.hid hb
        have HV := Lib.hid vo
        have HK := Lib.hid hvk
        clear hb vo hvk
        rcases (by omega : k / 64 = 0 ∨ k / 64 = 1 ∨ k / 64 = 2 ∨ k / 64 = 3) with h | h | h | h
        · have e1 : (k : Int) / 64 = 0 := by omega
          obtain ⟨s1, s2, s3⟩ := set_0 wo hr64 (show k = 0 + r by omega) HK.out
          have OR := or_add o0 r s1 hr64
          have HS3 := Lib.hid s3
          have HS2 := Lib.hid s2
          clear h hr s1 s2 s3
          generalize 2 ^ r = p at *
          generalize o0 + p = x at *
          go_wp2_with fail
          go_roundw
          case rel => exact ⟨k + 1, x, o1, o2, o3, by omega, by go_num, HS2.out, by rw [mod_succ, HB.out, Nat.mul_one, HS3.out, HV.out], H2.other (by omega) _, H3.set (q := 0) _, bel.setCell (by simp) _⟩
          case measure => simp [intOf]; omega
        · have e1 : (k : Int) / 64 = 1 := by omega
          obtain ⟨s1, s2, s3⟩ := set_1 wo hr64 (show k = 64 + r by omega) HK.out
          have OR := or_add o1 r s1 hr64
          have HS3 := Lib.hid s3
          have HS2 := Lib.hid s2
          clear h hr s1 s2 s3
          generalize 2 ^ r = p at *
          generalize o1 + p = x at *
          go_wp2_with fail
          go_roundw
          case rel => exact ⟨k + 1, o0, x, o2, o3, by omega, by go_num, HS2.out, by rw [mod_succ, HB.out, Nat.mul_one, HS3.out, HV.out], H2.other (by omega) _, H3.set (q := 1) _, bel.setCell (by simp) _⟩
          case measure => simp [intOf]; omega
        · have e1 : (k : Int) / 64 = 2 := by omega
          obtain ⟨s1, s2, s3⟩ := set_2 wo hr64 (show k = 128 + r by omega) HK.out
          have OR := or_add o2 r s1 hr64
          have HS3 := Lib.hid s3
          have HS2 := Lib.hid s2
          clear h hr s1 s2 s3
          generalize 2 ^ r = p at *
          generalize o2 + p = x at *
          go_wp2_with fail
          go_roundw
          case rel => exact ⟨k + 1, o0, o1, x, o3, by omega, by go_num, HS2.out, by rw [mod_succ, HB.out, Nat.mul_one, HS3.out, HV.out], H2.other (by omega) _, H3.set (q := 2) _, bel.setCell (by simp) _⟩
          case measure => simp [intOf]; omega
        · have e1 : (k : Int) / 64 = 3 := by omega
          obtain ⟨s1, s2, s3⟩ := set_3 wo hr64 (show k = 192 + r by omega) HK.out
          have OR := or_add o3 r s1 hr64
          have HS3 := Lib.hid s3
          have HS2 := Lib.hid s2
          clear h hr s1 s2 s3
          generalize 2 ^ r = p at *
          generalize o3 + p = x at *
          go_wp2_with fail
          go_roundw
          case rel => exact ⟨k + 1, o0, o1, o2, x, by omega, by go_num, HS2.out, by rw [mod_succ, HB.out, Nat.mul_one, HS3.out, HV.out], H2.other (by omega) _, H3.set (q := 3) _, bel.setCell (by simp) _⟩
          case measure => simp [intOf]; omega
    · have hk256 : k = 256 := by omega
      subst hk256
      have c0 : wr.cell? ⟨w.heap.size + 1, 0, none⟩ = some (.int .u64 (o0 : Nat)) := H3.cell 0
      have c1 : wr.cell? ⟨w.heap.size + 1, 1, none⟩ = some (.int .u64 (o1 : Nat)) := H3.cell 1
      have c2 : wr.cell? ⟨w.heap.size + 1, 2, none⟩ = some (.int .u64 (o2 : Nat)) := H3.cell 2
      have c3 : wr.cell? ⟨w.heap.size + 1, 3, none⟩ = some (.int .u64 (o3 : Nat)) := H3.cell 3
      have d0 : wr.cell? ⟨w.heap.size, 0, none⟩ = some (.int .u64 0) := H2.cell 0
      have d1 : wr.cell? ⟨w.heap.size, 1, none⟩ = some (.int .u64 0) := H2.cell 1
      have d2 : wr.cell? ⟨w.heap.size, 2, none⟩ = some (.int .u64 0) := H2.cell 2
      have d3 : wr.cell? ⟨w.heap.size, 3, none⟩ = some (.int .u64 0) := H2.cell 3
      have z0 := f0 0
      have z1 := f0 1
      have z2 := f0 2
      have z3 := f0 3
      clear f0
      have HV := Lib.hid vo
      clear vo
      go_wp2_with fail
      have b := (((bel.setCell (p := ⟨w.heap.size, 0, none⟩) (Nat.le_refl _) (.int .u64 (o0 : Nat))).setCell (p := ⟨w.heap.size, 1, none⟩) (Nat.le_refl _) (.int .u64 (o1 : Nat))).setCell (p := ⟨w.heap.size, 2, none⟩) (Nat.le_refl _) (.int .u64 (o2 : Nat))).setCell (p := ⟨w.heap.size, 3, none⟩) (Nat.le_refl _) (.int .u64 (o3 : Nat))
      have HS : Holds ((((wr.setCell ⟨w.heap.size, 0, none⟩ (.int .u64 (o0 : Nat))).setCell ⟨w.heap.size, 1, none⟩ (.int .u64 (o1 : Nat))).setCell ⟨w.heap.size, 2, none⟩ (.int .u64 (o2 : Nat))).setCell ⟨w.heap.size, 3, none⟩ (.int .u64 (o3 : Nat))) w.heap.size #[.int .u64 (o0 : Nat), .int .u64 (o1 : Nat), .int .u64 (o2 : Nat), .int .u64 (o3 : Nat)] 25 := (((H2.set _).set _).set _).set _
      have g0 : ((((wr.setCell ⟨w.heap.size, 0, none⟩ (.int .u64 (o0 : Nat))).setCell ⟨w.heap.size, 1, none⟩ (.int .u64 (o1 : Nat))).setCell ⟨w.heap.size, 2, none⟩ (.int .u64 (o2 : Nat))).setCell ⟨w.heap.size, 3, none⟩ (.int .u64 (o3 : Nat))).cell? ⟨w.heap.size, 0, none⟩ = some (.int .u64 (o0 : Nat)) := HS.cell 0
      have g1 : ((((wr.setCell ⟨w.heap.size, 0, none⟩ (.int .u64 (o0 : Nat))).setCell ⟨w.heap.size, 1, none⟩ (.int .u64 (o1 : Nat))).setCell ⟨w.heap.size, 2, none⟩ (.int .u64 (o2 : Nat))).setCell ⟨w.heap.size, 3, none⟩ (.int .u64 (o3 : Nat))).cell? ⟨w.heap.size, 1, none⟩ = some (.int .u64 (o1 : Nat)) := HS.cell 1
      have g2 : ((((wr.setCell ⟨w.heap.size, 0, none⟩ (.int .u64 (o0 : Nat))).setCell ⟨w.heap.size, 1, none⟩ (.int .u64 (o1 : Nat))).setCell ⟨w.heap.size, 2, none⟩ (.int .u64 (o2 : Nat))).setCell ⟨w.heap.size, 3, none⟩ (.int .u64 (o3 : Nat))).cell? ⟨w.heap.size, 2, none⟩ = some (.int .u64 (o2 : Nat)) := HS.cell 2
      have g3 : ((((wr.setCell ⟨w.heap.size, 0, none⟩ (.int .u64 (o0 : Nat))).setCell ⟨w.heap.size, 1, none⟩ (.int .u64 (o1 : Nat))).setCell ⟨w.heap.size, 2, none⟩ (.int .u64 (o2 : Nat))).setCell ⟨w.heap.size, 3, none⟩ (.int .u64 (o3 : Nat))).cell? ⟨w.heap.size, 3, none⟩ = some (.int .u64 (o3 : Nat)) := HS.cell 3
      refine bodyPost_ret (v := .agg #[.int .u64 (o0 : Nat), .int .u64 (o1 : Nat), .int .u64 (o2 : Nat), .int .u64 (o3 : Nat)]) (by simp [results, Try.results43, go_sem, g0, g1, g2, g3]) rfl ⟨o0, o1, o2, o3, rfl, wo, HV.out, b⟩

end Go.Proofs.Ytnipajfglmahiaa
