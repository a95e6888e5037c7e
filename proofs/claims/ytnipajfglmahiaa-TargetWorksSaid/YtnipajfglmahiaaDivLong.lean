/- Div of the package big by a number of more than one word: long division, bit by bit. -/
import Derived.Test.YtnipajfglmahiaaSums
import Derived.Test.YtnipajfglmahiaaUp
namespace Go.Proofs.Ytnipajfglmahiaa
open Go.RowKit

/-- Block b holds a number of four words, and may be written. -/
def Own (w : World) (b : Nat) (x0 x1 x2 x3 : Nat) : Prop :=
  (w.cell? ⟨b, 0, none⟩ = some (.int .u64 (x0 : Nat)) ∧ w.cell? ⟨b, 1, none⟩ = some (.int .u64 (x1 : Nat)) ∧ w.cell? ⟨b, 2, none⟩ = some (.int .u64 (x2 : Nat)) ∧ w.cell? ⟨b, 3, none⟩ = some (.int .u64 (x3 : Nat))) ∧
  (w.frozen? ⟨b, 0, none⟩ = false ∧ w.frozen? ⟨b, 1, none⟩ = false ∧ w.frozen? ⟨b, 2, none⟩ = false ∧ w.frozen? ⟨b, 3, none⟩ = false)
theorem Own.lt {w : World} {b x0 x1 x2 x3 : Nat} (h : Own w b x0 x1 x2 x3) : b < w.heap.size := by have := World.block_lt_of_cell? _ _ h.1.1; simpa using this
theorem Own.later {w wx : World} {b x0 x1 x2 x3 : Nat} (h : Own w b x0 x1 x2 x3) (hb : Below w.heap.size w wx) : Own wx b x0 x1 x2 x3 := by
  have l := h.lt
  obtain ⟨⟨c0, c1, c2, c3⟩, f0, f1, f2, f3⟩ := h
  exact ⟨⟨cell_later hb c0, cell_later hb c1, cell_later hb c2, cell_later hb c3⟩, (hb.frozen (p := ⟨b, 0, none⟩) l).trans f0, (hb.frozen (p := ⟨b, 1, none⟩) l).trans f1, (hb.frozen (p := ⟨b, 2, none⟩) l).trans f2, (hb.frozen (p := ⟨b, 3, none⟩) l).trans f3⟩

/-- What the loop of Div keeps: N is divided by D; the bits from n + 1 on of the quotient Q are found, and R is left. -/
def DivInv (N D : Nat) (n : Int) (Q R : Nat) : Prop := N = Q * D + R ∧ R < D * 2 ^ (n + 1).toNat ∧ Q % 2 ^ (n + 1).toNat = 0 ∧ (0 ≤ n → D * 2 ^ n.toNat < 115792089237316195423570985008687907853269984665640564039457584007913129639936)

theorem pow_pred (m : Nat) : 2 ^ ((m : Int) + 1).toNat = 2 * 2 ^ m := by
  rw [show ((m : Int) + 1).toNat = m + 1 by omega, Nat.pow_succ, Nat.mul_comm]

theorem DivInv.small {N D m Q R : Nat} (h : DivInv N D m Q R) (hd : 0 < D) (hlt : R < D * 2 ^ m) : DivInv N D ((m : Int) - 1) Q R := by
  obtain ⟨a, b, c, d⟩ := h
  have e : ((m : Int) - 1 + 1).toNat = m := by omega
  rw [pow_pred] at c
  refine ⟨a, by rw [e]; exact hlt, ?_, fun hm => ?_⟩
  · rw [e]; exact Nat.mod_eq_zero_of_dvd (Nat.dvd_trans (Nat.dvd_mul_left _ 2) (Nat.dvd_of_mod_eq_zero c))
  · have hle : 2 ^ ((m : Int) - 1).toNat ≤ 2 ^ m := Nat.pow_le_pow_right (by omega) (by omega)
    have h1 : D * 2 ^ ((m : Int) - 1).toNat ≤ D * 2 ^ m := Nat.mul_le_mul_left _ hle
    have h2 := d (by omega)
    rw [Int.toNat_natCast] at h2
    omega
theorem DivInv.great {N D m Q R : Nat} (h : DivInv N D m Q R) (hd : 0 < D) (hge : D * 2 ^ m ≤ R) : DivInv N D ((m : Int) - 1) (Q + 2 ^ m) (R - D * 2 ^ m) := by
  obtain ⟨a, b, c, d⟩ := h
  have e : ((m : Int) - 1 + 1).toNat = m := by omega
  rw [pow_pred] at b c
  have e2 : D * (2 * 2 ^ m) = D * 2 ^ m + D * 2 ^ m := by rw [Nat.mul_comm 2, Nat.mul_two, Nat.mul_add]
  refine ⟨?_, by rw [e]; omega, ?_, fun hm => ?_⟩
  · rw [Nat.add_mul, Nat.mul_comm (2 ^ m) D]; omega
  · rw [e]; rw [Nat.add_mod_right]; exact Nat.mod_eq_zero_of_dvd (Nat.dvd_trans (Nat.dvd_mul_left _ 2) (Nat.dvd_of_mod_eq_zero c))
  · have hle : 2 ^ ((m : Int) - 1).toNat ≤ 2 ^ m := Nat.pow_le_pow_right (by omega) (by omega)
    have h1 : D * 2 ^ ((m : Int) - 1).toNat ≤ D * 2 ^ m := Nat.mul_le_mul_left _ hle
    have h2 := d (by omega)
    rw [Int.toNat_natCast] at h2
    omega

/-- A power of two that divides a sum divides its first part, if it divides the other. -/
theorem dvd_word {P x y : Nat} (h : P ∣ x + 18446744073709551616 * y) (hm : P ∣ 18446744073709551616) : P ∣ x :=
  (Nat.dvd_add_left (Nat.dvd_trans hm (Nat.dvd_mul_right _ _))).1 h
theorem word_room {P x : Nat} (hp : 0 < P) (h : P ∣ x) (hm : P ∣ 18446744073709551616) (hx : x < 18446744073709551616) : x + P ≤ 18446744073709551616 := by
  have d : P ∣ 18446744073709551616 - x := Nat.dvd_sub hm h
  have := Nat.le_of_dvd (by omega) d
  omega
theorem cut_words {K V low q : Nat} (M : Nat) (hM : 0 < M) (h : K * M ∣ V) (hV : V = low + M * q) (hl : low < M) : low = 0 ∧ K ∣ q := by
  have h1 : M ∣ V := Nat.dvd_trans (Nat.dvd_mul_left _ _) h
  have h2 : M ∣ low := by rw [hV] at h1; exact (Nat.dvd_add_left (Nat.dvd_mul_right _ _)).1 h1
  have h3 : low = 0 := Nat.eq_zero_of_dvd_of_lt h2 hl
  refine ⟨h3, ?_⟩
  rw [hV, h3, Nat.zero_add, Nat.mul_comm K M] at h
  exact Nat.dvd_of_mul_dvd_mul_left hM h

theorem two_pow_dvd (r : Nat) (hr : r < 64) : 2 * 2 ^ r ∣ 18446744073709551616 := by
  have h := pow_split (r := r) hr
  refine ⟨2 ^ (63 - r), ?_⟩
  have e : 2 ^ (64 - r) = 2 * 2 ^ (63 - r) := by rw [show 64 - r = 63 - r + 1 by omega, Nat.pow_succ, Nat.mul_comm]
  rw [e] at h
  rw [Nat.mul_comm 2 (2 ^ r), Nat.mul_assoc]; exact h.symm

theorem or_bit (x r : Nat) (hr : r < 64) (h : 2 * 2 ^ r ∣ x) (hx : x < 18446744073709551616) : bits .or .u64 (x : Int) (IntKind.u64.wrap ((2 : Int) ^ r)) = ((x + 2 ^ r : Nat) : Int) := by
  have e : (2 : Int) ^ r = ((2 ^ r : Nat) : Int) := (Int.natCast_pow 2 r).symm
  have p0 := Nat.two_pow_pos r
  have lt : 2 * 2 ^ r ≤ 18446744073709551616 := Nat.le_of_dvd (by omega) (two_pow_dvd r hr)
  rw [e, wrap_u64 _ (by omega)]
  exact or_words x (2 ^ r) (r + 1) (by rw [Nat.pow_succ, Nat.mul_comm]; exact Nat.mod_eq_zero_of_dvd h) hx (by rw [Nat.pow_succ]; omega) (by omega)

theorem bit_0 {q0 q1 q2 q3 m r : Nat} (w : Words q0 q1 q2 q3) (hm : m = r + 0) (hr : r < 64) (h : val q0 q1 q2 q3 % (2 * 2 ^ m) = 0) :
    2 * 2 ^ r ∣ q0 ∧ Words (q0 + 2 ^ r) q1 q2 q3 ∧ val (q0 + 2 ^ r) q1 q2 q3 = val q0 q1 q2 q3 + 2 ^ m := by
  obtain ⟨w0, w1, w2, w3⟩ := w
  have pn : 2 ^ m = 2 ^ r := by rw [hm, Nat.add_zero]
  rw [pn] at h ⊢
  have hd := Nat.dvd_of_mod_eq_zero h
  have td := two_pow_dvd r hr
  have p0 := Nat.two_pow_pos r
  have d : 2 * 2 ^ r ∣ q0 := dvd_word (y := q1 + 18446744073709551616 * (q2 + 18446744073709551616 * q3)) hd td
  have rm := word_room (by omega) d td w0
  exact ⟨d, ⟨by omega, by omega, by omega, by omega⟩, by unfold val; omega⟩

theorem bit_1 {q0 q1 q2 q3 m r : Nat} (w : Words q0 q1 q2 q3) (hm : m = r + 64) (hr : r < 64) (h : val q0 q1 q2 q3 % (2 * 2 ^ m) = 0) :
    2 * 2 ^ r ∣ q1 ∧ Words q0 (q1 + 2 ^ r) q2 q3 ∧ val q0 (q1 + 2 ^ r) q2 q3 = val q0 q1 q2 q3 + 2 ^ m := by
  obtain ⟨w0, w1, w2, w3⟩ := w
  have pn : 2 ^ m = 2 ^ r * 18446744073709551616 := by rw [hm, Nat.pow_add]
  rw [pn] at h ⊢
  have hd := Nat.dvd_of_mod_eq_zero h
  have td := two_pow_dvd r hr
  have p0 := Nat.two_pow_pos r
  rw [← Nat.mul_assoc] at hd
  obtain ⟨_, hq⟩ := cut_words (low := q0) (q := (q1 + 18446744073709551616 * (q2 + 18446744073709551616 * q3))) 18446744073709551616 (by omega) hd (by unfold val; omega) (by omega)
  have d : 2 * 2 ^ r ∣ q1 := dvd_word (y := (q2 + 18446744073709551616 * q3)) hq td
  have rm := word_room (by omega) d td w1
  exact ⟨d, ⟨by omega, by omega, by omega, by omega⟩, by unfold val; omega⟩

theorem bit_2 {q0 q1 q2 q3 m r : Nat} (w : Words q0 q1 q2 q3) (hm : m = r + 128) (hr : r < 64) (h : val q0 q1 q2 q3 % (2 * 2 ^ m) = 0) :
    2 * 2 ^ r ∣ q2 ∧ Words q0 q1 (q2 + 2 ^ r) q3 ∧ val q0 q1 (q2 + 2 ^ r) q3 = val q0 q1 q2 q3 + 2 ^ m := by
  obtain ⟨w0, w1, w2, w3⟩ := w
  have pn : 2 ^ m = 2 ^ r * 340282366920938463463374607431768211456 := by rw [hm, Nat.pow_add]
  rw [pn] at h ⊢
  have hd := Nat.dvd_of_mod_eq_zero h
  have td := two_pow_dvd r hr
  have p0 := Nat.two_pow_pos r
  rw [← Nat.mul_assoc] at hd
  obtain ⟨_, hq⟩ := cut_words (low := (q0 + 18446744073709551616 * q1)) (q := (q2 + 18446744073709551616 * q3)) 340282366920938463463374607431768211456 (by omega) hd (by unfold val; omega) (by omega)
  have d : 2 * 2 ^ r ∣ q2 := dvd_word (y := q3) hq td
  have rm := word_room (by omega) d td w2
  exact ⟨d, ⟨by omega, by omega, by omega, by omega⟩, by unfold val; omega⟩

theorem bit_3 {q0 q1 q2 q3 m r : Nat} (w : Words q0 q1 q2 q3) (hm : m = r + 192) (hr : r < 64) (h : val q0 q1 q2 q3 % (2 * 2 ^ m) = 0) :
    2 * 2 ^ r ∣ q3 ∧ Words q0 q1 q2 (q3 + 2 ^ r) ∧ val q0 q1 q2 (q3 + 2 ^ r) = val q0 q1 q2 q3 + 2 ^ m := by
  obtain ⟨w0, w1, w2, w3⟩ := w
  have pn : 2 ^ m = 2 ^ r * 6277101735386680763835789423207666416102355444464034512896 := by rw [hm, Nat.pow_add]
  rw [pn] at h ⊢
  have hd := Nat.dvd_of_mod_eq_zero h
  have td := two_pow_dvd r hr
  have p0 := Nat.two_pow_pos r
  rw [← Nat.mul_assoc] at hd
  obtain ⟨_, hq⟩ := cut_words (low := (q0 + 18446744073709551616 * (q1 + 18446744073709551616 * q2))) (q := q3) 6277101735386680763835789423207666416102355444464034512896 (by omega) hd (by unfold val; omega) (by omega)
  have d : 2 * 2 ^ r ∣ q3 := hq
  have rm := word_room (by omega) d td w3
  exact ⟨d, ⟨by omega, by omega, by omega, by omega⟩, by unfold val; omega⟩

def DivRel (w : World) (N b0 b1 b2 b3 : Nat) (i : Value) (wr : World) : Prop :=
  ∃ (n : Int) (q0 q1 q2 q3 r0 r1 r2 r3 : Nat), i = .int .i64 n ∧ -256 ≤ n ∧ n ≤ 256 ∧ Words q0 q1 q2 q3 ∧ Words r0 r1 r2 r3 ∧ DivInv N (val b0 b1 b2 b3) n (val q0 q1 q2 q3) (val r0 r1 r2 r3) ∧
    Own wr (w.heap.size + 1) b0 b1 b2 b3 ∧ Own wr (w.heap.size + 1 + 1) q0 q1 q2 q3 ∧ Own wr (w.heap.size + 1 + 1 + 1) r0 r1 r2 r3 ∧ Below w.heap.size w wr

/-- What Div returns: quotient and rest. -/
def DivPost (N D : Nat) (w : World) (e : Ending) (w' : World) : Prop :=
  ∃ q0 q1 q2 q3 r0 r1 r2 r3 : Nat, e = .returned (.tuple #[.agg #[.int .u64 (q0 : Nat), .int .u64 (q1 : Nat), .int .u64 (q2 : Nat), .int .u64 (q3 : Nat)], .agg #[.int .u64 (r0 : Nat), .int .u64 (r1 : Nat), .int .u64 (r2 : Nat), .int .u64 (r3 : Nat)], .int .i64 0]) ∧ Words q0 q1 q2 q3 ∧ Words r0 r1 r2 r3 ∧ N = val q0 q1 q2 q3 * D + val r0 r1 r2 r3 ∧ val r0 r1 r2 r3 < D ∧ Below w.heap.size w w'

set_option maxRecDepth 100000 in
set_option maxHeartbeats 8000000 in
theorem div_long (a0 a1 a2 a3 b0 b1 b2 b3 na nb : Nat) (w : World) (ha : Words a0 a1 a2 a3) (hb : Words b0 b1 b2 b3)
    (ez : ∀ w : World, (Op.equalIn 10000 25 (.agg #[.int .u64 (b0 : Nat), .int .u64 (b1 : Nat), .int .u64 (b2 : Nat), .int .u64 (b3 : Nat)]) (.agg #[.int .u64 0, .int .u64 0, .int .u64 0, .int .u64 0])).run Try.prog w = .ok false w)
    (eo : ∀ w : World, (Op.equalIn 10000 25 (.agg #[.int .u64 (b0 : Nat), .int .u64 (b1 : Nat), .int .u64 (b2 : Nat), .int .u64 (b3 : Nat)]) (.agg #[.int .u64 (b0 : Nat), .int .u64 0, .int .u64 0, .int .u64 0])).run Try.prog w = .ok false w)
    (bA : BitsIs a0 a1 a2 a3 na) (bB : BitsIs b0 b1 b2 b3 nb) (hna : na ≤ 256) (hnb : nb ≤ 256) (start : DivInv (val a0 a1 a2 a3) (val b0 b1 b2 b3) ((na : Int) - (nb : Int)) 0 (val a0 a1 a2 a3)) (pos : 0 < val b0 b1 b2 b3) :
    Calls Try.prog 25 #[.agg #[.int .u64 (a0 : Nat), .int .u64 (a1 : Nat), .int .u64 (a2 : Nat), .int .u64 (a3 : Nat)], .agg #[.int .u64 (b0 : Nat), .int .u64 (b1 : Nat), .int .u64 (b2 : Nat), .int .u64 (b3 : Nat)]] w (DivPost (val a0 a1 a2 a3) (val b0 b1 b2 b3) w) := by
  have ST := Lib.hid start
  have POS := Lib.hid pos
  clear start pos
  have BA := Lib.hid bA
  have BB := Lib.hid bB
  have HA := Lib.hid ha
  have HB := Lib.hid hb
  clear bA bB ha hb
  go_enter Try.func25, Try.ntmps25
  go_wp2_with fail
  obtain ⟨W, hW⟩ : ∃ W : World, W = (((w.alloc (.cells #[.int .u64 (a0 : Nat), .int .u64 (a1 : Nat), .int .u64 (a2 : Nat), .int .u64 (a3 : Nat)] 25)).alloc (.cells #[.int .u64 (b0 : Nat), .int .u64 (b1 : Nat), .int .u64 (b2 : Nat), .int .u64 (b3 : Nat)] 25)).alloc (.cells #[.int .u64 0, .int .u64 0, .int .u64 0, .int .u64 0] 25)).alloc (.cells #[.int .u64 0, .int .u64 0, .int .u64 0, .int .u64 0] 25) := ⟨_, rfl⟩
  have oa : Own W (w.heap.size) a0 a1 a2 a3 := by rw [hW]; refine ⟨⟨?_, ?_, ?_, ?_⟩, ?_, ?_, ?_, ?_⟩ <;> go_cell
  have ob : Own W (w.heap.size + 1) b0 b1 b2 b3 := by rw [hW]; refine ⟨⟨?_, ?_, ?_, ?_⟩, ?_, ?_, ?_, ?_⟩ <;> go_cell
  have oq : Own W (w.heap.size + 1 + 1) 0 0 0 0 := by rw [hW]; refine ⟨⟨?_, ?_, ?_, ?_⟩, ?_, ?_, ?_, ?_⟩ <;> go_cell
  have oR : Own W (w.heap.size + 1 + 1 + 1) 0 0 0 0 := by rw [hW]; refine ⟨⟨?_, ?_, ?_, ?_⟩, ?_, ?_, ?_, ?_⟩ <;> go_cell
  have pw : Below w.heap.size w W := by rw [hW]; go_grown
  rw [← hW]
  clear hW
  have ca := oa
  have cb := ob
  obtain ⟨⟨xa0, xa1, xa2, xa3⟩, _⟩ := ca
  obtain ⟨⟨xb0, xb1, xb2, xb3⟩, _⟩ := cb
  have ua0 : ∀ u : After W, u.w.cell? ⟨w.heap.size, 0, none⟩ = some (.int .u64 (a0 : Nat)) := fun u => u.cell xa0
  have ua1 : ∀ u : After W, u.w.cell? ⟨w.heap.size, 1, none⟩ = some (.int .u64 (a1 : Nat)) := fun u => u.cell xa1
  have ua2 : ∀ u : After W, u.w.cell? ⟨w.heap.size, 2, none⟩ = some (.int .u64 (a2 : Nat)) := fun u => u.cell xa2
  have ua3 : ∀ u : After W, u.w.cell? ⟨w.heap.size, 3, none⟩ = some (.int .u64 (a3 : Nat)) := fun u => u.cell xa3
  have ub0 : ∀ u : After W, u.w.cell? ⟨w.heap.size + 1, 0, none⟩ = some (.int .u64 (b0 : Nat)) := fun u => u.cell xb0
  have ub1 : ∀ u : After W, u.w.cell? ⟨w.heap.size + 1, 1, none⟩ = some (.int .u64 (b1 : Nat)) := fun u => u.cell xb1
  have ub2 : ∀ u : After W, u.w.cell? ⟨w.heap.size + 1, 2, none⟩ = some (.int .u64 (b2 : Nat)) := fun u => u.cell xb2
  have ub3 : ∀ u : After W, u.w.cell? ⟨w.heap.size + 1, 3, none⟩ = some (.int .u64 (b3 : Nat)) := fun u => u.cell xb3
  have PW := Lib.hid pw
  clear pw
  refine wp_region_after (by kernel_rfl) (by kernel_rfl) ?_
  repeat (go_big_quiet_step ((go_at_call 24; exact after_call (of_int _ _))))
  refine wpQuiet_nil ?_
  rintro _ ⟨u, rfl⟩
  clear ua0 ua1 ua2 ua3 ub0 ub1 ub2 ub3 xa0 xa1 xa2 xa3 xb0 xb1 xb2 xb3
  replace oa := oa.later u.below
  replace ob := ob.later u.below
  replace oq := oq.later u.below
  replace oR := oR.later u.below
  have PW1 := Lib.hid (below_step PW.out u.below)
  clear PW
  generalize u.w = W1 at *
  have ca := oa
  have cb := ob
  have cq := oq
  have cr := oR
  obtain ⟨⟨xa0, xa1, xa2, xa3⟩, ya0, ya1, ya2, ya3⟩ := ca
  obtain ⟨⟨xb0, xb1, xb2, xb3⟩, yb0, yb1, yb2, yb3⟩ := cb
  obtain ⟨⟨xq0, xq1, xq2, xq3⟩, yq0, yq1, yq2, yq3⟩ := cq
  obtain ⟨⟨xr0, xr1, xr2, xr3⟩, yr0, yr1, yr2, yr3⟩ := cr
  go_wp2_with fail
  obtain ⟨W2, hW2⟩ : ∃ W2 : World, W2 = (((W1.setCell ⟨w.heap.size + 1 + 1 + 1, 0, none⟩ (.int .u64 (a0 : Nat))).setCell ⟨w.heap.size + 1 + 1 + 1, 1, none⟩ (.int .u64 (a1 : Nat))).setCell ⟨w.heap.size + 1 + 1 + 1, 2, none⟩ (.int .u64 (a2 : Nat))).setCell ⟨w.heap.size + 1 + 1 + 1, 3, none⟩ (.int .u64 (a3 : Nat)) := ⟨_, rfl⟩
  have pa : Own W2 (w.heap.size) a0 a1 a2 a3 := by rw [hW2]; refine ⟨⟨?_, ?_, ?_, ?_⟩, ?_, ?_, ?_, ?_⟩ <;> go_cell
  have pb : Own W2 (w.heap.size + 1) b0 b1 b2 b3 := by rw [hW2]; refine ⟨⟨?_, ?_, ?_, ?_⟩, ?_, ?_, ?_, ?_⟩ <;> go_cell
  have pq : Own W2 (w.heap.size + 1 + 1) 0 0 0 0 := by rw [hW2]; refine ⟨⟨?_, ?_, ?_, ?_⟩, ?_, ?_, ?_, ?_⟩ <;> go_cell
  have pr : Own W2 (w.heap.size + 1 + 1 + 1) a0 a1 a2 a3 := by rw [hW2]; refine ⟨⟨?_, ?_, ?_, ?_⟩, ?_, ?_, ?_, ?_⟩ <;> go_cell
  have pw : Below w.heap.size w W2 := by
    rw [hW2]
    exact (((PW1.out.setCell (by simp <;> omega) _).setCell (by simp <;> omega) _).setCell (by simp <;> omega) _).setCell (by simp <;> omega) _
  rw [← hW2]
  clear hW2 oa ob oq oR xa0 xa1 xa2 xa3 ya0 ya1 ya2 ya3 xb0 xb1 xb2 xb3 yb0 yb1 yb2 yb3 xq0 xq1 xq2 xq3 yq0 yq1 yq2 yq3 xr0 xr1 xr2 xr3 yr0 yr1 yr2 yr3
  have PW2 := Lib.hid pw
  clear pw
  have ca := pa
  have cb := pb
  obtain ⟨⟨xa0, xa1, xa2, xa3⟩, _⟩ := ca
  obtain ⟨⟨xb0, xb1, xb2, xb3⟩, _⟩ := cb
  have ua0 : ∀ u : After W2, u.w.cell? ⟨w.heap.size, 0, none⟩ = some (.int .u64 (a0 : Nat)) := fun u => u.cell xa0
  have ua1 : ∀ u : After W2, u.w.cell? ⟨w.heap.size, 1, none⟩ = some (.int .u64 (a1 : Nat)) := fun u => u.cell xa1
  have ua2 : ∀ u : After W2, u.w.cell? ⟨w.heap.size, 2, none⟩ = some (.int .u64 (a2 : Nat)) := fun u => u.cell xa2
  have ua3 : ∀ u : After W2, u.w.cell? ⟨w.heap.size, 3, none⟩ = some (.int .u64 (a3 : Nat)) := fun u => u.cell xa3
  have ub0 : ∀ u : After W2, u.w.cell? ⟨w.heap.size + 1, 0, none⟩ = some (.int .u64 (b0 : Nat)) := fun u => u.cell xb0
  have ub1 : ∀ u : After W2, u.w.cell? ⟨w.heap.size + 1, 1, none⟩ = some (.int .u64 (b1 : Nat)) := fun u => u.cell xb1
  have ub2 : ∀ u : After W2, u.w.cell? ⟨w.heap.size + 1, 2, none⟩ = some (.int .u64 (b2 : Nat)) := fun u => u.cell xb2
  have ub3 : ∀ u : After W2, u.w.cell? ⟨w.heap.size + 1, 3, none⟩ = some (.int .u64 (b3 : Nat)) := fun u => u.cell xb3
  refine wp_region_after (by kernel_rfl) (by kernel_rfl) ?_
  repeat (go_big_quiet_step ((first | (go_at_call_of 22 ((a0 : Nat) : Int); exact after_call (BA.out _)) | (go_at_call_of 22 ((b0 : Nat) : Int); exact after_call (BB.out _)))))
  refine wpQuiet_nil ?_
  rintro _ ⟨u, rfl⟩
  clear ua0 ua1 ua2 ua3 ub0 ub1 ub2 ub3 xa0 xa1 xa2 xa3 xb0 xb1 xb2 xb3 ez eo
  replace pa := pa.later u.below
  replace pb := pb.later u.below
  replace pq := pq.later u.below
  replace pr := pr.later u.below
  have PW3 := Lib.hid (below_step PW2.out u.below)
  clear PW2
  generalize u.w = W3 at *
  go_wp2_with fail
  go_loopw [7] (DivRel w (val a0 a1 a2 a3) b0 b1 b2 b3) (fun i _ => (intOf i + 1).toNat)
  case atStart => exact ⟨_, 0, 0, 0, 0, a0, a1, a2, a3, rfl, by omega, by omega, ⟨by omega, by omega, by omega, by omega⟩, HA.out, ST.out, pb, pq, pr, PW3.out⟩
  case round =>
    clear pa pb pq pr PW3
    unfold DivRel at hrel
    obtain ⟨n, q0, q1, q2, q3, r0, r1, r2, r3, rfl, n0, n1, wq, wr', inv, pb, pq, pr, pw⟩ := hrel
    have INV := Lib.hid inv
    have WQ := Lib.hid wq
    have WRR := Lib.hid wr'
    have PW := Lib.hid pw
    clear inv wq wr' pw
    by_cases hn : 0 ≤ n
    · obtain ⟨m, rfl⟩ := Int.eq_ofNat_of_zero_le hn
      have m256 : m < 256 := by
        have h := INV.out.2.2.2 (by omega)
        rw [Int.toNat_natCast] at h
        have h1 : 1 * 2 ^ m ≤ val b0 b1 b2 b3 * 2 ^ m := Nat.mul_le_mul_right _ POS.out
        rcases Nat.lt_or_ge m 256 with hlt | hge
        · exact hlt
        · have h2 : 2 ^ 256 ≤ 2 ^ m := Nat.pow_le_pow_right (by omega) hge
          have h3 : (2 : Nat) ^ 256 = 115792089237316195423570985008687907853269984665640564039457584007913129639936 := by decide
          omega
      obtain ⟨s0, s1, s2, s3, hsw, hsv, up⟩ := up_any b0 b1 b2 b3 m HB.out m256
      have hs : val s0 s1 s2 s3 = val b0 b1 b2 b3 * 2 ^ m := by
        rw [hsv]
        have h := INV.out.2.2.2 (by omega)
        rw [Int.toNat_natCast] at h
        exact Nat.mod_eq_of_lt h
      have UPH := Lib.hid up
      have HSW := Lib.hid hsw
      have HS := Lib.hid hs
      clear up hsw hs hsv
      have cb := pb
      obtain ⟨⟨xb0, xb1, xb2, xb3⟩, _⟩ := cb
      go_wp2_with fail
      refine (UPH.out _).mono ?_
      rintro e w4 ⟨rfl, h4⟩
      clear xb0 xb1 xb2 xb3
      replace pb := pb.later h4
      replace pq := pq.later h4
      replace pr := pr.later h4
      have PW5 := Lib.hid (below_alloc (below_step PW.out h4) (.cells #[.int .u64 (s0 : Nat), .int .u64 (s1 : Nat), .int .u64 (s2 : Nat), .int .u64 (s3 : Nat)] 25))
      clear PW h4
      have lr := pr.lt
      have cr := pr
      obtain ⟨⟨xr0, xr1, xr2, xr3⟩, _⟩ := cr
      have ps : Own (w4.alloc (.cells #[.int .u64 (s0 : Nat), .int .u64 (s1 : Nat), .int .u64 (s2 : Nat), .int .u64 (s3 : Nat)] 25)) w4.heap.size s0 s1 s2 s3 := by refine ⟨⟨?_, ?_, ?_, ?_⟩, ?_, ?_, ?_, ?_⟩ <;> simp [go_sem]
      go_wp2_with fail
      clear xr0 xr1 xr2 xr3
      replace pb := pb.later ((Below.refl _ _).alloc (Nat.le_refl _) (.cells #[.int .u64 (s0 : Nat), .int .u64 (s1 : Nat), .int .u64 (s2 : Nat), .int .u64 (s3 : Nat)] 25))
      replace pq := pq.later ((Below.refl _ _).alloc (Nat.le_refl _) (.cells #[.int .u64 (s0 : Nat), .int .u64 (s1 : Nat), .int .u64 (s2 : Nat), .int .u64 (s3 : Nat)] 25))
      replace pr := pr.later ((Below.refl _ _).alloc (Nat.le_refl _) (.cells #[.int .u64 (s0 : Nat), .int .u64 (s1 : Nat), .int .u64 (s2 : Nat), .int .u64 (s3 : Nat)] 25))
      have ls := ps.lt
      generalize w4.alloc (.cells #[.int .u64 (s0 : Nat), .int .u64 (s1 : Nat), .int .u64 (s2 : Nat), .int .u64 (s3 : Nat)] 25) = W5 at *
      by_cases hlt : val r0 r1 r2 r3 < val s0 s1 s2 s3
      · have HL := Lib.hid (lessIs WRR.out HSW.out true (by simp [hlt]))
        have HLT := Lib.hid hlt
        clear hlt
        refine (HL.out _).mono ?_
        rintro e w6 ⟨rfl, h6⟩
        go_wp2_with fail
        refine ⟨⟨(m : Int) - 1, q0, q1, q2, q3, r0, r1, r2, r3, rfl, by omega, by omega, WQ.out, WRR.out, INV.out.small POS.out (by rw [← HS.out]; exact HLT.out), pb.later h6, pq.later h6, pr.later h6, below_step PW5.out h6⟩, by simp [intOf] <;> omega⟩
      · have HL := Lib.hid (lessIs WRR.out HSW.out false (by simp; omega))
        obtain ⟨d0, d1, d2, d3, dw, dv, sub⟩ := sub_any WRR.out HSW.out
        rw [if_neg hlt] at dv
        have HLT := Lib.hid hlt
        have DW := Lib.hid dw
        have DV := Lib.hid dv
        have SUBH := Lib.hid sub
        clear hlt dw dv sub
        refine (HL.out _).mono ?_
        rintro e w6 ⟨rfl, h6⟩
        replace pb := pb.later h6
        replace pq := pq.later h6
        replace pr := pr.later h6
        replace ps := ps.later h6
        have PW6 := Lib.hid (below_step PW5.out h6)
        clear PW5 h6
        have cr := pr
        have cs := ps
        obtain ⟨⟨xr0, xr1, xr2, xr3⟩, _⟩ := cr
        obtain ⟨⟨xs0, xs1, xs2, xs3⟩, _⟩ := cs
        go_wp2_with fail
        refine (SUBH.out _).mono ?_
        rintro e w7 ⟨rfl, h7⟩
        clear xr0 xr1 xr2 xr3 xs0 xs1 xs2 xs3 ps
        replace pb := pb.later h7
        replace pq := pq.later h7
        replace pr := pr.later h7
        have PW7 := Lib.hid (below_step PW6.out h7)
        clear PW6 h7
        have cb := pb
        have cq := pq
        have cr := pr
        obtain ⟨⟨xb0, xb1, xb2, xb3⟩, yb0, yb1, yb2, yb3⟩ := cb
        obtain ⟨⟨xq0, xq1, xq2, xq3⟩, yq0, yq1, yq2, yq3⟩ := cq
        obtain ⟨⟨xr0, xr1, xr2, xr3⟩, yr0, yr1, yr2, yr3⟩ := cr
        go_wp2_with fail
        obtain ⟨W8, hW8⟩ : ∃ W8 : World, W8 = (((w7.setCell ⟨w.heap.size + 1 + 1 + 1, 0, none⟩ (.int .u64 (d0 : Nat))).setCell ⟨w.heap.size + 1 + 1 + 1, 1, none⟩ (.int .u64 (d1 : Nat))).setCell ⟨w.heap.size + 1 + 1 + 1, 2, none⟩ (.int .u64 (d2 : Nat))).setCell ⟨w.heap.size + 1 + 1 + 1, 3, none⟩ (.int .u64 (d3 : Nat)) := ⟨_, rfl⟩
        have tb : Own W8 (w.heap.size + 1) b0 b1 b2 b3 := by rw [hW8]; refine ⟨⟨?_, ?_, ?_, ?_⟩, ?_, ?_, ?_, ?_⟩ <;> go_cell
        have tq : Own W8 (w.heap.size + 1 + 1) q0 q1 q2 q3 := by rw [hW8]; refine ⟨⟨?_, ?_, ?_, ?_⟩, ?_, ?_, ?_, ?_⟩ <;> go_cell
        have tr : Own W8 (w.heap.size + 1 + 1 + 1) d0 d1 d2 d3 := by rw [hW8]; refine ⟨⟨?_, ?_, ?_, ?_⟩, ?_, ?_, ?_, ?_⟩ <;> go_cell
        have pw : Below w.heap.size w W8 := by
          rw [hW8]
          exact (((PW7.out.setCell (by simp <;> omega) _).setCell (by simp <;> omega) _).setCell (by simp <;> omega) _).setCell (by simp <;> omega) _
        rw [← hW8]
        clear hW8 pb pq pr PW7 xb0 xb1 xb2 xb3 yb0 yb1 yb2 yb3 xq0 xq1 xq2 xq3 yq0 yq1 yq2 yq3 xr0 xr1 xr2 xr3 yr0 yr1 yr2 yr3
        have PW8 := Lib.hid pw
        clear pw
        have cb := tb
        have cq := tq
        have cr := tr
        obtain ⟨⟨xb0, xb1, xb2, xb3⟩, yb0, yb1, yb2, yb3⟩ := cb
        obtain ⟨⟨xq0, xq1, xq2, xq3⟩, yq0, yq1, yq2, yq3⟩ := cq
        obtain ⟨⟨xr0, xr1, xr2, xr3⟩, yr0, yr1, yr2, yr3⟩ := cr
        obtain ⟨r, hr⟩ : ∃ r, r = m % 64 := ⟨_, rfl⟩
        have r64 : r < 64 := by omega
        have em : (m : Int) % 64 = (r : Int) := by omega
        have low := INV.out.2.2.1
        rw [pow_pred] at low
        have hj : m / 64 = 0 ∨ m / 64 = 1 ∨ m / 64 = 2 ∨ m / 64 = 3 := by omega
        rcases hj with hj | hj | hj | hj
        · obtain ⟨hd, hw, hv⟩ := bit_0 WQ.out (show m = r + 0 by omega) r64 low
          have ej : (m : Int) / 64 = 0 := by omega
          have OB := or_bit q0 r r64 hd (by obtain ⟨_, _, _, _⟩ := WQ.out; omega)
          have HW := Lib.hid hw
          have HV := Lib.hid hv
          clear hd hw hv low hj hr
          go_wp2_with fail
          go_region
          go_wp2_with fail
          refine ⟨⟨(m : Int) - 1, (q0 + 2 ^ r), q1, q2, q3, d0, d1, d2, d3, rfl, by omega, by omega, HW.out, DW.out, ?_, ?_, ?_, ?_, ?_⟩, by simp [intOf] <;> omega⟩
          · rw [HV.out, DV.out, HS.out]; exact INV.out.great POS.out (by have := HLT.out; rw [HS.out] at this; omega)
          · refine ⟨⟨?_, ?_, ?_, ?_⟩, ?_, ?_, ?_, ?_⟩ <;> go_cell
          · refine ⟨⟨?_, ?_, ?_, ?_⟩, ?_, ?_, ?_, ?_⟩ <;> go_cell
          · refine ⟨⟨?_, ?_, ?_, ?_⟩, ?_, ?_, ?_, ?_⟩ <;> go_cell
          · exact (PW8.out.setCell (by simp <;> omega) _).drew
        · obtain ⟨hd, hw, hv⟩ := bit_1 WQ.out (show m = r + 64 by omega) r64 low
          have ej : (m : Int) / 64 = 1 := by omega
          have OB := or_bit q1 r r64 hd (by obtain ⟨_, _, _, _⟩ := WQ.out; omega)
          have HW := Lib.hid hw
          have HV := Lib.hid hv
          clear hd hw hv low hj hr
          go_wp2_with fail
          go_region
          go_wp2_with fail
          refine ⟨⟨(m : Int) - 1, q0, (q1 + 2 ^ r), q2, q3, d0, d1, d2, d3, rfl, by omega, by omega, HW.out, DW.out, ?_, ?_, ?_, ?_, ?_⟩, by simp [intOf] <;> omega⟩
          · rw [HV.out, DV.out, HS.out]; exact INV.out.great POS.out (by have := HLT.out; rw [HS.out] at this; omega)
          · refine ⟨⟨?_, ?_, ?_, ?_⟩, ?_, ?_, ?_, ?_⟩ <;> go_cell
          · refine ⟨⟨?_, ?_, ?_, ?_⟩, ?_, ?_, ?_, ?_⟩ <;> go_cell
          · refine ⟨⟨?_, ?_, ?_, ?_⟩, ?_, ?_, ?_, ?_⟩ <;> go_cell
          · exact (PW8.out.setCell (by simp <;> omega) _).drew
        · obtain ⟨hd, hw, hv⟩ := bit_2 WQ.out (show m = r + 128 by omega) r64 low
          have ej : (m : Int) / 64 = 2 := by omega
          have OB := or_bit q2 r r64 hd (by obtain ⟨_, _, _, _⟩ := WQ.out; omega)
          have HW := Lib.hid hw
          have HV := Lib.hid hv
          clear hd hw hv low hj hr
          go_wp2_with fail
          go_region
          go_wp2_with fail
          refine ⟨⟨(m : Int) - 1, q0, q1, (q2 + 2 ^ r), q3, d0, d1, d2, d3, rfl, by omega, by omega, HW.out, DW.out, ?_, ?_, ?_, ?_, ?_⟩, by simp [intOf] <;> omega⟩
          · rw [HV.out, DV.out, HS.out]; exact INV.out.great POS.out (by have := HLT.out; rw [HS.out] at this; omega)
          · refine ⟨⟨?_, ?_, ?_, ?_⟩, ?_, ?_, ?_, ?_⟩ <;> go_cell
          · refine ⟨⟨?_, ?_, ?_, ?_⟩, ?_, ?_, ?_, ?_⟩ <;> go_cell
          · refine ⟨⟨?_, ?_, ?_, ?_⟩, ?_, ?_, ?_, ?_⟩ <;> go_cell
          · exact (PW8.out.setCell (by simp <;> omega) _).drew
        · obtain ⟨hd, hw, hv⟩ := bit_3 WQ.out (show m = r + 192 by omega) r64 low
          have ej : (m : Int) / 64 = 3 := by omega
          have OB := or_bit q3 r r64 hd (by obtain ⟨_, _, _, _⟩ := WQ.out; omega)
          have HW := Lib.hid hw
          have HV := Lib.hid hv
          clear hd hw hv low hj hr
          go_wp2_with fail
          go_region
          go_wp2_with fail
          refine ⟨⟨(m : Int) - 1, q0, q1, q2, (q3 + 2 ^ r), d0, d1, d2, d3, rfl, by omega, by omega, HW.out, DW.out, ?_, ?_, ?_, ?_, ?_⟩, by simp [intOf] <;> omega⟩
          · rw [HV.out, DV.out, HS.out]; exact INV.out.great POS.out (by have := HLT.out; rw [HS.out] at this; omega)
          · refine ⟨⟨?_, ?_, ?_, ?_⟩, ?_, ?_, ?_, ?_⟩ <;> go_cell
          · refine ⟨⟨?_, ?_, ?_, ?_⟩, ?_, ?_, ?_, ?_⟩ <;> go_cell
          · refine ⟨⟨?_, ?_, ?_, ?_⟩, ?_, ?_, ?_, ?_⟩ <;> go_cell
          · exact (PW8.out.setCell (by simp <;> omega) _).drew
    · have cq := pq
      have cr := pr
      obtain ⟨⟨xq0, xq1, xq2, xq3⟩, yq0, yq1, yq2, yq3⟩ := cq
      obtain ⟨⟨xr0, xr1, xr2, xr3⟩, yr0, yr1, yr2, yr3⟩ := cr
      go_wp2_with fail
      go_region
      go_wp2_with fail
      have gq0 : ((((((((wr.setCell ⟨w.heap.size + 1 + 1, 0, none⟩ (.int .u64 (q0 : Nat))).setCell ⟨w.heap.size + 1 + 1, 1, none⟩ (.int .u64 (q1 : Nat))).setCell ⟨w.heap.size + 1 + 1, 2, none⟩ (.int .u64 (q2 : Nat))).setCell ⟨w.heap.size + 1 + 1, 3, none⟩ (.int .u64 (q3 : Nat))).setCell ⟨w.heap.size + 1 + 1 + 1, 0, none⟩ (.int .u64 (r0 : Nat))).setCell ⟨w.heap.size + 1 + 1 + 1, 1, none⟩ (.int .u64 (r1 : Nat))).setCell ⟨w.heap.size + 1 + 1 + 1, 2, none⟩ (.int .u64 (r2 : Nat))).setCell ⟨w.heap.size + 1 + 1 + 1, 3, none⟩ (.int .u64 (r3 : Nat))).cell? ⟨w.heap.size + 1 + 1, 0, none⟩ = some (.int .u64 (q0 : Nat)) := by go_cell
      have gq1 : ((((((((wr.setCell ⟨w.heap.size + 1 + 1, 0, none⟩ (.int .u64 (q0 : Nat))).setCell ⟨w.heap.size + 1 + 1, 1, none⟩ (.int .u64 (q1 : Nat))).setCell ⟨w.heap.size + 1 + 1, 2, none⟩ (.int .u64 (q2 : Nat))).setCell ⟨w.heap.size + 1 + 1, 3, none⟩ (.int .u64 (q3 : Nat))).setCell ⟨w.heap.size + 1 + 1 + 1, 0, none⟩ (.int .u64 (r0 : Nat))).setCell ⟨w.heap.size + 1 + 1 + 1, 1, none⟩ (.int .u64 (r1 : Nat))).setCell ⟨w.heap.size + 1 + 1 + 1, 2, none⟩ (.int .u64 (r2 : Nat))).setCell ⟨w.heap.size + 1 + 1 + 1, 3, none⟩ (.int .u64 (r3 : Nat))).cell? ⟨w.heap.size + 1 + 1, 1, none⟩ = some (.int .u64 (q1 : Nat)) := by go_cell
      have gq2 : ((((((((wr.setCell ⟨w.heap.size + 1 + 1, 0, none⟩ (.int .u64 (q0 : Nat))).setCell ⟨w.heap.size + 1 + 1, 1, none⟩ (.int .u64 (q1 : Nat))).setCell ⟨w.heap.size + 1 + 1, 2, none⟩ (.int .u64 (q2 : Nat))).setCell ⟨w.heap.size + 1 + 1, 3, none⟩ (.int .u64 (q3 : Nat))).setCell ⟨w.heap.size + 1 + 1 + 1, 0, none⟩ (.int .u64 (r0 : Nat))).setCell ⟨w.heap.size + 1 + 1 + 1, 1, none⟩ (.int .u64 (r1 : Nat))).setCell ⟨w.heap.size + 1 + 1 + 1, 2, none⟩ (.int .u64 (r2 : Nat))).setCell ⟨w.heap.size + 1 + 1 + 1, 3, none⟩ (.int .u64 (r3 : Nat))).cell? ⟨w.heap.size + 1 + 1, 2, none⟩ = some (.int .u64 (q2 : Nat)) := by go_cell
      have gq3 : ((((((((wr.setCell ⟨w.heap.size + 1 + 1, 0, none⟩ (.int .u64 (q0 : Nat))).setCell ⟨w.heap.size + 1 + 1, 1, none⟩ (.int .u64 (q1 : Nat))).setCell ⟨w.heap.size + 1 + 1, 2, none⟩ (.int .u64 (q2 : Nat))).setCell ⟨w.heap.size + 1 + 1, 3, none⟩ (.int .u64 (q3 : Nat))).setCell ⟨w.heap.size + 1 + 1 + 1, 0, none⟩ (.int .u64 (r0 : Nat))).setCell ⟨w.heap.size + 1 + 1 + 1, 1, none⟩ (.int .u64 (r1 : Nat))).setCell ⟨w.heap.size + 1 + 1 + 1, 2, none⟩ (.int .u64 (r2 : Nat))).setCell ⟨w.heap.size + 1 + 1 + 1, 3, none⟩ (.int .u64 (r3 : Nat))).cell? ⟨w.heap.size + 1 + 1, 3, none⟩ = some (.int .u64 (q3 : Nat)) := by go_cell
      have gr0 : ((((((((wr.setCell ⟨w.heap.size + 1 + 1, 0, none⟩ (.int .u64 (q0 : Nat))).setCell ⟨w.heap.size + 1 + 1, 1, none⟩ (.int .u64 (q1 : Nat))).setCell ⟨w.heap.size + 1 + 1, 2, none⟩ (.int .u64 (q2 : Nat))).setCell ⟨w.heap.size + 1 + 1, 3, none⟩ (.int .u64 (q3 : Nat))).setCell ⟨w.heap.size + 1 + 1 + 1, 0, none⟩ (.int .u64 (r0 : Nat))).setCell ⟨w.heap.size + 1 + 1 + 1, 1, none⟩ (.int .u64 (r1 : Nat))).setCell ⟨w.heap.size + 1 + 1 + 1, 2, none⟩ (.int .u64 (r2 : Nat))).setCell ⟨w.heap.size + 1 + 1 + 1, 3, none⟩ (.int .u64 (r3 : Nat))).cell? ⟨w.heap.size + 1 + 1 + 1, 0, none⟩ = some (.int .u64 (r0 : Nat)) := by go_cell
      have gr1 : ((((((((wr.setCell ⟨w.heap.size + 1 + 1, 0, none⟩ (.int .u64 (q0 : Nat))).setCell ⟨w.heap.size + 1 + 1, 1, none⟩ (.int .u64 (q1 : Nat))).setCell ⟨w.heap.size + 1 + 1, 2, none⟩ (.int .u64 (q2 : Nat))).setCell ⟨w.heap.size + 1 + 1, 3, none⟩ (.int .u64 (q3 : Nat))).setCell ⟨w.heap.size + 1 + 1 + 1, 0, none⟩ (.int .u64 (r0 : Nat))).setCell ⟨w.heap.size + 1 + 1 + 1, 1, none⟩ (.int .u64 (r1 : Nat))).setCell ⟨w.heap.size + 1 + 1 + 1, 2, none⟩ (.int .u64 (r2 : Nat))).setCell ⟨w.heap.size + 1 + 1 + 1, 3, none⟩ (.int .u64 (r3 : Nat))).cell? ⟨w.heap.size + 1 + 1 + 1, 1, none⟩ = some (.int .u64 (r1 : Nat)) := by go_cell
      have gr2 : ((((((((wr.setCell ⟨w.heap.size + 1 + 1, 0, none⟩ (.int .u64 (q0 : Nat))).setCell ⟨w.heap.size + 1 + 1, 1, none⟩ (.int .u64 (q1 : Nat))).setCell ⟨w.heap.size + 1 + 1, 2, none⟩ (.int .u64 (q2 : Nat))).setCell ⟨w.heap.size + 1 + 1, 3, none⟩ (.int .u64 (q3 : Nat))).setCell ⟨w.heap.size + 1 + 1 + 1, 0, none⟩ (.int .u64 (r0 : Nat))).setCell ⟨w.heap.size + 1 + 1 + 1, 1, none⟩ (.int .u64 (r1 : Nat))).setCell ⟨w.heap.size + 1 + 1 + 1, 2, none⟩ (.int .u64 (r2 : Nat))).setCell ⟨w.heap.size + 1 + 1 + 1, 3, none⟩ (.int .u64 (r3 : Nat))).cell? ⟨w.heap.size + 1 + 1 + 1, 2, none⟩ = some (.int .u64 (r2 : Nat)) := by go_cell
      have gr3 : ((((((((wr.setCell ⟨w.heap.size + 1 + 1, 0, none⟩ (.int .u64 (q0 : Nat))).setCell ⟨w.heap.size + 1 + 1, 1, none⟩ (.int .u64 (q1 : Nat))).setCell ⟨w.heap.size + 1 + 1, 2, none⟩ (.int .u64 (q2 : Nat))).setCell ⟨w.heap.size + 1 + 1, 3, none⟩ (.int .u64 (q3 : Nat))).setCell ⟨w.heap.size + 1 + 1 + 1, 0, none⟩ (.int .u64 (r0 : Nat))).setCell ⟨w.heap.size + 1 + 1 + 1, 1, none⟩ (.int .u64 (r1 : Nat))).setCell ⟨w.heap.size + 1 + 1 + 1, 2, none⟩ (.int .u64 (r2 : Nat))).setCell ⟨w.heap.size + 1 + 1 + 1, 3, none⟩ (.int .u64 (r3 : Nat))).cell? ⟨w.heap.size + 1 + 1 + 1, 3, none⟩ = some (.int .u64 (r3 : Nat)) := by go_cell
      refine bodyPost_ret (v := .tuple #[.agg #[.int .u64 (q0 : Nat), .int .u64 (q1 : Nat), .int .u64 (q2 : Nat), .int .u64 (q3 : Nat)], .agg #[.int .u64 (r0 : Nat), .int .u64 (r1 : Nat), .int .u64 (r2 : Nat), .int .u64 (r3 : Nat)], .int .i64 0]) (by simp [results, Try.results25, go_sem, gq0, gq1, gq2, gq3, gr0, gr1, gr2, gr3]) rfl ?_
      obtain ⟨i1, i2, _, _⟩ := INV.out
      refine ⟨q0, q1, q2, q3, r0, r1, r2, r3, rfl, WQ.out, WRR.out, i1, ?_, ((((((((PW.out.setCell (by simp <;> omega) _).setCell (by simp <;> omega) _).setCell (by simp <;> omega) _).setCell (by simp <;> omega) _).setCell (by simp <;> omega) _).setCell (by simp <;> omega) _).setCell (by simp <;> omega) _).setCell (by simp <;> omega) _).drew⟩
      rw [show (n + 1).toNat = 0 by omega, Nat.pow_zero, Nat.mul_one] at i2
      exact i2

end Go.Proofs.Ytnipajfglmahiaa
