/- Div of the package big by a number of more than one word: long division, bit by bit. -/
import Derived.Test.YtimjmmiajgfblaaGreatDoorGat
import Derived.Test.YtimjmmiajgfblaaGreatDoorGas
import Derived.Test.YtimjmmiajgfblaaGreatDoorGao
import Derived.Test.YtimjmmiajgfblaaGreatDoorGad
import Derived.Deep.RegionWith

namespace Go.Proofs.YtimjmmiajgfblaaGreatDoor.Bg
set_option maxRecDepth 100000
open Go.RowKit

/-- Block b holds a number of four words, and may be written. -/
def Own (w : World) (b : Nat) (x0 x1 x2 x3 : Nat) : Prop :=
  (w.cell? ⟨b, 0, none⟩ = some (.int .u64 (x0 : Nat)) ∧ w.cell? ⟨b, 1, none⟩ = some (.int .u64 (x1 : Nat)) ∧ w.cell? ⟨b, 2, none⟩ = some (.int .u64 (x2 : Nat)) ∧ w.cell? ⟨b, 3, none⟩ = some (.int .u64 (x3 : Nat))) ∧
  (w.frozen? ⟨b, 0, none⟩ = false ∧ w.frozen? ⟨b, 1, none⟩ = false ∧ w.frozen? ⟨b, 2, none⟩ = false ∧ w.frozen? ⟨b, 3, none⟩ = false)
theorem Own.lt {w : World} {b x0 x1 x2 x3 : Nat} (h : Own w b x0 x1 x2 x3) : b < w.heap.size := by have := World.block_lt_of_cell? _ _ h.1.1; simpa using this
theorem Own.later {w wx : World} {b x0 x1 x2 x3 : Nat} (h : Own w b x0 x1 x2 x3) (hb : Below w.heap.size w wx) : Own wx b x0 x1 x2 x3 := by
  have l := h.lt
  obtain ⟨⟨c0, c1, c2, c3⟩, f0, f1, f2, f3⟩ := h
  exact ⟨⟨cell_later hb c0, cell_later hb c1, cell_later hb c2, cell_later hb c3⟩, (hb.frozen (p := ⟨b, 0, none⟩) l).trans f0, (hb.frozen (p := ⟨b, 1, none⟩) l).trans f1, (hb.frozen (p := ⟨b, 2, none⟩) l).trans f2, (hb.frozen (p := ⟨b, 3, none⟩) l).trans f3⟩

/-- What the loop of Div keeps: N is divided by D; the bits from n + 1 on of the quotient Q are found, and R is left. -/
def DivInv (N D : Nat) (n : Int) (Q R : Nat) : Prop := N = Q * D + R ∧ R < D * 2 ^ (n + 1).toNat ∧ Q % 2 ^ (n + 1).toNat = 0 ∧ (0 ≤ n → D * 2 ^ n.toNat < 115792089237316195423570985008687907853269984665640564039457584007913129639936)

theorem pow_pred (m : Nat) : 2 ^ ((m : Int) + 1).toNat = 2 * 2 ^ m := by
  rw [show ((m : Int) + 1).toNat = m + 1 by omega, Nat.pow_succ, Nat.mul_comm]

theorem DivInv.small {N D m Q R : Nat} (h : DivInv N D m Q R) (hd : 0 < D) (hlt : R < D * 2 ^ m) : DivInv N D ((m : Int) - 1) Q R := by
  obtain ⟨a, b, c, d⟩ := h
  have e : ((m : Int) - 1 + 1).toNat = m := by omega
  rw [pow_pred] at c
  refine ⟨a, by rw [e]; exact hlt, ?_, fun hm => ?_⟩
  · rw [e]; exact Nat.mod_eq_zero_of_dvd (Nat.dvd_trans (Nat.dvd_mul_left _ 2) (Nat.dvd_of_mod_eq_zero c))
  · have hle : 2 ^ ((m : Int) - 1).toNat ≤ 2 ^ m := Nat.pow_le_pow_right (by omega) (by omega)
    have h1 : D * 2 ^ ((m : Int) - 1).toNat ≤ D * 2 ^ m := Nat.mul_le_mul_left _ hle
    have h2 := d (by omega)
    rw [Int.toNat_natCast] at h2
    omega
theorem DivInv.great {N D m Q R : Nat} (h : DivInv N D m Q R) (hd : 0 < D) (hge : D * 2 ^ m ≤ R) : DivInv N D ((m : Int) - 1) (Q + 2 ^ m) (R - D * 2 ^ m) := by
  obtain ⟨a, b, c, d⟩ := h
  have e : ((m : Int) - 1 + 1).toNat = m := by omega
  rw [pow_pred] at b c
  have e2 : D * (2 * 2 ^ m) = D * 2 ^ m + D * 2 ^ m := by rw [Nat.mul_comm 2, Nat.mul_two, Nat.mul_add]
  refine ⟨?_, by rw [e]; omega, ?_, fun hm => ?_⟩
  · rw [Nat.add_mul, Nat.mul_comm (2 ^ m) D]; omega
  · rw [e]; rw [Nat.add_mod_right]; exact Nat.mod_eq_zero_of_dvd (Nat.dvd_trans (Nat.dvd_mul_left _ 2) (Nat.dvd_of_mod_eq_zero c))
  · have hle : 2 ^ ((m : Int) - 1).toNat ≤ 2 ^ m := Nat.pow_le_pow_right (by omega) (by omega)
    have h1 : D * 2 ^ ((m : Int) - 1).toNat ≤ D * 2 ^ m := Nat.mul_le_mul_left _ hle
    have h2 := d (by omega)
    rw [Int.toNat_natCast] at h2
    omega

/-- A power of two that divides a sum divides its first part, if it divides the other. -/
theorem dvd_word {P x y : Nat} (h : P ∣ x + 18446744073709551616 * y) (hm : P ∣ 18446744073709551616) : P ∣ x :=
  (Nat.dvd_add_left (Nat.dvd_trans hm (Nat.dvd_mul_right _ _))).1 h
theorem word_room {P x : Nat} (hp : 0 < P) (h : P ∣ x) (hm : P ∣ 18446744073709551616) (hx : x < 18446744073709551616) : x + P ≤ 18446744073709551616 := by
  have d : P ∣ 18446744073709551616 - x := Nat.dvd_sub hm h
  have := Nat.le_of_dvd (by omega) d
  omega
theorem cut_words {K V low q : Nat} (M : Nat) (hM : 0 < M) (h : K * M ∣ V) (hV : V = low + M * q) (hl : low < M) : low = 0 ∧ K ∣ q := by
  have h1 : M ∣ V := Nat.dvd_trans (Nat.dvd_mul_left _ _) h
  have h2 : M ∣ low := by rw [hV] at h1; exact (Nat.dvd_add_left (Nat.dvd_mul_right _ _)).1 h1
  have h3 : low = 0 := Nat.eq_zero_of_dvd_of_lt h2 hl
  refine ⟨h3, ?_⟩
  rw [hV, h3, Nat.zero_add, Nat.mul_comm K M] at h
  exact Nat.dvd_of_mul_dvd_mul_left hM h

theorem two_pow_dvd (r : Nat) (hr : r < 64) : 2 * 2 ^ r ∣ 18446744073709551616 := by
  have h := pow_split (r := r) hr
  refine ⟨2 ^ (63 - r), ?_⟩
  have e : 2 ^ (64 - r) = 2 * 2 ^ (63 - r) := by rw [show 64 - r = 63 - r + 1 by omega, Nat.pow_succ, Nat.mul_comm]
  rw [e] at h
  rw [Nat.mul_comm 2 (2 ^ r), Nat.mul_assoc]; exact h.symm

theorem or_bit (x r : Nat) (hr : r < 64) (h : 2 * 2 ^ r ∣ x) (hx : x < 18446744073709551616) : bits .or .u64 (x : Int) (IntKind.u64.wrap ((2 : Int) ^ r)) = ((x + 2 ^ r : Nat) : Int) := by
  have e : (2 : Int) ^ r = ((2 ^ r : Nat) : Int) := (Int.natCast_pow 2 r).symm
  have p0 := Nat.two_pow_pos r
  have lt : 2 * 2 ^ r ≤ 18446744073709551616 := Nat.le_of_dvd (by omega) (two_pow_dvd r hr)
  rw [e, wrap_u64 _ (by omega)]
  exact or_words x (2 ^ r) (r + 1) (by rw [Nat.pow_succ, Nat.mul_comm]; exact Nat.mod_eq_zero_of_dvd h) hx (by rw [Nat.pow_succ]; omega) (by omega)

theorem bit_0 {q0 q1 q2 q3 m r : Nat} (w : Words q0 q1 q2 q3) (hm : m = r + 0) (hr : r < 64) (h : val q0 q1 q2 q3 % (2 * 2 ^ m) = 0) :
    2 * 2 ^ r ∣ q0 ∧ Words (q0 + 2 ^ r) q1 q2 q3 ∧ val (q0 + 2 ^ r) q1 q2 q3 = val q0 q1 q2 q3 + 2 ^ m := by
  obtain ⟨w0, w1, w2, w3⟩ := w
  have pn : 2 ^ m = 2 ^ r := by rw [hm, Nat.add_zero]
  rw [pn] at h ⊢
  have hd := Nat.dvd_of_mod_eq_zero h
  have td := two_pow_dvd r hr
  have p0 := Nat.two_pow_pos r
  have d : 2 * 2 ^ r ∣ q0 := dvd_word (y := q1 + 18446744073709551616 * (q2 + 18446744073709551616 * q3)) hd td
  have rm := word_room (by omega) d td w0
  exact ⟨d, ⟨by omega, by omega, by omega, by omega⟩, by unfold val; omega⟩

theorem bit_1 {q0 q1 q2 q3 m r : Nat} (w : Words q0 q1 q2 q3) (hm : m = r + 64) (hr : r < 64) (h : val q0 q1 q2 q3 % (2 * 2 ^ m) = 0) :
    2 * 2 ^ r ∣ q1 ∧ Words q0 (q1 + 2 ^ r) q2 q3 ∧ val q0 (q1 + 2 ^ r) q2 q3 = val q0 q1 q2 q3 + 2 ^ m := by
  obtain ⟨w0, w1, w2, w3⟩ := w
  have pn : 2 ^ m = 2 ^ r * 18446744073709551616 := by rw [hm, Nat.pow_add]
  rw [pn] at h ⊢
  have hd := Nat.dvd_of_mod_eq_zero h
  have td := two_pow_dvd r hr
  have p0 := Nat.two_pow_pos r
  rw [← Nat.mul_assoc] at hd
  obtain ⟨_, hq⟩ := cut_words (low := q0) (q := (q1 + 18446744073709551616 * (q2 + 18446744073709551616 * q3))) 18446744073709551616 (by omega) hd (by unfold val; omega) (by omega)
  have d : 2 * 2 ^ r ∣ q1 := dvd_word (y := (q2 + 18446744073709551616 * q3)) hq td
  have rm := word_room (by omega) d td w1
  exact ⟨d, ⟨by omega, by omega, by omega, by omega⟩, by unfold val; omega⟩

theorem bit_2 {q0 q1 q2 q3 m r : Nat} (w : Words q0 q1 q2 q3) (hm : m = r + 128) (hr : r < 64) (h : val q0 q1 q2 q3 % (2 * 2 ^ m) = 0) :
    2 * 2 ^ r ∣ q2 ∧ Words q0 q1 (q2 + 2 ^ r) q3 ∧ val q0 q1 (q2 + 2 ^ r) q3 = val q0 q1 q2 q3 + 2 ^ m := by
  obtain ⟨w0, w1, w2, w3⟩ := w
  have pn : 2 ^ m = 2 ^ r * 340282366920938463463374607431768211456 := by rw [hm, Nat.pow_add]
  rw [pn] at h ⊢
  have hd := Nat.dvd_of_mod_eq_zero h
  have td := two_pow_dvd r hr
  have p0 := Nat.two_pow_pos r
  rw [← Nat.mul_assoc] at hd
  obtain ⟨_, hq⟩ := cut_words (low := (q0 + 18446744073709551616 * q1)) (q := (q2 + 18446744073709551616 * q3)) 340282366920938463463374607431768211456 (by omega) hd (by unfold val; omega) (by omega)
  have d : 2 * 2 ^ r ∣ q2 := dvd_word (y := q3) hq td
  have rm := word_room (by omega) d td w2
  exact ⟨d, ⟨by omega, by omega, by omega, by omega⟩, by unfold val; omega⟩

theorem bit_3 {q0 q1 q2 q3 m r : Nat} (w : Words q0 q1 q2 q3) (hm : m = r + 192) (hr : r < 64) (h : val q0 q1 q2 q3 % (2 * 2 ^ m) = 0) :
    2 * 2 ^ r ∣ q3 ∧ Words q0 q1 q2 (q3 + 2 ^ r) ∧ val q0 q1 q2 (q3 + 2 ^ r) = val q0 q1 q2 q3 + 2 ^ m := by
  obtain ⟨w0, w1, w2, w3⟩ := w
  have pn : 2 ^ m = 2 ^ r * 6277101735386680763835789423207666416102355444464034512896 := by rw [hm, Nat.pow_add]
  rw [pn] at h ⊢
  have hd := Nat.dvd_of_mod_eq_zero h
  have td := two_pow_dvd r hr
  have p0 := Nat.two_pow_pos r
  rw [← Nat.mul_assoc] at hd
  obtain ⟨_, hq⟩ := cut_words (low := (q0 + 18446744073709551616 * (q1 + 18446744073709551616 * q2))) (q := q3) 6277101735386680763835789423207666416102355444464034512896 (by omega) hd (by unfold val; omega) (by omega)
  have d : 2 * 2 ^ r ∣ q3 := hq
  have rm := word_room (by omega) d td w3
  exact ⟨d, ⟨by omega, by omega, by omega, by omega⟩, by unfold val; omega⟩

def DivRel (w : World) (N b0 b1 b2 b3 : Nat) (i : Value) (wr : World) : Prop :=
  ∃ (n : Int) (q0 q1 q2 q3 r0 r1 r2 r3 : Nat), i = .int .i64 n ∧ -256 ≤ n ∧ n ≤ 256 ∧ Words q0 q1 q2 q3 ∧ Words r0 r1 r2 r3 ∧ DivInv N (val b0 b1 b2 b3) n (val q0 q1 q2 q3) (val r0 r1 r2 r3) ∧
    Own wr (w.heap.size + 1) b0 b1 b2 b3 ∧ Own wr (w.heap.size + 1 + 1) q0 q1 q2 q3 ∧ Own wr (w.heap.size + 1 + 1 + 1) r0 r1 r2 r3 ∧ Below w.heap.size w wr

/-- What Div returns: quotient and rest. -/
def DivPost (N D : Nat) (w : World) (e : Ending) (w' : World) : Prop :=
  ∃ q0 q1 q2 q3 r0 r1 r2 r3 : Nat, e = .returned (.tuple #[.agg #[.int .u64 (q0 : Nat), .int .u64 (q1 : Nat), .int .u64 (q2 : Nat), .int .u64 (q3 : Nat)], .agg #[.int .u64 (r0 : Nat), .int .u64 (r1 : Nat), .int .u64 (r2 : Nat), .int .u64 (r3 : Nat)], .int .i64 0]) ∧ Words q0 q1 q2 q3 ∧ Words r0 r1 r2 r3 ∧ N = val q0 q1 q2 q3 * D + val r0 r1 r2 r3 ∧ val r0 r1 r2 r3 < D ∧ Below w.heap.size w w'

set_option maxRecDepth 100000 in
set_option maxHeartbeats 8000000 in
theorem div_long (a0 a1 a2 a3 b0 b1 b2 b3 na nb : Nat) (w : World) (ha : Words a0 a1 a2 a3) (hb : Words b0 b1 b2 b3)
    (ez : ∀ w : World, (Op.equalIn 10000 51 (.agg #[.int .u64 (b0 : Nat), .int .u64 (b1 : Nat), .int .u64 (b2 : Nat), .int .u64 (b3 : Nat)]) (.agg #[.int .u64 0, .int .u64 0, .int .u64 0, .int .u64 0])).run Tryz.prog w = .ok false w)
    (eo : ∀ w : World, (Op.equalIn 10000 51 (.agg #[.int .u64 (b0 : Nat), .int .u64 (b1 : Nat), .int .u64 (b2 : Nat), .int .u64 (b3 : Nat)]) (.agg #[.int .u64 (b0 : Nat), .int .u64 0, .int .u64 0, .int .u64 0])).run Tryz.prog w = .ok false w)
    (bA : BitsIs a0 a1 a2 a3 na) (bB : BitsIs b0 b1 b2 b3 nb) (hna : na ≤ 256) (hnb : nb ≤ 256) (start : DivInv (val a0 a1 a2 a3) (val b0 b1 b2 b3) ((na : Int) - (nb : Int)) 0 (val a0 a1 a2 a3)) (pos : 0 < val b0 b1 b2 b3) :
    Calls Tryz.prog 60 #[.agg #[.int .u64 (a0 : Nat), .int .u64 (a1 : Nat), .int .u64 (a2 : Nat), .int .u64 (a3 : Nat)], .agg #[.int .u64 (b0 : Nat), .int .u64 (b1 : Nat), .int .u64 (b2 : Nat), .int .u64 (b3 : Nat)]] w (DivPost (val a0 a1 a2 a3) (val b0 b1 b2 b3) w) := by
  have ST := Lib.hid start
  have POS := Lib.hid pos
  clear start pos
  have BA := Lib.hid bA
  have BB := Lib.hid bB
  have HA := Lib.hid ha
  have HB := Lib.hid hb
  clear bA bB ha hb
  go_enter Tryz.func60, Tryz.ntmps60
  go_wp2_with fail
  obtain ⟨W, hW⟩ : ∃ W : World, W = (((w.alloc (.cells #[.int .u64 (a0 : Nat), .int .u64 (a1 : Nat), .int .u64 (a2 : Nat), .int .u64 (a3 : Nat)] 51)).alloc (.cells #[.int .u64 (b0 : Nat), .int .u64 (b1 : Nat), .int .u64 (b2 : Nat), .int .u64 (b3 : Nat)] 51)).alloc (.cells #[.int .u64 0, .int .u64 0, .int .u64 0, .int .u64 0] 51)).alloc (.cells #[.int .u64 0, .int .u64 0, .int .u64 0, .int .u64 0] 51) := ⟨_, rfl⟩
  have oa : Own W (w.heap.size) a0 a1 a2 a3 := by rw [hW]; refine ⟨⟨?_, ?_, ?_, ?_⟩, ?_, ?_, ?_, ?_⟩ <;> go_cell
  have ob : Own W (w.heap.size + 1) b0 b1 b2 b3 := by rw [hW]; refine ⟨⟨?_, ?_, ?_, ?_⟩, ?_, ?_, ?_, ?_⟩ <;> go_cell
  have oq : Own W (w.heap.size + 1 + 1) 0 0 0 0 := by rw [hW]; refine ⟨⟨?_, ?_, ?_, ?_⟩, ?_, ?_, ?_, ?_⟩ <;> go_cell
  have oR : Own W (w.heap.size + 1 + 1 + 1) 0 0 0 0 := by rw [hW]; refine ⟨⟨?_, ?_, ?_, ?_⟩, ?_, ?_, ?_, ?_⟩ <;> go_cell
  have pw : Below w.heap.size w W := by rw [hW]; go_grown
  rw [← hW]
  clear hW
  have ca := oa
  have cb := ob
  obtain ⟨⟨xa0, xa1, xa2, xa3⟩, _⟩ := ca
  obtain ⟨⟨xb0, xb1, xb2, xb3⟩, _⟩ := cb
  have ua0 : ∀ u : After W, u.w.cell? ⟨w.heap.size, 0, none⟩ = some (.int .u64 (a0 : Nat)) := fun u => u.cell xa0
  have ua1 : ∀ u : After W, u.w.cell? ⟨w.heap.size, 1, none⟩ = some (.int .u64 (a1 : Nat)) := fun u => u.cell xa1
  have ua2 : ∀ u : After W, u.w.cell? ⟨w.heap.size, 2, none⟩ = some (.int .u64 (a2 : Nat)) := fun u => u.cell xa2
  have ua3 : ∀ u : After W, u.w.cell? ⟨w.heap.size, 3, none⟩ = some (.int .u64 (a3 : Nat)) := fun u => u.cell xa3
  have ub0 : ∀ u : After W, u.w.cell? ⟨w.heap.size + 1, 0, none⟩ = some (.int .u64 (b0 : Nat)) := fun u => u.cell xb0
  have ub1 : ∀ u : After W, u.w.cell? ⟨w.heap.size + 1, 1, none⟩ = some (.int .u64 (b1 : Nat)) := fun u => u.cell xb1
  have ub2 : ∀ u : After W, u.w.cell? ⟨w.heap.size + 1, 2, none⟩ = some (.int .u64 (b2 : Nat)) := fun u => u.cell xb2
  have ub3 : ∀ u : After W, u.w.cell? ⟨w.heap.size + 1, 3, none⟩ = some (.int .u64 (b3 : Nat)) := fun u => u.cell xb3
  have PW := Lib.hid pw
  clear pw
  refine wp_region_after (by kernel_rfl) (by kernel_rfl) ?_
  repeat (go_big_quiet_step ((go_at_call 57; exact after_call (of_int _ _))))
  refine wpQuiet_nil ?_
  rintro _ ⟨u, rfl⟩
  clear ua0 ua1 ua2 ua3 ub0 ub1 ub2 ub3 xa0 xa1 xa2 xa3 xb0 xb1 xb2 xb3
  replace oa := oa.later u.below
  replace ob := ob.later u.below
  replace oq := oq.later u.below
  replace oR := oR.later u.below
  have PW1 := Lib.hid (below_step PW.out u.below)
  clear PW
  generalize u.w = W1 at *
  have ca := oa
  have cb := ob
  have cq := oq
  have cr := oR
  obtain ⟨⟨xa0, xa1, xa2, xa3⟩, ya0, ya1, ya2, ya3⟩ := ca
  obtain ⟨⟨xb0, xb1, xb2, xb3⟩, yb0, yb1, yb2, yb3⟩ := cb
  obtain ⟨⟨xq0, xq1, xq2, xq3⟩, yq0, yq1, yq2, yq3⟩ := cq
  obtain ⟨⟨xr0, xr1, xr2, xr3⟩, yr0, yr1, yr2, yr3⟩ := cr
  go_wp2_with fail
  obtain ⟨W2, hW2⟩ : ∃ W2 : World, W2 = (((W1.setCell ⟨w.heap.size + 1 + 1 + 1, 0, none⟩ (.int .u64 (a0 : Nat))).setCell ⟨w.heap.size + 1 + 1 + 1, 1, none⟩ (.int .u64 (a1 : Nat))).setCell ⟨w.heap.size + 1 + 1 + 1, 2, none⟩ (.int .u64 (a2 : Nat))).setCell ⟨w.heap.size + 1 + 1 + 1, 3, none⟩ (.int .u64 (a3 : Nat)) := ⟨_, rfl⟩
  have pa : Own W2 (w.heap.size) a0 a1 a2 a3 := by rw [hW2]; refine ⟨⟨?_, ?_, ?_, ?_⟩, ?_, ?_, ?_, ?_⟩ <;> go_cell
  have pb : Own W2 (w.heap.size + 1) b0 b1 b2 b3 := by rw [hW2]; refine ⟨⟨?_, ?_, ?_, ?_⟩, ?_, ?_, ?_, ?_⟩ <;> go_cell
  have pq : Own W2 (w.heap.size + 1 + 1) 0 0 0 0 := by rw [hW2]; refine ⟨⟨?_, ?_, ?_, ?_⟩, ?_, ?_, ?_, ?_⟩ <;> go_cell
  have pr : Own W2 (w.heap.size + 1 + 1 + 1) a0 a1 a2 a3 := by rw [hW2]; refine ⟨⟨?_, ?_, ?_, ?_⟩, ?_, ?_, ?_, ?_⟩ <;> go_cell
  have pw : Below w.heap.size w W2 := by
    rw [hW2]
    exact (((PW1.out.setCell (by simp <;> omega) _).setCell (by simp <;> omega) _).setCell (by simp <;> omega) _).setCell (by simp <;> omega) _
  rw [← hW2]
  clear hW2 oa ob oq oR xa0 xa1 xa2 xa3 ya0 ya1 ya2 ya3 xb0 xb1 xb2 xb3 yb0 yb1 yb2 yb3 xq0 xq1 xq2 xq3 yq0 yq1 yq2 yq3 xr0 xr1 xr2 xr3 yr0 yr1 yr2 yr3
  have PW2 := Lib.hid pw
  clear pw
  have ca := pa
  have cb := pb
  obtain ⟨⟨xa0, xa1, xa2, xa3⟩, _⟩ := ca
  obtain ⟨⟨xb0, xb1, xb2, xb3⟩, _⟩ := cb
  have ua0 : ∀ u : After W2, u.w.cell? ⟨w.heap.size, 0, none⟩ = some (.int .u64 (a0 : Nat)) := fun u => u.cell xa0
  have ua1 : ∀ u : After W2, u.w.cell? ⟨w.heap.size, 1, none⟩ = some (.int .u64 (a1 : Nat)) := fun u => u.cell xa1
  have ua2 : ∀ u : After W2, u.w.cell? ⟨w.heap.size, 2, none⟩ = some (.int .u64 (a2 : Nat)) := fun u => u.cell xa2
  have ua3 : ∀ u : After W2, u.w.cell? ⟨w.heap.size, 3, none⟩ = some (.int .u64 (a3 : Nat)) := fun u => u.cell xa3
  have ub0 : ∀ u : After W2, u.w.cell? ⟨w.heap.size + 1, 0, none⟩ = some (.int .u64 (b0 : Nat)) := fun u => u.cell xb0
  have ub1 : ∀ u : After W2, u.w.cell? ⟨w.heap.size + 1, 1, none⟩ = some (.int .u64 (b1 : Nat)) := fun u => u.cell xb1
  have ub2 : ∀ u : After W2, u.w.cell? ⟨w.heap.size + 1, 2, none⟩ = some (.int .u64 (b2 : Nat)) := fun u => u.cell xb2
  have ub3 : ∀ u : After W2, u.w.cell? ⟨w.heap.size + 1, 3, none⟩ = some (.int .u64 (b3 : Nat)) := fun u => u.cell xb3
  refine wp_region_after (by kernel_rfl) (by kernel_rfl) ?_
  repeat (go_big_quiet_step ((first | (go_at_call_of 58 ((a0 : Nat) : Int); exact after_call (BA.out _)) | (go_at_call_of 58 ((b0 : Nat) : Int); exact after_call (BB.out _)))))
  refine wpQuiet_nil ?_
  rintro _ ⟨u, rfl⟩
  clear ua0 ua1 ua2 ua3 ub0 ub1 ub2 ub3 xa0 xa1 xa2 xa3 xb0 xb1 xb2 xb3 ez eo
  replace pa := pa.later u.below
  replace pb := pb.later u.below
  replace pq := pq.later u.below
  replace pr := pr.later u.below
  have PW3 := Lib.hid (below_step PW2.out u.below)
  clear PW2
  generalize u.w = W3 at *
  go_wp2_with fail
  go_loopw [7] (DivRel w (val a0 a1 a2 a3) b0 b1 b2 b3) (fun i _ => (intOf i + 1).toNat)
  case atStart => exact ⟨_, 0, 0, 0, 0, a0, a1, a2, a3, rfl, by omega, by omega, ⟨by omega, by omega, by omega, by omega⟩, HA.out, ST.out, pb, pq, pr, PW3.out⟩
  case round =>
    clear pa pb pq pr PW3
    unfold DivRel at hrel
    obtain ⟨n, q0, q1, q2, q3, r0, r1, r2, r3, rfl, n0, n1, wq, wr', inv, pb, pq, pr, pw⟩ := hrel
    have INV := Lib.hid inv
    have WQ := Lib.hid wq
    have WRR := Lib.hid wr'
    have PW := Lib.hid pw
    clear inv wq wr' pw
    by_cases hn : 0 ≤ n
    · obtain ⟨m, rfl⟩ := Int.eq_ofNat_of_zero_le hn
      have m256 : m < 256 := by
        have h := INV.out.2.2.2 (by omega)
        rw [Int.toNat_natCast] at h
        have h1 : 1 * 2 ^ m ≤ val b0 b1 b2 b3 * 2 ^ m := Nat.mul_le_mul_right _ POS.out
        rcases Nat.lt_or_ge m 256 with hlt | hge
        · exact hlt
        · have h2 : 2 ^ 256 ≤ 2 ^ m := Nat.pow_le_pow_right (by omega) hge
          have h3 : (2 : Nat) ^ 256 = 115792089237316195423570985008687907853269984665640564039457584007913129639936 := by decide
          omega
      obtain ⟨s0, s1, s2, s3, hsw, hsv, up⟩ := up_any b0 b1 b2 b3 m HB.out m256
      have hs : val s0 s1 s2 s3 = val b0 b1 b2 b3 * 2 ^ m := by
        rw [hsv]
        have h := INV.out.2.2.2 (by omega)
        rw [Int.toNat_natCast] at h
        exact Nat.mod_eq_of_lt h
      have UPH := Lib.hid up
      have HSW := Lib.hid hsw
      have HS := Lib.hid hs
      clear up hsw hs hsv
      have cb := pb
      obtain ⟨⟨xb0, xb1, xb2, xb3⟩, _⟩ := cb
      go_wp2_with fail
      refine (UPH.out _).mono ?_
      rintro e w4 ⟨rfl, h4⟩
      clear xb0 xb1 xb2 xb3
      replace pb := pb.later h4
      replace pq := pq.later h4
      replace pr := pr.later h4
      have PW5 := Lib.hid (below_alloc (below_step PW.out h4) (.cells #[.int .u64 (s0 : Nat), .int .u64 (s1 : Nat), .int .u64 (s2 : Nat), .int .u64 (s3 : Nat)] 51))
      clear PW h4
      have lr := pr.lt
      have cr := pr
      obtain ⟨⟨xr0, xr1, xr2, xr3⟩, _⟩ := cr
      have ps : Own (w4.alloc (.cells #[.int .u64 (s0 : Nat), .int .u64 (s1 : Nat), .int .u64 (s2 : Nat), .int .u64 (s3 : Nat)] 51)) w4.heap.size s0 s1 s2 s3 := by refine ⟨⟨?_, ?_, ?_, ?_⟩, ?_, ?_, ?_, ?_⟩ <;> simp [go_sem]
      go_wp2_with fail
      clear xr0 xr1 xr2 xr3
      replace pb := pb.later ((Below.refl _ _).alloc (Nat.le_refl _) (.cells #[.int .u64 (s0 : Nat), .int .u64 (s1 : Nat), .int .u64 (s2 : Nat), .int .u64 (s3 : Nat)] 51))
      replace pq := pq.later ((Below.refl _ _).alloc (Nat.le_refl _) (.cells #[.int .u64 (s0 : Nat), .int .u64 (s1 : Nat), .int .u64 (s2 : Nat), .int .u64 (s3 : Nat)] 51))
      replace pr := pr.later ((Below.refl _ _).alloc (Nat.le_refl _) (.cells #[.int .u64 (s0 : Nat), .int .u64 (s1 : Nat), .int .u64 (s2 : Nat), .int .u64 (s3 : Nat)] 51))
      have ls := ps.lt
      generalize w4.alloc (.cells #[.int .u64 (s0 : Nat), .int .u64 (s1 : Nat), .int .u64 (s2 : Nat), .int .u64 (s3 : Nat)] 51) = W5 at *
      by_cases hlt : val r0 r1 r2 r3 < val s0 s1 s2 s3
      · have HL := Lib.hid (lessIs WRR.out HSW.out true (by simp [hlt]))
        have HLT := Lib.hid hlt
        clear hlt
        refine (HL.out _).mono ?_
        rintro e w6 ⟨rfl, h6⟩
        go_wp2_with fail
        refine ⟨⟨(m : Int) - 1, q0, q1, q2, q3, r0, r1, r2, r3, rfl, by omega, by omega, WQ.out, WRR.out, INV.out.small POS.out (by rw [← HS.out]; exact HLT.out), pb.later h6, pq.later h6, pr.later h6, below_step PW5.out h6⟩, by simp [intOf] <;> omega⟩
      · have HL := Lib.hid (lessIs WRR.out HSW.out false (by simp; omega))
        obtain ⟨d0, d1, d2, d3, dw, dv, sub⟩ := sub_any WRR.out HSW.out
        rw [if_neg hlt] at dv
        have HLT := Lib.hid hlt
        have DW := Lib.hid dw
        have DV := Lib.hid dv
        have SUBH := Lib.hid sub
        clear hlt dw dv sub
        refine (HL.out _).mono ?_
        rintro e w6 ⟨rfl, h6⟩
        replace pb := pb.later h6
        replace pq := pq.later h6
        replace pr := pr.later h6
        replace ps := ps.later h6
        have PW6 := Lib.hid (below_step PW5.out h6)
        clear PW5 h6
        have cr := pr
        have cs := ps
        obtain ⟨⟨xr0, xr1, xr2, xr3⟩, _⟩ := cr
        obtain ⟨⟨xs0, xs1, xs2, xs3⟩, _⟩ := cs
        go_wp2_with fail
        refine (SUBH.out _).mono ?_
        rintro e w7 ⟨rfl, h7⟩
        clear xr0 xr1 xr2 xr3 xs0 xs1 xs2 xs3 ps
        replace pb := pb.later h7
        replace pq := pq.later h7
        replace pr := pr.later h7
        have PW7 := Lib.hid (below_step PW6.out h7)
        clear PW6 h7
        have cb := pb
        have cq := pq
        have cr := pr
        obtain ⟨⟨xb0, xb1, xb2, xb3⟩, yb0, yb1, yb2, yb3⟩ := cb
        obtain ⟨⟨xq0, xq1, xq2, xq3⟩, yq0, yq1, yq2, yq3⟩ := cq
        obtain ⟨⟨xr0, xr1, xr2, xr3⟩, yr0, yr1, yr2, yr3⟩ := cr
        go_wp2_with fail
        obtain ⟨W8, hW8⟩ : ∃ W8 : World, W8 = (((w7.setCell ⟨w.heap.size + 1 + 1 + 1, 0, none⟩ (.int .u64 (d0 : Nat))).setCell ⟨w.heap.size + 1 + 1 + 1, 1, none⟩ (.int .u64 (d1 : Nat))).setCell ⟨w.heap.size + 1 + 1 + 1, 2, none⟩ (.int .u64 (d2 : Nat))).setCell ⟨w.heap.size + 1 + 1 + 1, 3, none⟩ (.int .u64 (d3 : Nat)) := ⟨_, rfl⟩
        have tb : Own W8 (w.heap.size + 1) b0 b1 b2 b3 := by rw [hW8]; refine ⟨⟨?_, ?_, ?_, ?_⟩, ?_, ?_, ?_, ?_⟩ <;> go_cell
        have tq : Own W8 (w.heap.size + 1 + 1) q0 q1 q2 q3 := by rw [hW8]; refine ⟨⟨?_, ?_, ?_, ?_⟩, ?_, ?_, ?_, ?_⟩ <;> go_cell
        have tr : Own W8 (w.heap.size + 1 + 1 + 1) d0 d1 d2 d3 := by rw [hW8]; refine ⟨⟨?_, ?_, ?_, ?_⟩, ?_, ?_, ?_, ?_⟩ <;> go_cell
        have pw : Below w.heap.size w W8 := by
          rw [hW8]
          exact (((PW7.out.setCell (by simp <;> omega) _).setCell (by simp <;> omega) _).setCell (by simp <;> omega) _).setCell (by simp <;> omega) _
        rw [← hW8]
        clear hW8 pb pq pr PW7 xb0 xb1 xb2 xb3 yb0 yb1 yb2 yb3 xq0 xq1 xq2 xq3 yq0 yq1 yq2 yq3 xr0 xr1 xr2 xr3 yr0 yr1 yr2 yr3
        have PW8 := Lib.hid pw
        clear pw
        have cb := tb
        have cq := tq
        have cr := tr
        obtain ⟨⟨xb0, xb1, xb2, xb3⟩, yb0, yb1, yb2, yb3⟩ := cb
        obtain ⟨⟨xq0, xq1, xq2, xq3⟩, yq0, yq1, yq2, yq3⟩ := cq
        obtain ⟨⟨xr0, xr1, xr2, xr3⟩, yr0, yr1, yr2, yr3⟩ := cr
        obtain ⟨r, hr⟩ : ∃ r, r = m % 64 := ⟨_, rfl⟩
        have r64 : r < 64 := by omega
        have em : (m : Int) % 64 = (r : Int) := by omega
        have low := INV.out.2.2.1
        rw [pow_pred] at low
        have hj : m / 64 = 0 ∨ m / 64 = 1 ∨ m / 64 = 2 ∨ m / 64 = 3 := by omega
        rcases hj with hj | hj | hj | hj
        · obtain ⟨hd, hw, hv⟩ := bit_0 WQ.out (show m = r + 0 by omega) r64 low
          have ej : (m : Int) / 64 = 0 := by omega
          have OB := or_bit q0 r r64 hd (by obtain ⟨_, _, _, _⟩ := WQ.out; omega)
          have HW := Lib.hid hw
          have HV := Lib.hid hv
          clear hd hw hv low hj hr
          go_wp2_with fail
          go_region
          go_wp2_with fail
          refine ⟨⟨(m : Int) - 1, (q0 + 2 ^ r), q1, q2, q3, d0, d1, d2, d3, rfl, by omega, by omega, HW.out, DW.out, ?_, ?_, ?_, ?_, ?_⟩, by simp [intOf] <;> omega⟩
          · rw [HV.out, DV.out, HS.out]; exact INV.out.great POS.out (by have := HLT.out; rw [HS.out] at this; omega)
          · refine ⟨⟨?_, ?_, ?_, ?_⟩, ?_, ?_, ?_, ?_⟩ <;> go_cell
          · refine ⟨⟨?_, ?_, ?_, ?_⟩, ?_, ?_, ?_, ?_⟩ <;> go_cell
          · refine ⟨⟨?_, ?_, ?_, ?_⟩, ?_, ?_, ?_, ?_⟩ <;> go_cell
          · exact (PW8.out.setCell (by simp <;> omega) _).drew
        · obtain ⟨hd, hw, hv⟩ := bit_1 WQ.out (show m = r + 64 by omega) r64 low
          have ej : (m : Int) / 64 = 1 := by omega
          have OB := or_bit q1 r r64 hd (by obtain ⟨_, _, _, _⟩ := WQ.out; omega)
          have HW := Lib.hid hw
          have HV := Lib.hid hv
          clear hd hw hv low hj hr
          go_wp2_with fail
          go_region
          go_wp2_with fail
          refine ⟨⟨(m : Int) - 1, q0, (q1 + 2 ^ r), q2, q3, d0, d1, d2, d3, rfl, by omega, by omega, HW.out, DW.out, ?_, ?_, ?_, ?_, ?_⟩, by simp [intOf] <;> omega⟩
          · rw [HV.out, DV.out, HS.out]; exact INV.out.great POS.out (by have := HLT.out; rw [HS.out] at this; omega)
          · refine ⟨⟨?_, ?_, ?_, ?_⟩, ?_, ?_, ?_, ?_⟩ <;> go_cell
          · refine ⟨⟨?_, ?_, ?_, ?_⟩, ?_, ?_, ?_, ?_⟩ <;> go_cell
          · refine ⟨⟨?_, ?_, ?_, ?_⟩, ?_, ?_, ?_, ?_⟩ <;> go_cell
          · exact (PW8.out.setCell (by simp <;> omega) _).drew
        · obtain ⟨hd, hw, hv⟩ := bit_2 WQ.out (show m = r + 128 by omega) r64 low
          have ej : (m : Int) / 64 = 2 := by omega
          have OB := or_bit q2 r r64 hd (by obtain ⟨_, _, _, _⟩ := WQ.out; omega)
          have HW := Lib.hid hw
          have HV := Lib.hid hv
          clear hd hw hv low hj hr
          go_wp2_with fail
          go_region
          go_wp2_with fail
          refine ⟨⟨(m : Int) - 1, q0, q1, (q2 + 2 ^ r), q3, d0, d1, d2, d3, rfl, by omega, by omega, HW.out, DW.out, ?_, ?_, ?_, ?_, ?_⟩, by simp [intOf] <;> omega⟩
          · rw [HV.out, DV.out, HS.out]; exact INV.out.great POS.out (by have := HLT.out; rw [HS.out] at this; omega)
          · refine ⟨⟨?_, ?_, ?_, ?_⟩, ?_, ?_, ?_, ?_⟩ <;> go_cell
          · refine ⟨⟨?_, ?_, ?_, ?_⟩, ?_, ?_, ?_, ?_⟩ <;> go_cell
          · refine ⟨⟨?_, ?_, ?_, ?_⟩, ?_, ?_, ?_, ?_⟩ <;> go_cell
          · exact (PW8.out.setCell (by simp <;> omega) _).drew
        · obtain ⟨hd, hw, hv⟩ := bit_3 WQ.out (show m = r + 192 by omega) r64 low
          have ej : (m : Int) / 64 = 3 := by omega
          have OB := or_bit q3 r r64 hd (by obtain ⟨_, _, _, _⟩ := WQ.out; omega)
          have HW := Lib.hid hw
          have HV := Lib.hid hv
          clear hd hw hv low hj hr
          go_wp2_with fail
          go_region
          go_wp2_with fail
          refine ⟨⟨(m : Int) - 1, q0, q1, q2, (q3 + 2 ^ r), d0, d1, d2, d3, rfl, by omega, by omega, HW.out, DW.out, ?_, ?_, ?_, ?_, ?_⟩, by simp [intOf] <;> omega⟩
          · rw [HV.out, DV.out, HS.out]; exact INV.out.great POS.out (by have := HLT.out; rw [HS.out] at this; omega)
          · refine ⟨⟨?_, ?_, ?_, ?_⟩, ?_, ?_, ?_, ?_⟩ <;> go_cell
          · refine ⟨⟨?_, ?_, ?_, ?_⟩, ?_, ?_, ?_, ?_⟩ <;> go_cell
          · refine ⟨⟨?_, ?_, ?_, ?_⟩, ?_, ?_, ?_, ?_⟩ <;> go_cell
          · exact (PW8.out.setCell (by simp <;> omega) _).drew
    · have cq := pq
      have cr := pr
      obtain ⟨⟨xq0, xq1, xq2, xq3⟩, yq0, yq1, yq2, yq3⟩ := cq
      obtain ⟨⟨xr0, xr1, xr2, xr3⟩, yr0, yr1, yr2, yr3⟩ := cr
      go_wp2_with fail
      go_region
      go_wp2_with fail
      have gq0 : ((((((((wr.setCell ⟨w.heap.size + 1 + 1, 0, none⟩ (.int .u64 (q0 : Nat))).setCell ⟨w.heap.size + 1 + 1, 1, none⟩ (.int .u64 (q1 : Nat))).setCell ⟨w.heap.size + 1 + 1, 2, none⟩ (.int .u64 (q2 : Nat))).setCell ⟨w.heap.size + 1 + 1, 3, none⟩ (.int .u64 (q3 : Nat))).setCell ⟨w.heap.size + 1 + 1 + 1, 0, none⟩ (.int .u64 (r0 : Nat))).setCell ⟨w.heap.size + 1 + 1 + 1, 1, none⟩ (.int .u64 (r1 : Nat))).setCell ⟨w.heap.size + 1 + 1 + 1, 2, none⟩ (.int .u64 (r2 : Nat))).setCell ⟨w.heap.size + 1 + 1 + 1, 3, none⟩ (.int .u64 (r3 : Nat))).cell? ⟨w.heap.size + 1 + 1, 0, none⟩ = some (.int .u64 (q0 : Nat)) := by go_cell
      have gq1 : ((((((((wr.setCell ⟨w.heap.size + 1 + 1, 0, none⟩ (.int .u64 (q0 : Nat))).setCell ⟨w.heap.size + 1 + 1, 1, none⟩ (.int .u64 (q1 : Nat))).setCell ⟨w.heap.size + 1 + 1, 2, none⟩ (.int .u64 (q2 : Nat))).setCell ⟨w.heap.size + 1 + 1, 3, none⟩ (.int .u64 (q3 : Nat))).setCell ⟨w.heap.size + 1 + 1 + 1, 0, none⟩ (.int .u64 (r0 : Nat))).setCell ⟨w.heap.size + 1 + 1 + 1, 1, none⟩ (.int .u64 (r1 : Nat))).setCell ⟨w.heap.size + 1 + 1 + 1, 2, none⟩ (.int .u64 (r2 : Nat))).setCell ⟨w.heap.size + 1 + 1 + 1, 3, none⟩ (.int .u64 (r3 : Nat))).cell? ⟨w.heap.size + 1 + 1, 1, none⟩ = some (.int .u64 (q1 : Nat)) := by go_cell
      have gq2 : ((((((((wr.setCell ⟨w.heap.size + 1 + 1, 0, none⟩ (.int .u64 (q0 : Nat))).setCell ⟨w.heap.size + 1 + 1, 1, none⟩ (.int .u64 (q1 : Nat))).setCell ⟨w.heap.size + 1 + 1, 2, none⟩ (.int .u64 (q2 : Nat))).setCell ⟨w.heap.size + 1 + 1, 3, none⟩ (.int .u64 (q3 : Nat))).setCell ⟨w.heap.size + 1 + 1 + 1, 0, none⟩ (.int .u64 (r0 : Nat))).setCell ⟨w.heap.size + 1 + 1 + 1, 1, none⟩ (.int .u64 (r1 : Nat))).setCell ⟨w.heap.size + 1 + 1 + 1, 2, none⟩ (.int .u64 (r2 : Nat))).setCell ⟨w.heap.size + 1 + 1 + 1, 3, none⟩ (.int .u64 (r3 : Nat))).cell? ⟨w.heap.size + 1 + 1, 2, none⟩ = some (.int .u64 (q2 : Nat)) := by go_cell
      have gq3 : ((((((((wr.setCell ⟨w.heap.size + 1 + 1, 0, none⟩ (.int .u64 (q0 : Nat))).setCell ⟨w.heap.size + 1 + 1, 1, none⟩ (.int .u64 (q1 : Nat))).setCell ⟨w.heap.size + 1 + 1, 2, none⟩ (.int .u64 (q2 : Nat))).setCell ⟨w.heap.size + 1 + 1, 3, none⟩ (.int .u64 (q3 : Nat))).setCell ⟨w.heap.size + 1 + 1 + 1, 0, none⟩ (.int .u64 (r0 : Nat))).setCell ⟨w.heap.size + 1 + 1 + 1, 1, none⟩ (.int .u64 (r1 : Nat))).setCell ⟨w.heap.size + 1 + 1 + 1, 2, none⟩ (.int .u64 (r2 : Nat))).setCell ⟨w.heap.size + 1 + 1 + 1, 3, none⟩ (.int .u64 (r3 : Nat))).cell? ⟨w.heap.size + 1 + 1, 3, none⟩ = some (.int .u64 (q3 : Nat)) := by go_cell
      have gr0 : ((((((((wr.setCell ⟨w.heap.size + 1 + 1, 0, none⟩ (.int .u64 (q0 : Nat))).setCell ⟨w.heap.size + 1 + 1, 1, none⟩ (.int .u64 (q1 : Nat))).setCell ⟨w.heap.size + 1 + 1, 2, none⟩ (.int .u64 (q2 : Nat))).setCell ⟨w.heap.size + 1 + 1, 3, none⟩ (.int .u64 (q3 : Nat))).setCell ⟨w.heap.size + 1 + 1 + 1, 0, none⟩ (.int .u64 (r0 : Nat))).setCell ⟨w.heap.size + 1 + 1 + 1, 1, none⟩ (.int .u64 (r1 : Nat))).setCell ⟨w.heap.size + 1 + 1 + 1, 2, none⟩ (.int .u64 (r2 : Nat))).setCell ⟨w.heap.size + 1 + 1 + 1, 3, none⟩ (.int .u64 (r3 : Nat))).cell? ⟨w.heap.size + 1 + 1 + 1, 0, none⟩ = some (.int .u64 (r0 : Nat)) := by go_cell
      have gr1 : ((((((((wr.setCell ⟨w.heap.size + 1 + 1, 0, none⟩ (.int .u64 (q0 : Nat))).setCell ⟨w.heap.size + 1 + 1, 1, none⟩ (.int .u64 (q1 : Nat))).setCell ⟨w.heap.size + 1 + 1, 2, none⟩ (.int .u64 (q2 : Nat))).setCell ⟨w.heap.size + 1 + 1, 3, none⟩ (.int .u64 (q3 : Nat))).setCell ⟨w.heap.size + 1 + 1 + 1, 0, none⟩ (.int .u64 (r0 : Nat))).setCell ⟨w.heap.size + 1 + 1 + 1, 1, none⟩ (.int .u64 (r1 : Nat))).setCell ⟨w.heap.size + 1 + 1 + 1, 2, none⟩ (.int .u64 (r2 : Nat))).setCell ⟨w.heap.size + 1 + 1 + 1, 3, none⟩ (.int .u64 (r3 : Nat))).cell? ⟨w.heap.size + 1 + 1 + 1, 1, none⟩ = some (.int .u64 (r1 : Nat)) := by go_cell
      have gr2 : ((((((((wr.setCell ⟨w.heap.size + 1 + 1, 0, none⟩ (.int .u64 (q0 : Nat))).setCell ⟨w.heap.size + 1 + 1, 1, none⟩ (.int .u64 (q1 : Nat))).setCell ⟨w.heap.size + 1 + 1, 2, none⟩ (.int .u64 (q2 : Nat))).setCell ⟨w.heap.size + 1 + 1, 3, none⟩ (.int .u64 (q3 : Nat))).setCell ⟨w.heap.size + 1 + 1 + 1, 0, none⟩ (.int .u64 (r0 : Nat))).setCell ⟨w.heap.size + 1 + 1 + 1, 1, none⟩ (.int .u64 (r1 : Nat))).setCell ⟨w.heap.size + 1 + 1 + 1, 2, none⟩ (.int .u64 (r2 : Nat))).setCell ⟨w.heap.size + 1 + 1 + 1, 3, none⟩ (.int .u64 (r3 : Nat))).cell? ⟨w.heap.size + 1 + 1 + 1, 2, none⟩ = some (.int .u64 (r2 : Nat)) := by go_cell
      have gr3 : ((((((((wr.setCell ⟨w.heap.size + 1 + 1, 0, none⟩ (.int .u64 (q0 : Nat))).setCell ⟨w.heap.size + 1 + 1, 1, none⟩ (.int .u64 (q1 : Nat))).setCell ⟨w.heap.size + 1 + 1, 2, none⟩ (.int .u64 (q2 : Nat))).setCell ⟨w.heap.size + 1 + 1, 3, none⟩ (.int .u64 (q3 : Nat))).setCell ⟨w.heap.size + 1 + 1 + 1, 0, none⟩ (.int .u64 (r0 : Nat))).setCell ⟨w.heap.size + 1 + 1 + 1, 1, none⟩ (.int .u64 (r1 : Nat))).setCell ⟨w.heap.size + 1 + 1 + 1, 2, none⟩ (.int .u64 (r2 : Nat))).setCell ⟨w.heap.size + 1 + 1 + 1, 3, none⟩ (.int .u64 (r3 : Nat))).cell? ⟨w.heap.size + 1 + 1 + 1, 3, none⟩ = some (.int .u64 (r3 : Nat)) := by go_cell
      refine bodyPost_ret (v := .tuple #[.agg #[.int .u64 (q0 : Nat), .int .u64 (q1 : Nat), .int .u64 (q2 : Nat), .int .u64 (q3 : Nat)], .agg #[.int .u64 (r0 : Nat), .int .u64 (r1 : Nat), .int .u64 (r2 : Nat), .int .u64 (r3 : Nat)], .int .i64 0]) (by simp [results, Tryz.results60, go_sem, gq0, gq1, gq2, gq3, gr0, gr1, gr2, gr3]) rfl ?_
      obtain ⟨i1, i2, _, _⟩ := INV.out
      refine ⟨q0, q1, q2, q3, r0, r1, r2, r3, rfl, WQ.out, WRR.out, i1, ?_, ((((((((PW.out.setCell (by simp <;> omega) _).setCell (by simp <;> omega) _).setCell (by simp <;> omega) _).setCell (by simp <;> omega) _).setCell (by simp <;> omega) _).setCell (by simp <;> omega) _).setCell (by simp <;> omega) _).setCell (by simp <;> omega) _).drew⟩
      rw [show (n + 1).toNat = 0 by omega, Nat.pow_zero, Nat.mul_one] at i2
      exact i2

end Go.Proofs.YtimjmmiajgfblaaGreatDoor.Bg

/- What divWord of the package big returns: a number of four words divided by one word. -/
namespace Go.Proofs.YtimjmmiajgfblaaGreatDoor.Bg
set_option maxRecDepth 100000
open Go.RowKit

set_option maxRecDepth 100000 in
set_option maxHeartbeats 1000000 in
theorem div64_low_walk (lo y q : Nat) (w : World) (hy : 0 < y) (Q : IntKind.u64.wrap ((lo : Int) / (y : Int)) = (q : Int)) :
    Calls Tryz.prog 98 #[.int .u64 0, .int .u64 (lo : Nat), .int .u64 (y : Nat)] w fun e w' => e = .returned (.tuple #[.int .u64 (q : Nat), .int .u64 ((lo : Int) % (y : Int))]) ∧ w' = w.drew := by
  go_enter Tryz.func98, Tryz.ntmps98
  go_wp2_with fail
  go_region
  go_wp2_with fail
  go_returns
  exact ⟨rfl, rfl⟩

/-- A call of Div64 at these words gives these words. -/
def Div64Is (hi lo y q r : Nat) : Prop := ∀ w : World, Calls Tryz.prog 98 #[.int .u64 (hi : Nat), .int .u64 (lo : Nat), .int .u64 (y : Nat)] w fun e w' => e = .returned (.tuple #[.int .u64 (q : Nat), .int .u64 (r : Nat)]) ∧ (w' = w ∨ w' = w.drew)
theorem Div64Is.at0 {lo y q r : Nat} (h : Div64Is 0 lo y q r) (w : World) : Calls Tryz.prog 98 #[.int .u64 0, .int .u64 (lo : Nat), .int .u64 (y : Nat)] w fun e w' => e = .returned (.tuple #[.int .u64 (q : Nat), .int .u64 (r : Nat)]) ∧ (w' = w ∨ w' = w.drew) := h w
theorem div64Is (hi lo y : Nat) (h : hi < y) (hy : y < 18446744073709551616) (hl : lo < 18446744073709551616) :
    Div64Is hi lo y ((hi * 18446744073709551616 + lo) / y) ((hi * 18446744073709551616 + lo) % y) := by
  intro w
  rcases Nat.eq_zero_or_pos hi with h0 | h0
  · subst h0
    rw [Nat.zero_mul, Nat.zero_add]
    have q := Nat.div_le_self lo y
    refine (div64_low_walk lo y (lo / y) w h ?_).mono fun e w' ⟨he, hw⟩ => ⟨by rw [he, Int.natCast_emod], Or.inr hw⟩
    rw [← Int.natCast_ediv]; exact wrap_u64 _ (by omega)
  · exact (div64_hi hi lo y w h0 h hy hl).mono fun e w' ⟨he, hw⟩ => ⟨he, Or.inl hw⟩

set_option maxRecDepth 100000 in
set_option maxHeartbeats 4000000 in
theorem divWord_words (a0 a1 a2 a3 n q0 q1 q2 q3 r0 r1 r2 r3 : Nat) (w : World) (g3 : Div64Is 0 a3 n q3 r3) (g2 : Div64Is r3 a2 n q2 r2) (g1 : Div64Is r2 a1 n q1 r1) (g0 : Div64Is r1 a0 n q0 r0) :
    Calls Tryz.prog 75 #[.agg #[.int .u64 (a0 : Nat), .int .u64 (a1 : Nat), .int .u64 (a2 : Nat), .int .u64 (a3 : Nat)], .int .u64 (n : Nat)] w fun e w' => e = .returned (.tuple #[.agg #[.int .u64 (q0 : Nat), .int .u64 (q1 : Nat), .int .u64 (q2 : Nat), .int .u64 (q3 : Nat)], .int .u64 (r0 : Nat)]) ∧ Below w.heap.size w w' := by
  have G3 := Lib.hid g3
  have G2 := Lib.hid g2
  have G1 := Lib.hid g1
  have G0 := Lib.hid g0
  clear g3 g2 g1 g0
  go_enter Tryz.func75, Tryz.ntmps75
  go_wp2_with fail
  refine wp_loop_rounds 5 ?_
  rw [rounds_succ]
  go_wp2_with fail
  refine (G3.out.at0 _).mono ?_
  rintro e w1 ⟨rfl, rfl | rfl⟩
  all_goals
    go_wp2_with fail
    rw [rounds_succ]
    go_wp2_with fail
    refine (G2.out _).mono ?_
    rintro e w1 ⟨rfl, rfl | rfl⟩
  all_goals
    go_wp2_with fail
    rw [rounds_succ]
    go_wp2_with fail
    refine (G1.out _).mono ?_
    rintro e w1 ⟨rfl, rfl | rfl⟩
  all_goals
    go_wp2_with fail
    rw [rounds_succ]
    go_wp2_with fail
    refine (G0.out _).mono ?_
    rintro e w1 ⟨rfl, rfl | rfl⟩
  all_goals
    go_wp2_with fail
    rw [rounds_succ]
    go_wp2_with fail
    go_returns
    refine ⟨rfl, ?_⟩
    go_grown

end Go.Proofs.YtimjmmiajgfblaaGreatDoor.Bg

/- Div of the package big at every two numbers, the divisor not 0: quotient and rest. -/
namespace Go.Proofs.YtimjmmiajgfblaaGreatDoor.Bg
set_option maxRecDepth 100000
open Go.RowKit

def DivWordIs (a0 a1 a2 a3 n q0 q1 q2 q3 r : Nat) : Prop := ∀ w : World, Calls Tryz.prog 75 #[.agg #[.int .u64 (a0 : Nat), .int .u64 (a1 : Nat), .int .u64 (a2 : Nat), .int .u64 (a3 : Nat)], .int .u64 (n : Nat)] w fun e w' => e = .returned (.tuple #[.agg #[.int .u64 (q0 : Nat), .int .u64 (q1 : Nat), .int .u64 (q2 : Nat), .int .u64 (q3 : Nat)], .int .u64 (r : Nat)]) ∧ Below w.heap.size w w'

theorem step_word {r a n : Nat} (h : r < n) (hn : n < 18446744073709551616) (ha : a < 18446744073709551616) : ∃ q s : Nat, q < 18446744073709551616 ∧ s < n ∧ r * 18446744073709551616 + a = q * n + s ∧ Div64Is r a n q s := by
  refine ⟨_, _, ?_, Nat.mod_lt _ (by omega), ?_, div64Is r a n h hn ha⟩
  · rw [Nat.div_lt_iff_lt_mul (by omega)]
    have : (r + 1) * 18446744073709551616 ≤ n * 18446744073709551616 := Nat.mul_le_mul_right _ h
    rw [Nat.mul_comm 18446744073709551616 n]; omega
  · rw [Nat.mul_comm _ n]; exact (Nat.div_add_mod _ _).symm

theorem divWordIs {a0 a1 a2 a3 n : Nat} (ha : Words a0 a1 a2 a3) (hn : 0 < n) (hn' : n < 18446744073709551616) :
    ∃ q0 q1 q2 q3 r : Nat, Words q0 q1 q2 q3 ∧ r < n ∧ val a0 a1 a2 a3 = val q0 q1 q2 q3 * n + r ∧ DivWordIs a0 a1 a2 a3 n q0 q1 q2 q3 r := by
  obtain ⟨h0, h1, h2, h3⟩ := ha
  obtain ⟨q3, r3, x3, y3, z3, d3⟩ := step_word (r := 0) hn hn' h3
  obtain ⟨q2, r2, x2, y2, z2, d2⟩ := step_word y3 hn' h2
  obtain ⟨q1, r1, x1, y1, z1, d1⟩ := step_word y2 hn' h1
  obtain ⟨q0, r0, x0, y0, z0, d0⟩ := step_word y1 hn' h0
  refine ⟨q0, q1, q2, q3, r0, ⟨x0, x1, x2, x3⟩, y0, ?_, fun w => divWord_words a0 a1 a2 a3 n q0 q1 q2 q3 r0 r1 r2 r3 w d3 d2 d1 d0⟩
  have vm := val_mul q0 q1 q2 q3 n
  rw [vm]
  rw [Nat.zero_mul, Nat.zero_add] at z3
  clear vm d0 d1 d2 d3 x0 x1 x2 x3 h0 h1 h2 h3
  unfold val; omega

set_option maxRecDepth 100000 in
set_option maxHeartbeats 8000000 in
theorem div_short (a0 a1 a2 a3 b0 b1 b2 b3 q0 q1 q2 q3 r : Nat) (w : World)
    (ez : ∀ w : World, (Op.equalIn 10000 51 (.agg #[.int .u64 (b0 : Nat), .int .u64 (b1 : Nat), .int .u64 (b2 : Nat), .int .u64 (b3 : Nat)]) (.agg #[.int .u64 0, .int .u64 0, .int .u64 0, .int .u64 0])).run Tryz.prog w = .ok false w)
    (eo : ∀ w : World, (Op.equalIn 10000 51 (.agg #[.int .u64 (b0 : Nat), .int .u64 (b1 : Nat), .int .u64 (b2 : Nat), .int .u64 (b3 : Nat)]) (.agg #[.int .u64 (b0 : Nat), .int .u64 0, .int .u64 0, .int .u64 0])).run Tryz.prog w = .ok true w)
    (dw : DivWordIs a0 a1 a2 a3 b0 q0 q1 q2 q3 r) :
    Calls Tryz.prog 60 #[.agg #[.int .u64 (a0 : Nat), .int .u64 (a1 : Nat), .int .u64 (a2 : Nat), .int .u64 (a3 : Nat)], .agg #[.int .u64 (b0 : Nat), .int .u64 (b1 : Nat), .int .u64 (b2 : Nat), .int .u64 (b3 : Nat)]] w fun e w' => e = .returned (.tuple #[.agg #[.int .u64 (q0 : Nat), .int .u64 (q1 : Nat), .int .u64 (q2 : Nat), .int .u64 (q3 : Nat)], .agg #[.int .u64 (r : Nat), .int .u64 0, .int .u64 0, .int .u64 0], .int .i64 0]) ∧ Below w.heap.size w w' := by
  have DWH := Lib.hid dw
  clear dw
  go_enter Tryz.func60, Tryz.ntmps60
  go_wp2_with fail
  obtain ⟨W, hW⟩ : ∃ W : World, W = (((w.alloc (.cells #[.int .u64 (a0 : Nat), .int .u64 (a1 : Nat), .int .u64 (a2 : Nat), .int .u64 (a3 : Nat)] 51)).alloc (.cells #[.int .u64 (b0 : Nat), .int .u64 (b1 : Nat), .int .u64 (b2 : Nat), .int .u64 (b3 : Nat)] 51)).alloc (.cells #[.int .u64 0, .int .u64 0, .int .u64 0, .int .u64 0] 51)).alloc (.cells #[.int .u64 0, .int .u64 0, .int .u64 0, .int .u64 0] 51) := ⟨_, rfl⟩
  have oa : Own W (w.heap.size) a0 a1 a2 a3 := by rw [hW]; refine ⟨⟨?_, ?_, ?_, ?_⟩, ?_, ?_, ?_, ?_⟩ <;> go_cell
  have ob : Own W (w.heap.size + 1) b0 b1 b2 b3 := by rw [hW]; refine ⟨⟨?_, ?_, ?_, ?_⟩, ?_, ?_, ?_, ?_⟩ <;> go_cell
  have oq : Own W (w.heap.size + 1 + 1) 0 0 0 0 := by rw [hW]; refine ⟨⟨?_, ?_, ?_, ?_⟩, ?_, ?_, ?_, ?_⟩ <;> go_cell
  have oR : Own W (w.heap.size + 1 + 1 + 1) 0 0 0 0 := by rw [hW]; refine ⟨⟨?_, ?_, ?_, ?_⟩, ?_, ?_, ?_, ?_⟩ <;> go_cell
  have pw : Below w.heap.size w W := by rw [hW]; go_grown
  rw [← hW]
  clear hW
  have ca := oa
  have cb := ob
  obtain ⟨⟨xa0, xa1, xa2, xa3⟩, _⟩ := ca
  obtain ⟨⟨xb0, xb1, xb2, xb3⟩, _⟩ := cb
  have ua0 : ∀ u : After W, u.w.cell? ⟨w.heap.size, 0, none⟩ = some (.int .u64 (a0 : Nat)) := fun u => u.cell xa0
  have ua1 : ∀ u : After W, u.w.cell? ⟨w.heap.size, 1, none⟩ = some (.int .u64 (a1 : Nat)) := fun u => u.cell xa1
  have ua2 : ∀ u : After W, u.w.cell? ⟨w.heap.size, 2, none⟩ = some (.int .u64 (a2 : Nat)) := fun u => u.cell xa2
  have ua3 : ∀ u : After W, u.w.cell? ⟨w.heap.size, 3, none⟩ = some (.int .u64 (a3 : Nat)) := fun u => u.cell xa3
  have ub0 : ∀ u : After W, u.w.cell? ⟨w.heap.size + 1, 0, none⟩ = some (.int .u64 (b0 : Nat)) := fun u => u.cell xb0
  have ub1 : ∀ u : After W, u.w.cell? ⟨w.heap.size + 1, 1, none⟩ = some (.int .u64 (b1 : Nat)) := fun u => u.cell xb1
  have ub2 : ∀ u : After W, u.w.cell? ⟨w.heap.size + 1, 2, none⟩ = some (.int .u64 (b2 : Nat)) := fun u => u.cell xb2
  have ub3 : ∀ u : After W, u.w.cell? ⟨w.heap.size + 1, 3, none⟩ = some (.int .u64 (b3 : Nat)) := fun u => u.cell xb3
  have PW := Lib.hid pw
  clear pw
  refine wp_region_after (by kernel_rfl) (by kernel_rfl) ?_
  repeat (go_big_quiet_step ((go_at_call 57; exact after_call (of_int _ _))))
  refine wpQuiet_nil ?_
  rintro _ ⟨u, rfl⟩
  clear ua0 ua1 ua2 ua3 ub0 ub1 ub2 ub3 xa0 xa1 xa2 xa3 xb0 xb1 xb2 xb3
  replace oa := oa.later u.below
  replace ob := ob.later u.below
  replace oq := oq.later u.below
  replace oR := oR.later u.below
  have PW1 := Lib.hid (below_step PW.out u.below)
  clear PW
  generalize u.w = W1 at *
  have ca := oa
  have cb := ob
  have cq := oq
  have cr := oR
  obtain ⟨⟨xa0, xa1, xa2, xa3⟩, ya0, ya1, ya2, ya3⟩ := ca
  obtain ⟨⟨xb0, xb1, xb2, xb3⟩, yb0, yb1, yb2, yb3⟩ := cb
  obtain ⟨⟨xq0, xq1, xq2, xq3⟩, yq0, yq1, yq2, yq3⟩ := cq
  obtain ⟨⟨xr0, xr1, xr2, xr3⟩, yr0, yr1, yr2, yr3⟩ := cr
  go_wp2_with fail
  refine (DWH.out _).mono ?_
  rintro e W4 ⟨rfl, h4⟩
  clear xa0 xa1 xa2 xa3 ya0 ya1 ya2 ya3 xb0 xb1 xb2 xb3 yb0 yb1 yb2 yb3 xq0 xq1 xq2 xq3 yq0 yq1 yq2 yq3 xr0 xr1 xr2 xr3 yr0 yr1 yr2 yr3 oa ob
  replace oq := oq.later h4
  replace oR := oR.later h4
  have PW4 := Lib.hid (below_step PW1.out h4)
  clear PW1 h4
  have cq := oq
  have cr := oR
  obtain ⟨⟨xq0, xq1, xq2, xq3⟩, yq0, yq1, yq2, yq3⟩ := cq
  obtain ⟨⟨xr0, xr1, xr2, xr3⟩, yr0, yr1, yr2, yr3⟩ := cr
  go_wp2_with fail
  obtain ⟨W5, hW5⟩ : ∃ W5 : World, W5 = ((((W4.setCell ⟨w.heap.size + 1 + 1, 0, none⟩ (.int .u64 (q0 : Nat))).setCell ⟨w.heap.size + 1 + 1, 1, none⟩ (.int .u64 (q1 : Nat))).setCell ⟨w.heap.size + 1 + 1, 2, none⟩ (.int .u64 (q2 : Nat))).setCell ⟨w.heap.size + 1 + 1, 3, none⟩ (.int .u64 (q3 : Nat))).setCell ⟨w.heap.size + 1 + 1 + 1, 0, none⟩ (.int .u64 (r : Nat)) := ⟨_, rfl⟩
  have tq : Own W5 (w.heap.size + 1 + 1) q0 q1 q2 q3 := by rw [hW5]; refine ⟨⟨?_, ?_, ?_, ?_⟩, ?_, ?_, ?_, ?_⟩ <;> go_cell
  have tr : Own W5 (w.heap.size + 1 + 1 + 1) r 0 0 0 := by rw [hW5]; refine ⟨⟨?_, ?_, ?_, ?_⟩, ?_, ?_, ?_, ?_⟩ <;> go_cell
  have pw : Below w.heap.size w W5 := by
    rw [hW5]
    exact ((((PW4.out.setCell (by simp <;> omega) _).setCell (by simp <;> omega) _).setCell (by simp <;> omega) _).setCell (by simp <;> omega) _).setCell (by simp <;> omega) _
  rw [← hW5]
  clear hW5 oq oR PW4 xq0 xq1 xq2 xq3 yq0 yq1 yq2 yq3 xr0 xr1 xr2 xr3 yr0 yr1 yr2 yr3
  have PW5 := Lib.hid pw
  clear pw
  obtain ⟨⟨xq0, xq1, xq2, xq3⟩, yq0, yq1, yq2, yq3⟩ := tq
  obtain ⟨⟨xr0, xr1, xr2, xr3⟩, yr0, yr1, yr2, yr3⟩ := tr
  go_region
  go_wp2_with fail
  have gq0 : ((((((((W5.setCell ⟨w.heap.size + 1 + 1, 0, none⟩ (.int .u64 (q0 : Nat))).setCell ⟨w.heap.size + 1 + 1, 1, none⟩ (.int .u64 (q1 : Nat))).setCell ⟨w.heap.size + 1 + 1, 2, none⟩ (.int .u64 (q2 : Nat))).setCell ⟨w.heap.size + 1 + 1, 3, none⟩ (.int .u64 (q3 : Nat))).setCell ⟨w.heap.size + 1 + 1 + 1, 0, none⟩ (.int .u64 (r : Nat))).setCell ⟨w.heap.size + 1 + 1 + 1, 1, none⟩ (.int .u64 0)).setCell ⟨w.heap.size + 1 + 1 + 1, 2, none⟩ (.int .u64 0)).setCell ⟨w.heap.size + 1 + 1 + 1, 3, none⟩ (.int .u64 0)).cell? ⟨w.heap.size + 1 + 1, 0, none⟩ = some (.int .u64 (q0 : Nat)) := by go_cell
  have gq1 : ((((((((W5.setCell ⟨w.heap.size + 1 + 1, 0, none⟩ (.int .u64 (q0 : Nat))).setCell ⟨w.heap.size + 1 + 1, 1, none⟩ (.int .u64 (q1 : Nat))).setCell ⟨w.heap.size + 1 + 1, 2, none⟩ (.int .u64 (q2 : Nat))).setCell ⟨w.heap.size + 1 + 1, 3, none⟩ (.int .u64 (q3 : Nat))).setCell ⟨w.heap.size + 1 + 1 + 1, 0, none⟩ (.int .u64 (r : Nat))).setCell ⟨w.heap.size + 1 + 1 + 1, 1, none⟩ (.int .u64 0)).setCell ⟨w.heap.size + 1 + 1 + 1, 2, none⟩ (.int .u64 0)).setCell ⟨w.heap.size + 1 + 1 + 1, 3, none⟩ (.int .u64 0)).cell? ⟨w.heap.size + 1 + 1, 1, none⟩ = some (.int .u64 (q1 : Nat)) := by go_cell
  have gq2 : ((((((((W5.setCell ⟨w.heap.size + 1 + 1, 0, none⟩ (.int .u64 (q0 : Nat))).setCell ⟨w.heap.size + 1 + 1, 1, none⟩ (.int .u64 (q1 : Nat))).setCell ⟨w.heap.size + 1 + 1, 2, none⟩ (.int .u64 (q2 : Nat))).setCell ⟨w.heap.size + 1 + 1, 3, none⟩ (.int .u64 (q3 : Nat))).setCell ⟨w.heap.size + 1 + 1 + 1, 0, none⟩ (.int .u64 (r : Nat))).setCell ⟨w.heap.size + 1 + 1 + 1, 1, none⟩ (.int .u64 0)).setCell ⟨w.heap.size + 1 + 1 + 1, 2, none⟩ (.int .u64 0)).setCell ⟨w.heap.size + 1 + 1 + 1, 3, none⟩ (.int .u64 0)).cell? ⟨w.heap.size + 1 + 1, 2, none⟩ = some (.int .u64 (q2 : Nat)) := by go_cell
  have gq3 : ((((((((W5.setCell ⟨w.heap.size + 1 + 1, 0, none⟩ (.int .u64 (q0 : Nat))).setCell ⟨w.heap.size + 1 + 1, 1, none⟩ (.int .u64 (q1 : Nat))).setCell ⟨w.heap.size + 1 + 1, 2, none⟩ (.int .u64 (q2 : Nat))).setCell ⟨w.heap.size + 1 + 1, 3, none⟩ (.int .u64 (q3 : Nat))).setCell ⟨w.heap.size + 1 + 1 + 1, 0, none⟩ (.int .u64 (r : Nat))).setCell ⟨w.heap.size + 1 + 1 + 1, 1, none⟩ (.int .u64 0)).setCell ⟨w.heap.size + 1 + 1 + 1, 2, none⟩ (.int .u64 0)).setCell ⟨w.heap.size + 1 + 1 + 1, 3, none⟩ (.int .u64 0)).cell? ⟨w.heap.size + 1 + 1, 3, none⟩ = some (.int .u64 (q3 : Nat)) := by go_cell
  have gr0 : ((((((((W5.setCell ⟨w.heap.size + 1 + 1, 0, none⟩ (.int .u64 (q0 : Nat))).setCell ⟨w.heap.size + 1 + 1, 1, none⟩ (.int .u64 (q1 : Nat))).setCell ⟨w.heap.size + 1 + 1, 2, none⟩ (.int .u64 (q2 : Nat))).setCell ⟨w.heap.size + 1 + 1, 3, none⟩ (.int .u64 (q3 : Nat))).setCell ⟨w.heap.size + 1 + 1 + 1, 0, none⟩ (.int .u64 (r : Nat))).setCell ⟨w.heap.size + 1 + 1 + 1, 1, none⟩ (.int .u64 0)).setCell ⟨w.heap.size + 1 + 1 + 1, 2, none⟩ (.int .u64 0)).setCell ⟨w.heap.size + 1 + 1 + 1, 3, none⟩ (.int .u64 0)).cell? ⟨w.heap.size + 1 + 1 + 1, 0, none⟩ = some (.int .u64 (r : Nat)) := by go_cell
  have gr1 : ((((((((W5.setCell ⟨w.heap.size + 1 + 1, 0, none⟩ (.int .u64 (q0 : Nat))).setCell ⟨w.heap.size + 1 + 1, 1, none⟩ (.int .u64 (q1 : Nat))).setCell ⟨w.heap.size + 1 + 1, 2, none⟩ (.int .u64 (q2 : Nat))).setCell ⟨w.heap.size + 1 + 1, 3, none⟩ (.int .u64 (q3 : Nat))).setCell ⟨w.heap.size + 1 + 1 + 1, 0, none⟩ (.int .u64 (r : Nat))).setCell ⟨w.heap.size + 1 + 1 + 1, 1, none⟩ (.int .u64 0)).setCell ⟨w.heap.size + 1 + 1 + 1, 2, none⟩ (.int .u64 0)).setCell ⟨w.heap.size + 1 + 1 + 1, 3, none⟩ (.int .u64 0)).cell? ⟨w.heap.size + 1 + 1 + 1, 1, none⟩ = some (.int .u64 0) := by go_cell
  have gr2 : ((((((((W5.setCell ⟨w.heap.size + 1 + 1, 0, none⟩ (.int .u64 (q0 : Nat))).setCell ⟨w.heap.size + 1 + 1, 1, none⟩ (.int .u64 (q1 : Nat))).setCell ⟨w.heap.size + 1 + 1, 2, none⟩ (.int .u64 (q2 : Nat))).setCell ⟨w.heap.size + 1 + 1, 3, none⟩ (.int .u64 (q3 : Nat))).setCell ⟨w.heap.size + 1 + 1 + 1, 0, none⟩ (.int .u64 (r : Nat))).setCell ⟨w.heap.size + 1 + 1 + 1, 1, none⟩ (.int .u64 0)).setCell ⟨w.heap.size + 1 + 1 + 1, 2, none⟩ (.int .u64 0)).setCell ⟨w.heap.size + 1 + 1 + 1, 3, none⟩ (.int .u64 0)).cell? ⟨w.heap.size + 1 + 1 + 1, 2, none⟩ = some (.int .u64 0) := by go_cell
  have gr3 : ((((((((W5.setCell ⟨w.heap.size + 1 + 1, 0, none⟩ (.int .u64 (q0 : Nat))).setCell ⟨w.heap.size + 1 + 1, 1, none⟩ (.int .u64 (q1 : Nat))).setCell ⟨w.heap.size + 1 + 1, 2, none⟩ (.int .u64 (q2 : Nat))).setCell ⟨w.heap.size + 1 + 1, 3, none⟩ (.int .u64 (q3 : Nat))).setCell ⟨w.heap.size + 1 + 1 + 1, 0, none⟩ (.int .u64 (r : Nat))).setCell ⟨w.heap.size + 1 + 1 + 1, 1, none⟩ (.int .u64 0)).setCell ⟨w.heap.size + 1 + 1 + 1, 2, none⟩ (.int .u64 0)).setCell ⟨w.heap.size + 1 + 1 + 1, 3, none⟩ (.int .u64 0)).cell? ⟨w.heap.size + 1 + 1 + 1, 3, none⟩ = some (.int .u64 0) := by go_cell
  refine bodyPost_ret (v := .tuple #[.agg #[.int .u64 (q0 : Nat), .int .u64 (q1 : Nat), .int .u64 (q2 : Nat), .int .u64 (q3 : Nat)], .agg #[.int .u64 (r : Nat), .int .u64 0, .int .u64 0, .int .u64 0], .int .i64 0]) (by simp [results, Tryz.results60, go_sem, gq0, gq1, gq2, gq3, gr0, gr1, gr2, gr3]) rfl ⟨rfl, ?_⟩
  exact ((((((((PW5.out.setCell (by simp <;> omega) _).setCell (by simp <;> omega) _).setCell (by simp <;> omega) _).setCell (by simp <;> omega) _).setCell (by simp <;> omega) _).setCell (by simp <;> omega) _).setCell (by simp <;> omega) _).setCell (by simp <;> omega) _).drew

theorem eqz {b0 b1 b2 b3 c : Nat} (hb : Words b0 b1 b2 b3) (hc : c < 18446744073709551616) (x : Bool) (hx : x = decide (val b0 b1 b2 b3 = c)) (w : World) :
    (Op.equalIn 10000 51 (.agg #[.int .u64 (b0 : Nat), .int .u64 (b1 : Nat), .int .u64 (b2 : Nat), .int .u64 (b3 : Nat)]) (.agg #[.int .u64 (c : Nat), .int .u64 0, .int .u64 0, .int .u64 0])).run Tryz.prog w = .ok x w :=
  eqIs hb (b0 := c) (b1 := 0) (b2 := 0) (b3 := 0) ⟨hc, by omega, by omega, by omega⟩ x (by rw [hx]; congr 1) w

/-- Div at every two numbers, the divisor not 0. -/
theorem div_any {a0 a1 a2 a3 b0 b1 b2 b3 : Nat} (ha : Words a0 a1 a2 a3) (hb : Words b0 b1 b2 b3) (pos : 0 < val b0 b1 b2 b3) (w : World) :
    Calls Tryz.prog 60 #[.agg #[.int .u64 (a0 : Nat), .int .u64 (a1 : Nat), .int .u64 (a2 : Nat), .int .u64 (a3 : Nat)], .agg #[.int .u64 (b0 : Nat), .int .u64 (b1 : Nat), .int .u64 (b2 : Nat), .int .u64 (b3 : Nat)]] w (DivPost (val a0 a1 a2 a3) (val b0 b1 b2 b3) w) := by
  have z := eqz hb (c := 0) (by omega) false (by symm; rw [decide_eq_false_iff_not]; omega)
  by_cases one : val b0 b1 b2 b3 = b0
  · have hb' := hb
    obtain ⟨k0, k1, k2, k3⟩ := hb'
    obtain ⟨q0, q1, q2, q3, r, wq, rl, e, dw⟩ := divWordIs ha (n := b0) (by omega) k0
    refine (div_short a0 a1 a2 a3 b0 b1 b2 b3 q0 q1 q2 q3 r w z (eqz hb k0 true (by rw [decide_eq_true one])) dw).mono fun e' w' ⟨he, hw⟩ => ?_
    exact ⟨q0, q1, q2, q3, r, 0, 0, 0, he, wq, ⟨by omega, by omega, by omega, by omega⟩, by rw [one, e]; unfold val; omega, by rw [one]; unfold val; omega, hw⟩
  · have bA := bits4_of ha
    have bB := bits4_of hb
    have la : val a0 a1 a2 a3 < 2 ^ 256 := by obtain ⟨_, _, _, _⟩ := ha; rw [show (2 : Nat) ^ 256 = 115792089237316195423570985008687907853269984665640564039457584007913129639936 by decide]; unfold val; omega
    have lb : val b0 b1 b2 b3 < 2 ^ 256 := by obtain ⟨_, _, _, _⟩ := hb; rw [show (2 : Nat) ^ 256 = 115792089237316195423570985008687907853269984665640564039457584007913129639936 by decide]; unfold val; omega
    have le : ∀ x n, BitsOf x n → x < 2 ^ 256 → n ≤ 256 := fun x n h hx => by
      by_cases h0 : x = 0
      · rw [h.1 h0]; omega
      · obtain ⟨c1, c2, c3⟩ := h.2 h0
        rcases Nat.lt_or_ge 256 n with hlt | hge
        · have : 2 ^ 256 ≤ 2 ^ (n - 1) := Nat.pow_le_pow_right (by omega) (by omega)
          omega
        · exact hge
    refine div_long a0 a1 a2 a3 b0 b1 b2 b3 _ _ w ha hb z (eqz hb (by obtain ⟨k0, _⟩ := hb; exact k0) false (by symm; rw [decide_eq_false_iff_not]; exact one)) (bitsIs ha) (bitsIs hb) (le _ _ bA la) (le _ _ bB lb) ?_ pos
    generalize bits4 (Lib.bitLen a0) (Lib.bitLen a1) (Lib.bitLen a2) (Lib.bitLen a3) a0 a1 a2 a3 = na at *
    generalize bits4 (Lib.bitLen b0) (Lib.bitLen b1) (Lib.bitLen b2) (Lib.bitLen b3) b0 b1 b2 b3 = nb at *
    generalize val a0 a1 a2 a3 = A at *
    generalize val b0 b1 b2 b3 = B at *
    obtain ⟨c1, c2, c3⟩ := bB.2 (by omega)
    have na256 := le _ _ bA la
    have e256 : (2 : Nat) ^ 256 = 115792089237316195423570985008687907853269984665640564039457584007913129639936 := by decide
    refine ⟨by omega, ?_, Nat.zero_mod _, fun h => ?_⟩
    · by_cases A0 : A = 0
      · rw [A0]; exact Nat.mul_pos pos (Nat.two_pow_pos _)
      · obtain ⟨d1, d2, d3⟩ := bA.2 A0
        have h1 : 2 ^ (nb - 1) * 2 ^ ((na : Int) - (nb : Int) + 1).toNat ≤ B * 2 ^ ((na : Int) - (nb : Int) + 1).toNat := Nat.mul_le_mul_right _ c2
        rw [← Nat.pow_add] at h1
        have h2 : 2 ^ na ≤ 2 ^ (nb - 1 + ((na : Int) - (nb : Int) + 1).toNat) := Nat.pow_le_pow_right (by omega) (by omega)
        omega
    · have h1 : B * 2 ^ ((na : Int) - (nb : Int)).toNat < 2 ^ nb * 2 ^ ((na : Int) - (nb : Int)).toNat := Nat.mul_lt_mul_of_pos_right c3 (Nat.two_pow_pos _)
      rw [← Nat.pow_add] at h1
      have h2 : 2 ^ (nb + ((na : Int) - (nb : Int)).toNat) ≤ 2 ^ 256 := Nat.pow_le_pow_right (by omega) (by omega)
      omega

end Go.Proofs.YtimjmmiajgfblaaGreatDoor.Bg

/- What the functions of the package big give, as statements on numbers: each at every input. No condition but that each word is below 2^64, that a shift is below 256, and that a divisor is not 0. -/
namespace Go.Proofs.YtimjmmiajgfblaaGreatDoor.Bg
set_option maxRecDepth 100000
open Go.RowKit

def UpIs (x0 x1 x2 x3 n s0 s1 s2 s3 : Nat) : Prop := ∀ w : World, Calls Tryz.prog 59 #[.agg #[.int .u64 (x0 : Nat), .int .u64 (x1 : Nat), .int .u64 (x2 : Nat), .int .u64 (x3 : Nat)], .int .i64 (n : Nat)] w fun e w' => e = .returned (.agg #[.int .u64 (s0 : Nat), .int .u64 (s1 : Nat), .int .u64 (s2 : Nat), .int .u64 (s3 : Nat)]) ∧ Below w.heap.size w w'
def DownIs (x0 x1 x2 x3 n s0 s1 s2 s3 : Nat) : Prop := ∀ w : World, Calls Tryz.prog 56 #[.agg #[.int .u64 (x0 : Nat), .int .u64 (x1 : Nat), .int .u64 (x2 : Nat), .int .u64 (x3 : Nat)], .int .i64 (n : Nat)] w fun e w' => e = .returned (.agg #[.int .u64 (s0 : Nat), .int .u64 (s1 : Nat), .int .u64 (s2 : Nat), .int .u64 (s3 : Nat)]) ∧ Below w.heap.size w w'
def AddIs (x0 x1 x2 x3 y0 y1 y2 y3 s0 s1 s2 s3 : Nat) (o : Bool) : Prop := ∀ w : World, Calls Tryz.prog 62 #[.agg #[.int .u64 (x0 : Nat), .int .u64 (x1 : Nat), .int .u64 (x2 : Nat), .int .u64 (x3 : Nat)], .agg #[.int .u64 (y0 : Nat), .int .u64 (y1 : Nat), .int .u64 (y2 : Nat), .int .u64 (y3 : Nat)]] w fun e w' => e = .returned (.tuple #[.agg #[.int .u64 (s0 : Nat), .int .u64 (s1 : Nat), .int .u64 (s2 : Nat), .int .u64 (s3 : Nat)], .bool o]) ∧ Below w.heap.size w w'
def SubIs (x0 x1 x2 x3 y0 y1 y2 y3 s0 s1 s2 s3 : Nat) (o : Bool) : Prop := ∀ w : World, Calls Tryz.prog 76 #[.agg #[.int .u64 (x0 : Nat), .int .u64 (x1 : Nat), .int .u64 (x2 : Nat), .int .u64 (x3 : Nat)], .agg #[.int .u64 (y0 : Nat), .int .u64 (y1 : Nat), .int .u64 (y2 : Nat), .int .u64 (y3 : Nat)]] w fun e w' => e = .returned (.tuple #[.agg #[.int .u64 (s0 : Nat), .int .u64 (s1 : Nat), .int .u64 (s2 : Nat), .int .u64 (s3 : Nat)], .bool o]) ∧ Below w.heap.size w w'
def DivIs (x0 x1 x2 x3 y0 y1 y2 y3 q0 q1 q2 q3 r0 r1 r2 r3 : Nat) : Prop := ∀ w : World, Calls Tryz.prog 60 #[.agg #[.int .u64 (x0 : Nat), .int .u64 (x1 : Nat), .int .u64 (x2 : Nat), .int .u64 (x3 : Nat)], .agg #[.int .u64 (y0 : Nat), .int .u64 (y1 : Nat), .int .u64 (y2 : Nat), .int .u64 (y3 : Nat)]] w fun e w' => e = .returned (.tuple #[.agg #[.int .u64 (q0 : Nat), .int .u64 (q1 : Nat), .int .u64 (q2 : Nat), .int .u64 (q3 : Nat)], .agg #[.int .u64 (r0 : Nat), .int .u64 (r1 : Nat), .int .u64 (r2 : Nat), .int .u64 (r3 : Nat)], .int .i64 0]) ∧ Below w.heap.size w w'
theorem words_of {x : Nat} (h : x < 115792089237316195423570985008687907853269984665640564039457584007913129639936) : ∃ x0 x1 x2 x3 : Nat, Words x0 x1 x2 x3 ∧ val x0 x1 x2 x3 = x := by
  refine ⟨x % 18446744073709551616, x / 18446744073709551616 % 18446744073709551616, x / 18446744073709551616 / 18446744073709551616 % 18446744073709551616, x / 18446744073709551616 / 18446744073709551616 / 18446744073709551616, ⟨by omega, by omega, by omega, by omega⟩, ?_⟩
  unfold val; omega
theorem val_lt {x0 x1 x2 x3 : Nat} (h : Words x0 x1 x2 x3) : val x0 x1 x2 x3 < 115792089237316195423570985008687907853269984665640564039457584007913129639936 := by
  obtain ⟨_, _, _, _⟩ := h; unfold val; omega

theorem addIs {a0 a1 a2 a3 b0 b1 b2 b3 s0 s1 s2 s3 : Nat} (ha : Words a0 a1 a2 a3) (hb : Words b0 b1 b2 b3) (hs : Words s0 s1 s2 s3) (o : Bool) (h : val s0 s1 s2 s3 = (val a0 a1 a2 a3 + val b0 b1 b2 b3) % 115792089237316195423570985008687907853269984665640564039457584007913129639936) (ho : o = decide (115792089237316195423570985008687907853269984665640564039457584007913129639936 ≤ val a0 a1 a2 a3 + val b0 b1 b2 b3)) :
    AddIs a0 a1 a2 a3 b0 b1 b2 b3 s0 s1 s2 s3 o := by
  obtain ⟨t0, t1, t2, t3, ht, e, c⟩ := add_any ha hb
  obtain ⟨rfl, rfl, rfl, rfl⟩ := val_inj hs ht (h.trans e.symm)
  intro w; rw [ho]; exact c w
theorem subIs {a0 a1 a2 a3 b0 b1 b2 b3 s0 s1 s2 s3 : Nat} (ha : Words a0 a1 a2 a3) (hb : Words b0 b1 b2 b3) (hs : Words s0 s1 s2 s3) (o : Bool) (h : val s0 s1 s2 s3 = (if val a0 a1 a2 a3 < val b0 b1 b2 b3 then val a0 a1 a2 a3 + 115792089237316195423570985008687907853269984665640564039457584007913129639936 - val b0 b1 b2 b3 else val a0 a1 a2 a3 - val b0 b1 b2 b3)) (ho : o = decide (val a0 a1 a2 a3 < val b0 b1 b2 b3)) :
    SubIs a0 a1 a2 a3 b0 b1 b2 b3 s0 s1 s2 s3 o := by
  obtain ⟨t0, t1, t2, t3, ht, e, c⟩ := sub_any ha hb
  obtain ⟨rfl, rfl, rfl, rfl⟩ := val_inj hs ht (h.trans e.symm)
  intro w; rw [ho]; exact c w
theorem upIs {a0 a1 a2 a3 n s0 s1 s2 s3 : Nat} (ha : Words a0 a1 a2 a3) (hn : n < 256) (hs : Words s0 s1 s2 s3) (h : val s0 s1 s2 s3 = val a0 a1 a2 a3 * 2 ^ n % 115792089237316195423570985008687907853269984665640564039457584007913129639936) : UpIs a0 a1 a2 a3 n s0 s1 s2 s3 := by
  obtain ⟨t0, t1, t2, t3, ht, e, c⟩ := up_any a0 a1 a2 a3 n ha hn
  obtain ⟨rfl, rfl, rfl, rfl⟩ := val_inj hs ht (h.trans e.symm)
  exact c
theorem downIs {a0 a1 a2 a3 n s0 s1 s2 s3 : Nat} (ha : Words a0 a1 a2 a3) (hn : n < 256) (hs : Words s0 s1 s2 s3) (h : val s0 s1 s2 s3 = val a0 a1 a2 a3 / 2 ^ n) : DownIs a0 a1 a2 a3 n s0 s1 s2 s3 := by
  obtain ⟨t0, t1, t2, t3, ht, e, c⟩ := down_any a0 a1 a2 a3 n ha hn
  obtain ⟨rfl, rfl, rfl, rfl⟩ := val_inj hs ht (h.trans e.symm)
  exact c
theorem divIs {a0 a1 a2 a3 b0 b1 b2 b3 q0 q1 q2 q3 r0 r1 r2 r3 : Nat} (ha : Words a0 a1 a2 a3) (hb : Words b0 b1 b2 b3) (hq : Words q0 q1 q2 q3) (hr : Words r0 r1 r2 r3) (pos : 0 < val b0 b1 b2 b3) (eq : val q0 q1 q2 q3 = val a0 a1 a2 a3 / val b0 b1 b2 b3) (er : val r0 r1 r2 r3 = val a0 a1 a2 a3 % val b0 b1 b2 b3) :
    DivIs a0 a1 a2 a3 b0 b1 b2 b3 q0 q1 q2 q3 r0 r1 r2 r3 := by
  intro w
  refine (div_any ha hb pos w).mono fun e w' ⟨t0, t1, t2, t3, s0, s1, s2, s3, he, ht, hs, e1, e2, hw⟩ => ?_
  have f1 : val t0 t1 t2 t3 = val a0 a1 a2 a3 / val b0 b1 b2 b3 := by
    rw [e1, Nat.add_comm, Nat.add_mul_div_right _ _ pos, Nat.div_eq_of_lt e2, Nat.zero_add]
  have f2 : val s0 s1 s2 s3 = val a0 a1 a2 a3 % val b0 b1 b2 b3 := by
    rw [e1, Nat.add_comm, Nat.add_mul_mod_self_right, Nat.mod_eq_of_lt e2]
  obtain ⟨rfl, rfl, rfl, rfl⟩ := val_inj ht hq (f1.trans eq.symm)
  obtain ⟨rfl, rfl, rfl, rfl⟩ := val_inj hs hr (f2.trans er.symm)
  exact ⟨he, hw⟩
/-- Of, at a word. -/
theorem ofIs (n : Nat) (w : World) : Calls Tryz.prog 57 #[.int .u64 (n : Nat)] w fun e w' => e = .returned (.agg #[.int .u64 (n : Nat), .int .u64 0, .int .u64 0, .int .u64 0]) ∧ Below w.heap.size w w' := of_int _ w

end Go.Proofs.YtimjmmiajgfblaaGreatDoor.Bg

/- Of of the package target, walked: what compact bits mean, given what each call returns. -/
namespace Go.Proofs.YtimjmmiajgfblaaGreatDoor.Bg
set_option maxRecDepth 100000
open Go.RowKit

/-- '==' between a number and 0, decided. -/
def EqZ (x0 x1 x2 x3 : Nat) (r : Bool) : Prop := ∀ w : World, (Op.equalIn 10000 51 (.agg #[.int .u64 (x0 : Nat), .int .u64 (x1 : Nat), .int .u64 (x2 : Nat), .int .u64 (x3 : Nat)]) (.agg #[.int .u64 0, .int .u64 0, .int .u64 0, .int .u64 0])).run Tryz.prog w = .ok r w
/-- Down and Up of a number by any number of bits, below 0 too. -/
def DownZ (x0 x1 x2 x3 : Nat) (n : Int) (s0 s1 s2 s3 : Nat) : Prop := ∀ w : World, Calls Tryz.prog 56 #[.agg #[.int .u64 (x0 : Nat), .int .u64 (x1 : Nat), .int .u64 (x2 : Nat), .int .u64 (x3 : Nat)], .int .i64 n] w fun e w' => e = .returned (.agg #[.int .u64 (s0 : Nat), .int .u64 (s1 : Nat), .int .u64 (s2 : Nat), .int .u64 (s3 : Nat)]) ∧ Below w.heap.size w w'
def UpZ (x0 x1 x2 x3 : Nat) (n : Int) (s0 s1 s2 s3 : Nat) : Prop := ∀ w : World, Calls Tryz.prog 59 #[.agg #[.int .u64 (x0 : Nat), .int .u64 (x1 : Nat), .int .u64 (x2 : Nat), .int .u64 (x3 : Nat)], .int .i64 n] w fun e w' => e = .returned (.agg #[.int .u64 (s0 : Nat), .int .u64 (s1 : Nat), .int .u64 (s2 : Nat), .int .u64 (s3 : Nat)]) ∧ Below w.heap.size w w'
theorem DownZ.word {n s0 s1 s2 s3 : Nat} {d : Int} (h : DownZ n 0 0 0 d s0 s1 s2 s3) (w : World) : Calls Tryz.prog 56 #[.agg #[.int .u64 (n : Nat), .int .u64 0, .int .u64 0, .int .u64 0], .int .i64 d] w fun e w' => e = .returned (.agg #[.int .u64 (s0 : Nat), .int .u64 (s1 : Nat), .int .u64 (s2 : Nat), .int .u64 (s3 : Nat)]) ∧ Below w.heap.size w w' := h w

set_option maxRecDepth 100000 in
set_option maxHeartbeats 8000000 in
theorem tof_zero (n p nb t0 t1 t2 t3 : Nat) (u : Int) (w : World) (_hn : n < 4294967296) (_hp : p < 8388608) (_hnb : nb ≤ 256) (_hu0 : -24 ≤ u) (_hu1 : u ≤ 2016) (hs : 8 * ((n : Int) / 16777216 - 3) = u) (hb : bits BinOp.and IntKind.u32 (n : Int) 8388607 = (p : Int))
    (dn : DownZ p 0 0 0 (-u) t0 t1 t2 t3) (ez : EqZ t0 t1 t2 t3 true) :
    Calls Tryz.prog 29 #[.int .u32 (n : Nat)] w fun e w' => e = .returned (.tuple #[.agg #[.int .u64 0, .int .u64 0, .int .u64 0, .int .u64 0], .bool false]) ∧ Below w.heap.size w w' := by
  have DN := Lib.hid dn
  clear dn
  unfold EqZ at ez
  go_enter Tryz.func29, Tryz.ntmps29
  go_wp2_with fail
  refine (ofIs p _).mono ?_
  rintro e w1 ⟨rfl, h1⟩
  have PB : Below w.heap.size w w1 := ((Below.refl _ _).alloc (Nat.le_refl _) _).trans (h1.mono (by simp))
  have HR := (Holds.new w #[.int .u64 0, .int .u64 0, .int .u64 0, .int .u64 0] 51).later h1
  clear h1
  have HPB := Lib.hid PB
  clear PB
  go_wp2_with fail
  have PB := HPB.out
  clear HPB
  refine (DN.out.word _).mono ?_
  rintro e w1 ⟨rfl, hc⟩
  replace HR := HR.later hc
  have PC := below_step PB hc
  clear PB hc
  have PB := PC
  clear PC
  have HPB := Lib.hid PB
  clear PB
  go_wp2_with fail
  have PB := HPB.out
  clear HPB
  replace HR := HR.later ((Below.refl _ _).alloc (Nat.le_refl _) (.cells #[.int .u64 (t0 : Nat), .int .u64 (t1 : Nat), .int .u64 (t2 : Nat), .int .u64 (t3 : Nat)] 51))
  have xt := Box.new (w1) (t0 : Nat) (t1 : Nat) (t2 : Nat) (t3 : Nat) 51
  have PC := below_alloc PB (.cells #[.int .u64 (t0 : Nat), .int .u64 (t1 : Nat), .int .u64 (t2 : Nat), .int .u64 (t3 : Nat)] 51)
  clear PB
  have PB := PC
  clear PC
  generalize (w1).alloc (.cells #[.int .u64 (t0 : Nat), .int .u64 (t1 : Nat), .int .u64 (t2 : Nat), .int .u64 (t3 : Nat)] 51) = W2 at *
  generalize w1.heap.size = Bt at *
  have ct := xt
  obtain ⟨ct0, ct1, ct2, ct3⟩ := ct
  have lt := World.block_lt_of_cell? _ _ ct0
  simp only [] at lt
  have ut0 : ∀ u : After W2, u.w.cell? ⟨Bt, 0, none⟩ = some (.int .u64 (t0 : Nat)) := fun u => u.cell ct0
  have ut1 : ∀ u : After W2, u.w.cell? ⟨Bt, 1, none⟩ = some (.int .u64 (t1 : Nat)) := fun u => u.cell ct1
  have ut2 : ∀ u : After W2, u.w.cell? ⟨Bt, 2, none⟩ = some (.int .u64 (t2 : Nat)) := fun u => u.cell ct2
  have ut3 : ∀ u : After W2, u.w.cell? ⟨Bt, 3, none⟩ = some (.int .u64 (t3 : Nat)) := fun u => u.cell ct3
  have HPB := Lib.hid PB
  clear PB
  refine wp_region_after (by kernel_rfl) (by kernel_rfl) ?_
  repeat (go_big_quiet_step ((first | (go_at_call 57; exact after_call (of_int 0 _)))))
  refine wpQuiet_nil ?_
  rintro _ ⟨u, rfl⟩
  clear ct0 ct1 ct2 ct3 lt
  clear ut0 ut1 ut2 ut3
  replace xt := xt.later u.below
  replace HR := HR.later u.below
  have PB := below_step HPB.out u.below
  clear HPB
  generalize u.w = W3 at *
  clear u
  have m0 : W3.cell? ⟨w.heap.size, 0, none⟩ = some (.int .u64 0) := HR.cell 0
  have z0 : W3.frozen? ⟨w.heap.size, 0, none⟩ = false := HR.free 0
  have m1 : W3.cell? ⟨w.heap.size, 1, none⟩ = some (.int .u64 0) := HR.cell 1
  have z1 : W3.frozen? ⟨w.heap.size, 1, none⟩ = false := HR.free 1
  have m2 : W3.cell? ⟨w.heap.size, 2, none⟩ = some (.int .u64 0) := HR.cell 2
  have z2 : W3.frozen? ⟨w.heap.size, 2, none⟩ = false := HR.free 2
  have m3 : W3.cell? ⟨w.heap.size, 3, none⟩ = some (.int .u64 0) := HR.cell 3
  have z3 : W3.frozen? ⟨w.heap.size, 3, none⟩ = false := HR.free 3
  have HPB := Lib.hid PB
  clear PB
  go_wp2_with fail
  have b := ((((HPB.out.setCell (p := ⟨w.heap.size, 0, none⟩) (Nat.le_refl _) (.int .u64 0)).setCell (p := ⟨w.heap.size, 1, none⟩) (Nat.le_refl _) (.int .u64 0)).setCell (p := ⟨w.heap.size, 2, none⟩) (Nat.le_refl _) (.int .u64 0)).setCell (p := ⟨w.heap.size, 3, none⟩) (Nat.le_refl _) (.int .u64 0))
  have HS : Holds ((((W3.setCell ⟨w.heap.size, 0, none⟩ (.int .u64 0)).setCell ⟨w.heap.size, 1, none⟩ (.int .u64 0)).setCell ⟨w.heap.size, 2, none⟩ (.int .u64 0)).setCell ⟨w.heap.size, 3, none⟩ (.int .u64 0)) (w.heap.size) #[.int .u64 0, .int .u64 0, .int .u64 0, .int .u64 0] 51 := (((HR.set _).set _).set _).set _
  have g0 : ((((W3.setCell ⟨w.heap.size, 0, none⟩ (.int .u64 0)).setCell ⟨w.heap.size, 1, none⟩ (.int .u64 0)).setCell ⟨w.heap.size, 2, none⟩ (.int .u64 0)).setCell ⟨w.heap.size, 3, none⟩ (.int .u64 0)).cell? ⟨w.heap.size, 0, none⟩ = some (.int .u64 0) := HS.cell 0
  have g1 : ((((W3.setCell ⟨w.heap.size, 0, none⟩ (.int .u64 0)).setCell ⟨w.heap.size, 1, none⟩ (.int .u64 0)).setCell ⟨w.heap.size, 2, none⟩ (.int .u64 0)).setCell ⟨w.heap.size, 3, none⟩ (.int .u64 0)).cell? ⟨w.heap.size, 1, none⟩ = some (.int .u64 0) := HS.cell 1
  have g2 : ((((W3.setCell ⟨w.heap.size, 0, none⟩ (.int .u64 0)).setCell ⟨w.heap.size, 1, none⟩ (.int .u64 0)).setCell ⟨w.heap.size, 2, none⟩ (.int .u64 0)).setCell ⟨w.heap.size, 3, none⟩ (.int .u64 0)).cell? ⟨w.heap.size, 2, none⟩ = some (.int .u64 0) := HS.cell 2
  have g3 : ((((W3.setCell ⟨w.heap.size, 0, none⟩ (.int .u64 0)).setCell ⟨w.heap.size, 1, none⟩ (.int .u64 0)).setCell ⟨w.heap.size, 2, none⟩ (.int .u64 0)).setCell ⟨w.heap.size, 3, none⟩ (.int .u64 0)).cell? ⟨w.heap.size, 3, none⟩ = some (.int .u64 0) := HS.cell 3
  refine bodyPost_ret (v := .tuple #[.agg #[.int .u64 0, .int .u64 0, .int .u64 0, .int .u64 0], .bool false]) (by simp [results, Tryz.results29, go_sem, g0, g1, g2, g3]) rfl ⟨rfl, b⟩

set_option maxRecDepth 100000 in
set_option maxHeartbeats 8000000 in
theorem tof_sign (n p nb t0 t1 t2 t3 : Nat) (u : Int) (w : World) (_hn : n < 4294967296) (_hp : p < 8388608) (_hnb : nb ≤ 256) (_hu0 : -24 ≤ u) (_hu1 : u ≤ 2016) (hs : 8 * ((n : Int) / 16777216 - 3) = u) (hb : bits BinOp.and IntKind.u32 (n : Int) 8388607 = (p : Int))
    (dn : DownZ p 0 0 0 (-u) t0 t1 t2 t3) (ez : EqZ t0 t1 t2 t3 false) (hsg : (bits BinOp.and IntKind.u32 (n : Int) 8388608 != 0) = true) :
    Calls Tryz.prog 29 #[.int .u32 (n : Nat)] w fun e w' => e = .returned (.tuple #[.agg #[.int .u64 0, .int .u64 0, .int .u64 0, .int .u64 0], .bool false]) ∧ Below w.heap.size w w' := by
  have DN := Lib.hid dn
  clear dn
  unfold EqZ at ez
  go_enter Tryz.func29, Tryz.ntmps29
  go_wp2_with fail
  refine (ofIs p _).mono ?_
  rintro e w1 ⟨rfl, h1⟩
  have PB : Below w.heap.size w w1 := ((Below.refl _ _).alloc (Nat.le_refl _) _).trans (h1.mono (by simp))
  have HR := (Holds.new w #[.int .u64 0, .int .u64 0, .int .u64 0, .int .u64 0] 51).later h1
  clear h1
  have HPB := Lib.hid PB
  clear PB
  go_wp2_with fail
  have PB := HPB.out
  clear HPB
  refine (DN.out.word _).mono ?_
  rintro e w1 ⟨rfl, hc⟩
  replace HR := HR.later hc
  have PC := below_step PB hc
  clear PB hc
  have PB := PC
  clear PC
  have HPB := Lib.hid PB
  clear PB
  go_wp2_with fail
  have PB := HPB.out
  clear HPB
  replace HR := HR.later ((Below.refl _ _).alloc (Nat.le_refl _) (.cells #[.int .u64 (t0 : Nat), .int .u64 (t1 : Nat), .int .u64 (t2 : Nat), .int .u64 (t3 : Nat)] 51))
  have xt := Box.new (w1) (t0 : Nat) (t1 : Nat) (t2 : Nat) (t3 : Nat) 51
  have PC := below_alloc PB (.cells #[.int .u64 (t0 : Nat), .int .u64 (t1 : Nat), .int .u64 (t2 : Nat), .int .u64 (t3 : Nat)] 51)
  clear PB
  have PB := PC
  clear PC
  generalize (w1).alloc (.cells #[.int .u64 (t0 : Nat), .int .u64 (t1 : Nat), .int .u64 (t2 : Nat), .int .u64 (t3 : Nat)] 51) = W2 at *
  generalize w1.heap.size = Bt at *
  have ct := xt
  obtain ⟨ct0, ct1, ct2, ct3⟩ := ct
  have lt := World.block_lt_of_cell? _ _ ct0
  simp only [] at lt
  have ut0 : ∀ u : After W2, u.w.cell? ⟨Bt, 0, none⟩ = some (.int .u64 (t0 : Nat)) := fun u => u.cell ct0
  have ut1 : ∀ u : After W2, u.w.cell? ⟨Bt, 1, none⟩ = some (.int .u64 (t1 : Nat)) := fun u => u.cell ct1
  have ut2 : ∀ u : After W2, u.w.cell? ⟨Bt, 2, none⟩ = some (.int .u64 (t2 : Nat)) := fun u => u.cell ct2
  have ut3 : ∀ u : After W2, u.w.cell? ⟨Bt, 3, none⟩ = some (.int .u64 (t3 : Nat)) := fun u => u.cell ct3
  have HPB := Lib.hid PB
  clear PB
  refine wp_region_after (by kernel_rfl) (by kernel_rfl) ?_
  repeat (go_big_quiet_step ((first | (go_at_call 57; exact after_call (of_int 0 _)))))
  refine wpQuiet_nil ?_
  rintro _ ⟨u, rfl⟩
  clear ct0 ct1 ct2 ct3 lt
  clear ut0 ut1 ut2 ut3
  replace xt := xt.later u.below
  replace HR := HR.later u.below
  have PB := below_step HPB.out u.below
  clear HPB
  generalize u.w = W3 at *
  clear u
  have m0 : W3.cell? ⟨w.heap.size, 0, none⟩ = some (.int .u64 0) := HR.cell 0
  have z0 : W3.frozen? ⟨w.heap.size, 0, none⟩ = false := HR.free 0
  have m1 : W3.cell? ⟨w.heap.size, 1, none⟩ = some (.int .u64 0) := HR.cell 1
  have z1 : W3.frozen? ⟨w.heap.size, 1, none⟩ = false := HR.free 1
  have m2 : W3.cell? ⟨w.heap.size, 2, none⟩ = some (.int .u64 0) := HR.cell 2
  have z2 : W3.frozen? ⟨w.heap.size, 2, none⟩ = false := HR.free 2
  have m3 : W3.cell? ⟨w.heap.size, 3, none⟩ = some (.int .u64 0) := HR.cell 3
  have z3 : W3.frozen? ⟨w.heap.size, 3, none⟩ = false := HR.free 3
  have HPB := Lib.hid PB
  clear PB
  go_wp2_with fail
  have b := ((((HPB.out.setCell (p := ⟨w.heap.size, 0, none⟩) (Nat.le_refl _) (.int .u64 0)).setCell (p := ⟨w.heap.size, 1, none⟩) (Nat.le_refl _) (.int .u64 0)).setCell (p := ⟨w.heap.size, 2, none⟩) (Nat.le_refl _) (.int .u64 0)).setCell (p := ⟨w.heap.size, 3, none⟩) (Nat.le_refl _) (.int .u64 0))
  have HS : Holds ((((W3.setCell ⟨w.heap.size, 0, none⟩ (.int .u64 0)).setCell ⟨w.heap.size, 1, none⟩ (.int .u64 0)).setCell ⟨w.heap.size, 2, none⟩ (.int .u64 0)).setCell ⟨w.heap.size, 3, none⟩ (.int .u64 0)) (w.heap.size) #[.int .u64 0, .int .u64 0, .int .u64 0, .int .u64 0] 51 := (((HR.set _).set _).set _).set _
  have g0 : ((((W3.setCell ⟨w.heap.size, 0, none⟩ (.int .u64 0)).setCell ⟨w.heap.size, 1, none⟩ (.int .u64 0)).setCell ⟨w.heap.size, 2, none⟩ (.int .u64 0)).setCell ⟨w.heap.size, 3, none⟩ (.int .u64 0)).cell? ⟨w.heap.size, 0, none⟩ = some (.int .u64 0) := HS.cell 0
  have g1 : ((((W3.setCell ⟨w.heap.size, 0, none⟩ (.int .u64 0)).setCell ⟨w.heap.size, 1, none⟩ (.int .u64 0)).setCell ⟨w.heap.size, 2, none⟩ (.int .u64 0)).setCell ⟨w.heap.size, 3, none⟩ (.int .u64 0)).cell? ⟨w.heap.size, 1, none⟩ = some (.int .u64 0) := HS.cell 1
  have g2 : ((((W3.setCell ⟨w.heap.size, 0, none⟩ (.int .u64 0)).setCell ⟨w.heap.size, 1, none⟩ (.int .u64 0)).setCell ⟨w.heap.size, 2, none⟩ (.int .u64 0)).setCell ⟨w.heap.size, 3, none⟩ (.int .u64 0)).cell? ⟨w.heap.size, 2, none⟩ = some (.int .u64 0) := HS.cell 2
  have g3 : ((((W3.setCell ⟨w.heap.size, 0, none⟩ (.int .u64 0)).setCell ⟨w.heap.size, 1, none⟩ (.int .u64 0)).setCell ⟨w.heap.size, 2, none⟩ (.int .u64 0)).setCell ⟨w.heap.size, 3, none⟩ (.int .u64 0)).cell? ⟨w.heap.size, 3, none⟩ = some (.int .u64 0) := HS.cell 3
  refine bodyPost_ret (v := .tuple #[.agg #[.int .u64 0, .int .u64 0, .int .u64 0, .int .u64 0], .bool false]) (by simp [results, Tryz.results29, go_sem, g0, g1, g2, g3]) rfl ⟨rfl, b⟩

set_option maxRecDepth 100000 in
set_option maxHeartbeats 8000000 in
theorem tof_far (n p nb t0 t1 t2 t3 : Nat) (u : Int) (w : World) (_hn : n < 4294967296) (_hp : p < 8388608) (_hnb : nb ≤ 256) (_hu0 : -24 ≤ u) (_hu1 : u ≤ 2016) (hs : 8 * ((n : Int) / 16777216 - 3) = u) (hb : bits BinOp.and IntKind.u32 (n : Int) 8388607 = (p : Int))
    (dn : DownZ p 0 0 0 (-u) t0 t1 t2 t3) (ez : EqZ t0 t1 t2 t3 false) (hsg : (bits BinOp.and IntKind.u32 (n : Int) 8388608 != 0) = false) (bt : BitsIs t0 t1 t2 t3 nb) (hfar : decide ((256 : Int) < (nb : Int) + max u 0) = true) :
    Calls Tryz.prog 29 #[.int .u32 (n : Nat)] w fun e w' => e = .returned (.tuple #[.agg #[.int .u64 0, .int .u64 0, .int .u64 0, .int .u64 0], .bool false]) ∧ Below w.heap.size w w' := by
  have DN := Lib.hid dn
  have BT := Lib.hid bt
  have HFAR := Lib.hid hfar
  clear dn bt hfar
  unfold EqZ at ez
  go_enter Tryz.func29, Tryz.ntmps29
  go_wp2_with fail
  refine (ofIs p _).mono ?_
  rintro e w1 ⟨rfl, h1⟩
  have PB : Below w.heap.size w w1 := ((Below.refl _ _).alloc (Nat.le_refl _) _).trans (h1.mono (by simp))
  have HR := (Holds.new w #[.int .u64 0, .int .u64 0, .int .u64 0, .int .u64 0] 51).later h1
  clear h1
  have HPB := Lib.hid PB
  clear PB
  go_wp2_with fail
  have PB := HPB.out
  clear HPB
  refine (DN.out.word _).mono ?_
  rintro e w1 ⟨rfl, hc⟩
  replace HR := HR.later hc
  have PC := below_step PB hc
  clear PB hc
  have PB := PC
  clear PC
  have HPB := Lib.hid PB
  clear PB
  go_wp2_with fail
  have PB := HPB.out
  clear HPB
  replace HR := HR.later ((Below.refl _ _).alloc (Nat.le_refl _) (.cells #[.int .u64 (t0 : Nat), .int .u64 (t1 : Nat), .int .u64 (t2 : Nat), .int .u64 (t3 : Nat)] 51))
  have xt := Box.new (w1) (t0 : Nat) (t1 : Nat) (t2 : Nat) (t3 : Nat) 51
  have PC := below_alloc PB (.cells #[.int .u64 (t0 : Nat), .int .u64 (t1 : Nat), .int .u64 (t2 : Nat), .int .u64 (t3 : Nat)] 51)
  clear PB
  have PB := PC
  clear PC
  generalize (w1).alloc (.cells #[.int .u64 (t0 : Nat), .int .u64 (t1 : Nat), .int .u64 (t2 : Nat), .int .u64 (t3 : Nat)] 51) = W2 at *
  generalize w1.heap.size = Bt at *
  have ct := xt
  obtain ⟨ct0, ct1, ct2, ct3⟩ := ct
  have lt := World.block_lt_of_cell? _ _ ct0
  simp only [] at lt
  have ut0 : ∀ u : After W2, u.w.cell? ⟨Bt, 0, none⟩ = some (.int .u64 (t0 : Nat)) := fun u => u.cell ct0
  have ut1 : ∀ u : After W2, u.w.cell? ⟨Bt, 1, none⟩ = some (.int .u64 (t1 : Nat)) := fun u => u.cell ct1
  have ut2 : ∀ u : After W2, u.w.cell? ⟨Bt, 2, none⟩ = some (.int .u64 (t2 : Nat)) := fun u => u.cell ct2
  have ut3 : ∀ u : After W2, u.w.cell? ⟨Bt, 3, none⟩ = some (.int .u64 (t3 : Nat)) := fun u => u.cell ct3
  have hfar := HFAR.out
  have HPB := Lib.hid PB
  clear PB
  refine wp_region_after (by kernel_rfl) (by kernel_rfl) ?_
  repeat (go_big_quiet_step ((first | (go_at_call 57; exact after_call (of_int 0 _)) | (go_at_call 58; exact after_call (BT.out _)))))
  refine wpQuiet_nil ?_
  rintro _ ⟨u, rfl⟩
  clear ct0 ct1 ct2 ct3 lt
  clear ut0 ut1 ut2 ut3
  clear hfar
  replace xt := xt.later u.below
  replace HR := HR.later u.below
  have PB := below_step HPB.out u.below
  clear HPB
  generalize u.w = W3 at *
  clear u
  have m0 : W3.cell? ⟨w.heap.size, 0, none⟩ = some (.int .u64 0) := HR.cell 0
  have z0 : W3.frozen? ⟨w.heap.size, 0, none⟩ = false := HR.free 0
  have m1 : W3.cell? ⟨w.heap.size, 1, none⟩ = some (.int .u64 0) := HR.cell 1
  have z1 : W3.frozen? ⟨w.heap.size, 1, none⟩ = false := HR.free 1
  have m2 : W3.cell? ⟨w.heap.size, 2, none⟩ = some (.int .u64 0) := HR.cell 2
  have z2 : W3.frozen? ⟨w.heap.size, 2, none⟩ = false := HR.free 2
  have m3 : W3.cell? ⟨w.heap.size, 3, none⟩ = some (.int .u64 0) := HR.cell 3
  have z3 : W3.frozen? ⟨w.heap.size, 3, none⟩ = false := HR.free 3
  have HPB := Lib.hid PB
  clear PB
  go_wp2_with fail
  have b := ((((HPB.out.setCell (p := ⟨w.heap.size, 0, none⟩) (Nat.le_refl _) (.int .u64 0)).setCell (p := ⟨w.heap.size, 1, none⟩) (Nat.le_refl _) (.int .u64 0)).setCell (p := ⟨w.heap.size, 2, none⟩) (Nat.le_refl _) (.int .u64 0)).setCell (p := ⟨w.heap.size, 3, none⟩) (Nat.le_refl _) (.int .u64 0))
  have HS : Holds ((((W3.setCell ⟨w.heap.size, 0, none⟩ (.int .u64 0)).setCell ⟨w.heap.size, 1, none⟩ (.int .u64 0)).setCell ⟨w.heap.size, 2, none⟩ (.int .u64 0)).setCell ⟨w.heap.size, 3, none⟩ (.int .u64 0)) (w.heap.size) #[.int .u64 0, .int .u64 0, .int .u64 0, .int .u64 0] 51 := (((HR.set _).set _).set _).set _
  have g0 : ((((W3.setCell ⟨w.heap.size, 0, none⟩ (.int .u64 0)).setCell ⟨w.heap.size, 1, none⟩ (.int .u64 0)).setCell ⟨w.heap.size, 2, none⟩ (.int .u64 0)).setCell ⟨w.heap.size, 3, none⟩ (.int .u64 0)).cell? ⟨w.heap.size, 0, none⟩ = some (.int .u64 0) := HS.cell 0
  have g1 : ((((W3.setCell ⟨w.heap.size, 0, none⟩ (.int .u64 0)).setCell ⟨w.heap.size, 1, none⟩ (.int .u64 0)).setCell ⟨w.heap.size, 2, none⟩ (.int .u64 0)).setCell ⟨w.heap.size, 3, none⟩ (.int .u64 0)).cell? ⟨w.heap.size, 1, none⟩ = some (.int .u64 0) := HS.cell 1
  have g2 : ((((W3.setCell ⟨w.heap.size, 0, none⟩ (.int .u64 0)).setCell ⟨w.heap.size, 1, none⟩ (.int .u64 0)).setCell ⟨w.heap.size, 2, none⟩ (.int .u64 0)).setCell ⟨w.heap.size, 3, none⟩ (.int .u64 0)).cell? ⟨w.heap.size, 2, none⟩ = some (.int .u64 0) := HS.cell 2
  have g3 : ((((W3.setCell ⟨w.heap.size, 0, none⟩ (.int .u64 0)).setCell ⟨w.heap.size, 1, none⟩ (.int .u64 0)).setCell ⟨w.heap.size, 2, none⟩ (.int .u64 0)).setCell ⟨w.heap.size, 3, none⟩ (.int .u64 0)).cell? ⟨w.heap.size, 3, none⟩ = some (.int .u64 0) := HS.cell 3
  refine bodyPost_ret (v := .tuple #[.agg #[.int .u64 0, .int .u64 0, .int .u64 0, .int .u64 0], .bool false]) (by simp [results, Tryz.results29, go_sem, g0, g1, g2, g3]) rfl ⟨rfl, b⟩

set_option maxRecDepth 100000 in
set_option maxHeartbeats 8000000 in
theorem tof_ok (n p nb s0 s1 s2 s3 t0 t1 t2 t3 : Nat) (u : Int) (w : World) (_hn : n < 4294967296) (_hp : p < 8388608) (_hnb : nb ≤ 256) (_hu0 : -24 ≤ u) (_hu1 : u ≤ 2016) (hs : 8 * ((n : Int) / 16777216 - 3) = u) (hb : bits BinOp.and IntKind.u32 (n : Int) 8388607 = (p : Int))
    (dn : DownZ p 0 0 0 (-u) t0 t1 t2 t3) (ez : EqZ t0 t1 t2 t3 false) (hsg : (bits BinOp.and IntKind.u32 (n : Int) 8388608 != 0) = false) (bt : BitsIs t0 t1 t2 t3 nb) (hfar : decide ((256 : Int) < (nb : Int) + max u 0) = false) (up : UpZ t0 t1 t2 t3 u s0 s1 s2 s3) :
    Calls Tryz.prog 29 #[.int .u32 (n : Nat)] w fun e w' => e = .returned (.tuple #[.agg #[.int .u64 (s0 : Nat), .int .u64 (s1 : Nat), .int .u64 (s2 : Nat), .int .u64 (s3 : Nat)], .bool true]) ∧ Below w.heap.size w w' := by
  have DN := Lib.hid dn
  have BT := Lib.hid bt
  have UP := Lib.hid up
  have HFAR := Lib.hid hfar
  clear dn bt up hfar
  unfold EqZ at ez
  go_enter Tryz.func29, Tryz.ntmps29
  go_wp2_with fail
  refine (ofIs p _).mono ?_
  rintro e w1 ⟨rfl, h1⟩
  have PB : Below w.heap.size w w1 := ((Below.refl _ _).alloc (Nat.le_refl _) _).trans (h1.mono (by simp))
  have HR := (Holds.new w #[.int .u64 0, .int .u64 0, .int .u64 0, .int .u64 0] 51).later h1
  clear h1
  have HPB := Lib.hid PB
  clear PB
  go_wp2_with fail
  have PB := HPB.out
  clear HPB
  refine (DN.out.word _).mono ?_
  rintro e w1 ⟨rfl, hc⟩
  replace HR := HR.later hc
  have PC := below_step PB hc
  clear PB hc
  have PB := PC
  clear PC
  have HPB := Lib.hid PB
  clear PB
  go_wp2_with fail
  have PB := HPB.out
  clear HPB
  replace HR := HR.later ((Below.refl _ _).alloc (Nat.le_refl _) (.cells #[.int .u64 (t0 : Nat), .int .u64 (t1 : Nat), .int .u64 (t2 : Nat), .int .u64 (t3 : Nat)] 51))
  have xt := Box.new (w1) (t0 : Nat) (t1 : Nat) (t2 : Nat) (t3 : Nat) 51
  have PC := below_alloc PB (.cells #[.int .u64 (t0 : Nat), .int .u64 (t1 : Nat), .int .u64 (t2 : Nat), .int .u64 (t3 : Nat)] 51)
  clear PB
  have PB := PC
  clear PC
  generalize (w1).alloc (.cells #[.int .u64 (t0 : Nat), .int .u64 (t1 : Nat), .int .u64 (t2 : Nat), .int .u64 (t3 : Nat)] 51) = W2 at *
  generalize w1.heap.size = Bt at *
  have ct := xt
  obtain ⟨ct0, ct1, ct2, ct3⟩ := ct
  have lt := World.block_lt_of_cell? _ _ ct0
  simp only [] at lt
  have ut0 : ∀ u : After W2, u.w.cell? ⟨Bt, 0, none⟩ = some (.int .u64 (t0 : Nat)) := fun u => u.cell ct0
  have ut1 : ∀ u : After W2, u.w.cell? ⟨Bt, 1, none⟩ = some (.int .u64 (t1 : Nat)) := fun u => u.cell ct1
  have ut2 : ∀ u : After W2, u.w.cell? ⟨Bt, 2, none⟩ = some (.int .u64 (t2 : Nat)) := fun u => u.cell ct2
  have ut3 : ∀ u : After W2, u.w.cell? ⟨Bt, 3, none⟩ = some (.int .u64 (t3 : Nat)) := fun u => u.cell ct3
  have hfar := HFAR.out
  have HPB := Lib.hid PB
  clear PB
  refine wp_region_after (by kernel_rfl) (by kernel_rfl) ?_
  repeat (go_big_quiet_step ((first | (go_at_call 57; exact after_call (of_int 0 _)) | (go_at_call 58; exact after_call (BT.out _)))))
  refine wpQuiet_nil ?_
  rintro _ ⟨u, rfl⟩
  clear ct0 ct1 ct2 ct3 lt
  clear ut0 ut1 ut2 ut3
  clear hfar
  replace xt := xt.later u.below
  replace HR := HR.later u.below
  have PB := below_step HPB.out u.below
  clear HPB
  generalize u.w = W3 at *
  clear u
  have ct := xt
  obtain ⟨ct0, ct1, ct2, ct3⟩ := ct
  have lt := World.block_lt_of_cell? _ _ ct0
  simp only [] at lt
  have HPB := Lib.hid PB
  clear PB
  go_wp2_with fail
  have PB := HPB.out
  clear HPB
  clear ct0 ct1 ct2 ct3 lt
  refine (UP.out _).mono ?_
  rintro e w4 ⟨rfl, hc⟩
  replace xt := xt.later hc
  replace HR := HR.later hc
  have PC := below_step PB hc
  clear PB hc
  have PB := PC
  clear PC
  have m0 : w4.cell? ⟨w.heap.size, 0, none⟩ = some (.int .u64 0) := HR.cell 0
  have z0 : w4.frozen? ⟨w.heap.size, 0, none⟩ = false := HR.free 0
  have m1 : w4.cell? ⟨w.heap.size, 1, none⟩ = some (.int .u64 0) := HR.cell 1
  have z1 : w4.frozen? ⟨w.heap.size, 1, none⟩ = false := HR.free 1
  have m2 : w4.cell? ⟨w.heap.size, 2, none⟩ = some (.int .u64 0) := HR.cell 2
  have z2 : w4.frozen? ⟨w.heap.size, 2, none⟩ = false := HR.free 2
  have m3 : w4.cell? ⟨w.heap.size, 3, none⟩ = some (.int .u64 0) := HR.cell 3
  have z3 : w4.frozen? ⟨w.heap.size, 3, none⟩ = false := HR.free 3
  have HPB := Lib.hid PB
  clear PB
  go_wp2_with fail
  have b := ((((HPB.out.setCell (p := ⟨w.heap.size, 0, none⟩) (Nat.le_refl _) (.int .u64 (s0 : Nat))).setCell (p := ⟨w.heap.size, 1, none⟩) (Nat.le_refl _) (.int .u64 (s1 : Nat))).setCell (p := ⟨w.heap.size, 2, none⟩) (Nat.le_refl _) (.int .u64 (s2 : Nat))).setCell (p := ⟨w.heap.size, 3, none⟩) (Nat.le_refl _) (.int .u64 (s3 : Nat)))
  have HS : Holds ((((w4.setCell ⟨w.heap.size, 0, none⟩ (.int .u64 (s0 : Nat))).setCell ⟨w.heap.size, 1, none⟩ (.int .u64 (s1 : Nat))).setCell ⟨w.heap.size, 2, none⟩ (.int .u64 (s2 : Nat))).setCell ⟨w.heap.size, 3, none⟩ (.int .u64 (s3 : Nat))) (w.heap.size) #[.int .u64 (s0 : Nat), .int .u64 (s1 : Nat), .int .u64 (s2 : Nat), .int .u64 (s3 : Nat)] 51 := (((HR.set _).set _).set _).set _
  have g0 : ((((w4.setCell ⟨w.heap.size, 0, none⟩ (.int .u64 (s0 : Nat))).setCell ⟨w.heap.size, 1, none⟩ (.int .u64 (s1 : Nat))).setCell ⟨w.heap.size, 2, none⟩ (.int .u64 (s2 : Nat))).setCell ⟨w.heap.size, 3, none⟩ (.int .u64 (s3 : Nat))).cell? ⟨w.heap.size, 0, none⟩ = some (.int .u64 (s0 : Nat)) := HS.cell 0
  have g1 : ((((w4.setCell ⟨w.heap.size, 0, none⟩ (.int .u64 (s0 : Nat))).setCell ⟨w.heap.size, 1, none⟩ (.int .u64 (s1 : Nat))).setCell ⟨w.heap.size, 2, none⟩ (.int .u64 (s2 : Nat))).setCell ⟨w.heap.size, 3, none⟩ (.int .u64 (s3 : Nat))).cell? ⟨w.heap.size, 1, none⟩ = some (.int .u64 (s1 : Nat)) := HS.cell 1
  have g2 : ((((w4.setCell ⟨w.heap.size, 0, none⟩ (.int .u64 (s0 : Nat))).setCell ⟨w.heap.size, 1, none⟩ (.int .u64 (s1 : Nat))).setCell ⟨w.heap.size, 2, none⟩ (.int .u64 (s2 : Nat))).setCell ⟨w.heap.size, 3, none⟩ (.int .u64 (s3 : Nat))).cell? ⟨w.heap.size, 2, none⟩ = some (.int .u64 (s2 : Nat)) := HS.cell 2
  have g3 : ((((w4.setCell ⟨w.heap.size, 0, none⟩ (.int .u64 (s0 : Nat))).setCell ⟨w.heap.size, 1, none⟩ (.int .u64 (s1 : Nat))).setCell ⟨w.heap.size, 2, none⟩ (.int .u64 (s2 : Nat))).setCell ⟨w.heap.size, 3, none⟩ (.int .u64 (s3 : Nat))).cell? ⟨w.heap.size, 3, none⟩ = some (.int .u64 (s3 : Nat)) := HS.cell 3
  refine bodyPost_ret (v := .tuple #[.agg #[.int .u64 (s0 : Nat), .int .u64 (s1 : Nat), .int .u64 (s2 : Nat), .int .u64 (s3 : Nat)], .bool true]) (by simp [results, Tryz.results29, go_sem, g0, g1, g2, g3]) rfl ⟨rfl, b⟩

end Go.Proofs.YtimjmmiajgfblaaGreatDoor.Bg
