/- What any compact bits mean, as Of of the package target tells: the part, moved up or down; and whether they may be. No condition. -/
import Derived.Test.YtimjmmiajgfblaaGreatDoorGau

namespace Go.Proofs.YtimjmmiajgfblaaGreatDoor.Bg
set_option maxRecDepth 100000
open Go.RowKit

theorem bits_and32 (a b : Nat) (ha : a < 4294967296) (hb : b < 4294967296) : bits .and .u32 (a : Int) (b : Int) = ((a &&& b : Nat) : Int) := by
  have hx : a &&& b < 2 ^ 32 := Nat.and_lt_two_pow _ (by omega)
  have h1 : (BitVec.ofInt 32 (a : Int)).toNat = a := by rw [BitVec.ofInt_natCast, BitVec.toNat_ofNat]; exact Nat.mod_eq_of_lt (by omega)
  have h2 : (BitVec.ofInt 32 (b : Int)).toNat = b := by rw [BitVec.ofInt_natCast, BitVec.toNat_ofNat]; exact Nat.mod_eq_of_lt (by omega)
  show IntKind.u32.wrap ((BitVec.ofInt 32 (a : Int) &&& BitVec.ofInt 32 (b : Int)).toNat : Int) = _
  rw [BitVec.toNat_and, h1, h2]
  exact IntWalk.u32_in _ ⟨by omega, by omega⟩
theorem bits_or32 (a b : Nat) (ha : a < 4294967296) (hb : b < 4294967296) : bits .or .u32 (a : Int) (b : Int) = ((a ||| b : Nat) : Int) := by
  have hx : a ||| b < 2 ^ 32 := Nat.or_lt_two_pow (by omega) (by omega)
  have h1 : (BitVec.ofInt 32 (a : Int)).toNat = a := by rw [BitVec.ofInt_natCast, BitVec.toNat_ofNat]; exact Nat.mod_eq_of_lt (by omega)
  have h2 : (BitVec.ofInt 32 (b : Int)).toNat = b := by rw [BitVec.ofInt_natCast, BitVec.toNat_ofNat]; exact Nat.mod_eq_of_lt (by omega)
  show IntKind.u32.wrap ((BitVec.ofInt 32 (a : Int) ||| BitVec.ofInt 32 (b : Int)).toNat : Int) = _
  rw [BitVec.toNat_or, h1, h2]
  exact IntWalk.u32_in _ ⟨by omega, by omega⟩
theorem and_sign (n : Nat) : n &&& 8388608 = 0 ↔ n / 8388608 % 2 = 0 := by
  have e : (8388608 : Nat) = 2 ^ 23 := by decide
  have k : n.testBit 23 = decide (n / 8388608 % 2 = 1) := by rw [Nat.testBit_eq_decide_div_mod_eq, ← e]
  constructor
  · intro h
    have h1 : (n &&& 8388608).testBit 23 = false := by rw [h]; rfl
    rw [Nat.testBit_and, e, Nat.testBit_two_pow_self, Bool.and_true, k] at h1
    have := of_decide_eq_false h1
    omega
  · intro h
    refine Nat.eq_of_testBit_eq fun i => ?_
    rw [Nat.testBit_and, e, Nat.testBit_two_pow, Nat.zero_testBit]
    by_cases hi : 23 = i
    · subst hi
      rw [k, decide_eq_false (by omega)]; rfl
    · rw [decide_eq_false hi, Bool.and_false]

theorem eqZ {x0 x1 x2 x3 : Nat} (h : Words x0 x1 x2 x3) (r : Bool) (hr : r = decide (val x0 x1 x2 x3 = 0)) : EqZ x0 x1 x2 x3 r := eqz h (c := 0) (by omega) r hr
theorem zero_words {x0 x1 x2 x3 : Nat} (h : val x0 x1 x2 x3 = 0) : x0 = 0 ∧ x1 = 0 ∧ x2 = 0 ∧ x3 = 0 := by unfold val at h; omega
theorem pow_big (k : Nat) (h : 256 ≤ k) : 115792089237316195423570985008687907853269984665640564039457584007913129639936 ≤ 2 ^ k := by
  have e256 : (2 : Nat) ^ 256 = 115792089237316195423570985008687907853269984665640564039457584007913129639936 := by decide
  rw [← e256]; exact Nat.pow_le_pow_right (by omega) h

theorem downZ {a0 a1 a2 a3 s0 s1 s2 s3 : Nat} (ha : Words a0 a1 a2 a3) (n : Int) (hs : Words s0 s1 s2 s3) (h : val s0 s1 s2 s3 = val a0 a1 a2 a3 / 2 ^ n.toNat) : DownZ a0 a1 a2 a3 n s0 s1 s2 s3 := by
  by_cases h0 : n ≤ 0
  · rw [show n.toNat = 0 by omega, Nat.pow_zero, Nat.div_one] at h
    obtain ⟨rfl, rfl, rfl, rfl⟩ := val_inj hs ha h
    exact fun w => down_low _ _ _ _ n w h0
  · obtain ⟨k, rfl⟩ : ∃ k : Nat, n = (k : Int) := ⟨n.toNat, by omega⟩
    rw [Int.toNat_natCast] at h
    by_cases h1 : k < 256
    · exact downIs ha h1 hs h
    · rw [Nat.div_eq_of_lt (Nat.lt_of_lt_of_le (val_lt ha) (pow_big k (by omega)))] at h
      obtain ⟨rfl, rfl, rfl, rfl⟩ := zero_words h
      exact fun w => down_high _ _ _ _ _ w (by omega)
theorem upZ {a0 a1 a2 a3 s0 s1 s2 s3 : Nat} (ha : Words a0 a1 a2 a3) (n : Int) (hs : Words s0 s1 s2 s3) (h : val s0 s1 s2 s3 = val a0 a1 a2 a3 * 2 ^ n.toNat % 115792089237316195423570985008687907853269984665640564039457584007913129639936) : UpZ a0 a1 a2 a3 n s0 s1 s2 s3 := by
  by_cases h0 : n ≤ 0
  · rw [show n.toNat = 0 by omega, Nat.pow_zero, Nat.mul_one, Nat.mod_eq_of_lt (val_lt ha)] at h
    obtain ⟨rfl, rfl, rfl, rfl⟩ := val_inj hs ha h
    exact fun w => up_low _ _ _ _ n w h0
  · obtain ⟨k, rfl⟩ : ∃ k : Nat, n = (k : Int) := ⟨n.toNat, by omega⟩
    rw [Int.toNat_natCast] at h
    by_cases h1 : k < 256
    · exact upIs ha h1 hs h
    · have e256 : (2 : Nat) ^ 256 = 115792089237316195423570985008687907853269984665640564039457584007913129639936 := by decide
      rw [show k = k - 256 + 256 by omega, Nat.pow_add, e256, ← Nat.mul_assoc, Nat.mul_mod_left] at h
      obtain ⟨rfl, rfl, rfl, rfl⟩ := zero_words h
      exact fun w => up_high _ _ _ _ _ w (by omega)

/-- The part of compact bits, moved down where the size is below 3; how far it is moved up; and whether it may be. -/
def tvOf (n : Nat) : Nat := if n / 16777216 < 3 then n % 8388608 / 2 ^ (8 * (3 - n / 16777216)) else n % 8388608
def upOf (n : Nat) : Nat := 8 * (n / 16777216 - 3)
def okOf (n : Nat) : Prop := tvOf n ≠ 0 ∧ n / 8388608 % 2 = 0 ∧ tvOf n * 2 ^ upOf n < 115792089237316195423570985008687907853269984665640564039457584007913129639936
instance (n : Nat) : Decidable (okOf n) := by unfold okOf; infer_instance
def TOfIs (n s0 s1 s2 s3 : Nat) (o : Bool) : Prop := ∀ w : World, Calls Tryz.prog 29 #[.int .u32 (n : Nat)] w fun e w' => e = .returned (.tuple #[.agg #[.int .u64 (s0 : Nat), .int .u64 (s1 : Nat), .int .u64 (s2 : Nat), .int .u64 (s3 : Nat)], .bool o]) ∧ Below w.heap.size w w'

theorem BitsOf.le {x n m : Nat} (h : BitsOf x n) (hx : x < 2 ^ m) : n ≤ m := by
  by_cases h0 : x = 0
  · rw [h.1 h0]; omega
  · obtain ⟨a, b, c⟩ := h.2 h0
    rcases Nat.lt_or_ge m n with hlt | hge
    · have : 2 ^ m ≤ 2 ^ (n - 1) := Nat.pow_le_pow_right (by omega) (by omega)
      omega
    · exact hge
theorem BitsOf.up_lt {x n u : Nat} (h : BitsOf x n) (h0 : x ≠ 0) : x * 2 ^ u < 115792089237316195423570985008687907853269984665640564039457584007913129639936 ↔ n + u ≤ 256 := by
  have e256 : (2 : Nat) ^ 256 = 115792089237316195423570985008687907853269984665640564039457584007913129639936 := by decide
  obtain ⟨a, b, c⟩ := h.2 h0
  have hp : 0 < 2 ^ u := Nat.two_pow_pos u
  rw [← e256]
  constructor
  · intro k
    have h1 : 2 ^ (n - 1) * 2 ^ u ≤ x * 2 ^ u := Nat.mul_le_mul_right _ b
    rw [← Nat.pow_add] at h1
    have h2 : 2 ^ (n - 1 + u) < 2 ^ 256 := Nat.lt_of_le_of_lt h1 k
    have := (Nat.pow_lt_pow_iff_right (a := 2) (by omega)).1 h2
    omega
  · intro k
    have h1 : x * 2 ^ u < 2 ^ n * 2 ^ u := Nat.mul_lt_mul_of_pos_right c hp
    rw [← Nat.pow_add] at h1
    exact Nat.lt_of_lt_of_le h1 (Nat.pow_le_pow_right (by omega) k)

theorem tofIs {n s0 s1 s2 s3 : Nat} (hn : n < 4294967296) (hs : Words s0 s1 s2 s3) (o : Bool) (ho : o = decide (okOf n)) (h : val s0 s1 s2 s3 = if okOf n then tvOf n * 2 ^ upOf n else 0) : TOfIs n s0 s1 s2 s3 o := by
  intro w
  have hp : n % 8388608 < 8388608 := Nat.mod_lt _ (by omega)
  have hb : bits BinOp.and IntKind.u32 (n : Int) 8388607 = ((n % 8388608 : Nat) : Int) := by
    have := bits_and32 n 8388607 hn (by omega)
    rw [show (8388607 : Nat) = 2 ^ 23 - 1 by decide, Nat.and_two_pow_sub_one_eq_mod] at this
    exact this
  have hsg : (bits BinOp.and IntKind.u32 (n : Int) 8388608 != 0) = decide (n / 8388608 % 2 ≠ 0) := by
    have := bits_and32 n 8388608 hn (by omega)
    have e : bits BinOp.and IntKind.u32 (n : Int) 8388608 = ((n &&& 8388608 : Nat) : Int) := this
    have k := and_sign n
    rw [e, Bool.eq_iff_iff, bne_iff_ne, decide_eq_true_iff]
    clear this e hb
    generalize n &&& 8388608 = q at *
    omega
  have hsz : n / 16777216 < 256 := by omega
  obtain ⟨u, hu⟩ : ∃ u : Int, u = 8 * ((n : Int) / 16777216 - 3) := ⟨_, rfl⟩
  have tl : tvOf n < 8388608 := by
    unfold tvOf
    split
    · exact Nat.lt_of_le_of_lt (Nat.div_le_self _ _) hp
    · exact hp
  obtain ⟨t0, t1, t2, t3, wt, et⟩ := words_of (x := tvOf n) (by omega)
  have wp : Words (n % 8388608) 0 0 0 := ⟨by omega, by omega, by omega, by omega⟩
  have vp : val (n % 8388608) 0 0 0 = n % 8388608 := by unfold val; omega
  have dn : DownZ (n % 8388608) 0 0 0 (-u) t0 t1 t2 t3 := downZ wp (-u) wt (by
    rw [et, vp]
    unfold tvOf
    split
    · rw [show (-u).toNat = 8 * (3 - n / 16777216) by omega]
    · rw [show (-u).toNat = 0 by omega, Nat.pow_zero, Nat.div_one])
  have nt := bits4_of wt
  have bt := bitsIs wt
  rw [et] at nt
  have n256 := nt.le (m := 23) (by rw [show (2 : Nat) ^ 23 = 8388608 by decide]; exact tl)
  generalize bits4 (Lib.bitLen t0) (Lib.bitLen t1) (Lib.bitLen t2) (Lib.bitLen t3) t0 t1 t2 t3 = nb at *
  have hu0 : -24 ≤ u := by omega
  have hu1 : u ≤ 2016 := by omega
  have upn : u.toNat = upOf n := by unfold upOf; omega
  have mx : max u 0 = (upOf n : Int) := by unfold upOf; omega
  by_cases z : tvOf n = 0
  · have no : ¬ okOf n := fun k => k.1 z
    rw [if_neg no] at h
    obtain ⟨rfl, rfl, rfl, rfl⟩ := zero_words h
    rw [ho, decide_eq_false no]
    exact tof_zero n _ nb t0 t1 t2 t3 u w hn hp (by omega) hu0 hu1 hu.symm hb dn (eqZ wt true (by symm; rw [decide_eq_true_iff, et]; exact z))
  · have ez := eqZ wt false (by symm; rw [decide_eq_false_iff_not, et]; exact z)
    by_cases g : n / 8388608 % 2 = 0
    · have hg : (bits BinOp.and IntKind.u32 (n : Int) 8388608 != 0) = false := by rw [hsg]; exact decide_eq_false (fun k => k g)
      have key := nt.up_lt (u := upOf n) z
      by_cases f : tvOf n * 2 ^ upOf n < 115792089237316195423570985008687907853269984665640564039457584007913129639936
      · have yes : okOf n := ⟨z, g, f⟩
        rw [if_pos yes] at h
        rw [ho, decide_eq_true yes]
        exact tof_ok n _ nb s0 s1 s2 s3 t0 t1 t2 t3 u w hn hp (by omega) hu0 hu1 hu.symm hb dn ez hg bt (by rw [mx]; exact decide_eq_false (by have := key.1 f; omega)) (upZ wt u hs (by rw [h, et, upn, Nat.mod_eq_of_lt f]))
      · have no : ¬ okOf n := fun k => f k.2.2
        rw [if_neg no] at h
        obtain ⟨rfl, rfl, rfl, rfl⟩ := zero_words h
        rw [ho, decide_eq_false no]
        exact tof_far n _ nb t0 t1 t2 t3 u w hn hp (by omega) hu0 hu1 hu.symm hb dn ez hg bt (by rw [mx]; exact decide_eq_true (by have := fun k => f (key.2 k); omega))
    · have no : ¬ okOf n := fun k => g k.2.1
      rw [if_neg no] at h
      obtain ⟨rfl, rfl, rfl, rfl⟩ := zero_words h
      rw [ho, decide_eq_false no]
      exact tof_sign n _ nb t0 t1 t2 t3 u w hn hp (by omega) hu0 hu1 hu.symm hb dn ez (by rw [hsg]; exact decide_eq_true g)

end Go.Proofs.YtimjmmiajgfblaaGreatDoor.Bg

/- Compact of the package target, walked: a target's bits, given what each call returns. -/
namespace Go.Proofs.YtimjmmiajgfblaaGreatDoor.Bg
set_option maxRecDepth 100000
open Go.RowKit

set_option maxRecDepth 100000 in
set_option maxHeartbeats 8000000 in
theorem compact_true (a0 a1 a2 a3 q0 q1 q2 q3 r0 r1 r2 r3 nb sz c : Nat) (d : Int) (w : World) (_hnb : nb ≤ 256) (_hsz1 : sz ≤ 32) (_hd0 : -24 ≤ d) (_hd1 : d ≤ 232) (_hr : r0 < 16777216) (bt : BitsIs a0 a1 a2 a3 nb) (hsz : ((nb : Int) + 7) / 8 = (sz : Int)) (hd : 8 * ((sz : Int) - 3) = d)
    (dn : DownZ a0 a1 a2 a3 d q0 q1 q2 q3) (up : UpZ q0 q1 q2 q3 (-d) r0 r1 r2 r3) (hbig : decide ((8388607 : Int) < (r0 : Int)) = true) (hc : bits BinOp.or IntKind.u32 (((sz : Int) + 1) * 16777216) ((r0 : Int) / 256) = (c : Int)) :
    Calls Tryz.prog 30 #[.agg #[.int .u64 (a0 : Nat), .int .u64 (a1 : Nat), .int .u64 (a2 : Nat), .int .u64 (a3 : Nat)]] w fun e w' => e = .returned (.int .u32 (c : Nat)) ∧ Below w.heap.size w w' := by
  have BT := Lib.hid bt
  have DN := Lib.hid dn
  have UPH := Lib.hid up
  clear bt dn up
  have i0 : ∀ w, (Instr.index 51 (.agg #[.int .u64 (r0 : Nat), .int .u64 (r1 : Nat), .int .u64 (r2 : Nat), .int .u64 (r3 : Nat)]) (.int .i64 0)).run Tryz.prog w = .ok (.int .u64 (r0 : Nat)) w := fun _ => by kernel_rfl
  go_enter Tryz.func30, Tryz.ntmps30
  go_wp2_with fail
  refine (BT.out _).mono ?_
  rintro e w1 ⟨rfl, h1⟩
  have PB : Below w.heap.size w w1 := by
    refine Below.trans ?_ (h1.mono (by simp))
    go_grown
  have xa : Box w1 w.heap.size a0 a1 a2 a3 := ⟨cell_later h1 (by go_cell), cell_later h1 (by go_cell), cell_later h1 (by go_cell), cell_later h1 (by go_cell)⟩
  clear h1
  have ca := xa
  obtain ⟨ca0, ca1, ca2, ca3⟩ := ca
  have la := World.block_lt_of_cell? _ _ ca0
  simp only [] at la
  have HPB := Lib.hid PB
  clear PB
  go_wp2_with fail
  have PB := HPB.out
  clear HPB
  clear ca0 ca1 ca2 ca3 la
  refine (DN.out _).mono ?_
  rintro e w1 ⟨rfl, hc⟩
  replace xa := xa.later hc
  have PC := below_step PB hc
  clear PB hc
  have PB := PC
  clear PC
  have HPB := Lib.hid PB
  clear PB
  go_wp2_with fail
  have PB := HPB.out
  clear HPB
  refine (UPH.out _).mono ?_
  rintro e w2 ⟨rfl, hc⟩
  replace xa := xa.later hc
  have PC := below_step PB hc
  clear PB hc
  have PB := PC
  clear PC
  have HPB := Lib.hid PB
  clear PB
  go_wp2_with fail
  have PB := HPB.out
  clear HPB
  go_ret
  exact ⟨rfl, PB⟩

set_option maxRecDepth 100000 in
set_option maxHeartbeats 8000000 in
theorem compact_false (a0 a1 a2 a3 q0 q1 q2 q3 r0 r1 r2 r3 nb sz c : Nat) (d : Int) (w : World) (_hnb : nb ≤ 256) (_hsz1 : sz ≤ 32) (_hd0 : -24 ≤ d) (_hd1 : d ≤ 232) (_hr : r0 < 16777216) (bt : BitsIs a0 a1 a2 a3 nb) (hsz : ((nb : Int) + 7) / 8 = (sz : Int)) (hd : 8 * ((sz : Int) - 3) = d)
    (dn : DownZ a0 a1 a2 a3 d q0 q1 q2 q3) (up : UpZ q0 q1 q2 q3 (-d) r0 r1 r2 r3) (hbig : decide ((8388607 : Int) < (r0 : Int)) = false) (hc : bits BinOp.or IntKind.u32 ((sz : Int) * 16777216) (r0 : Int) = (c : Int)) :
    Calls Tryz.prog 30 #[.agg #[.int .u64 (a0 : Nat), .int .u64 (a1 : Nat), .int .u64 (a2 : Nat), .int .u64 (a3 : Nat)]] w fun e w' => e = .returned (.int .u32 (c : Nat)) ∧ Below w.heap.size w w' := by
  have BT := Lib.hid bt
  have DN := Lib.hid dn
  have UPH := Lib.hid up
  clear bt dn up
  have i0 : ∀ w, (Instr.index 51 (.agg #[.int .u64 (r0 : Nat), .int .u64 (r1 : Nat), .int .u64 (r2 : Nat), .int .u64 (r3 : Nat)]) (.int .i64 0)).run Tryz.prog w = .ok (.int .u64 (r0 : Nat)) w := fun _ => by kernel_rfl
  go_enter Tryz.func30, Tryz.ntmps30
  go_wp2_with fail
  refine (BT.out _).mono ?_
  rintro e w1 ⟨rfl, h1⟩
  have PB : Below w.heap.size w w1 := by
    refine Below.trans ?_ (h1.mono (by simp))
    go_grown
  have xa : Box w1 w.heap.size a0 a1 a2 a3 := ⟨cell_later h1 (by go_cell), cell_later h1 (by go_cell), cell_later h1 (by go_cell), cell_later h1 (by go_cell)⟩
  clear h1
  have ca := xa
  obtain ⟨ca0, ca1, ca2, ca3⟩ := ca
  have la := World.block_lt_of_cell? _ _ ca0
  simp only [] at la
  have HPB := Lib.hid PB
  clear PB
  go_wp2_with fail
  have PB := HPB.out
  clear HPB
  clear ca0 ca1 ca2 ca3 la
  refine (DN.out _).mono ?_
  rintro e w1 ⟨rfl, hc⟩
  replace xa := xa.later hc
  have PC := below_step PB hc
  clear PB hc
  have PB := PC
  clear PC
  have HPB := Lib.hid PB
  clear PB
  go_wp2_with fail
  have PB := HPB.out
  clear HPB
  refine (UPH.out _).mono ?_
  rintro e w2 ⟨rfl, hc⟩
  replace xa := xa.later hc
  have PC := below_step PB hc
  clear PB hc
  have PB := PC
  clear PC
  have HPB := Lib.hid PB
  clear PB
  go_wp2_with fail
  have PB := HPB.out
  clear HPB
  go_ret
  exact ⟨rfl, PB⟩


/-- The highest three bytes of a number, moved to their place; and a target's bits. -/
def partOf (v sz : Nat) : Nat := if sz < 3 then v * 2 ^ (8 * (3 - sz)) else v / 2 ^ (8 * (sz - 3))
def compOf (v nb : Nat) : Nat := if 8388608 ≤ partOf v ((nb + 7) / 8) then ((nb + 7) / 8 + 1) * 16777216 + partOf v ((nb + 7) / 8) / 256 else (nb + 7) / 8 * 16777216 + partOf v ((nb + 7) / 8)
def CompIs (x0 x1 x2 x3 c : Nat) : Prop := ∀ w : World, Calls Tryz.prog 30 #[.agg #[.int .u64 (x0 : Nat), .int .u64 (x1 : Nat), .int .u64 (x2 : Nat), .int .u64 (x3 : Nat)]] w fun e w' => e = .returned (.int .u32 (c : Nat)) ∧ Below w.heap.size w w'

theorem BitsOf.lt {x n : Nat} (h : BitsOf x n) : x < 2 ^ n := by
  by_cases h0 : x = 0
  · rw [h0]; exact Nat.two_pow_pos n
  · exact (h.2 h0).2.2
theorem partOf_lt {v nb : Nat} (h : BitsOf v nb) : partOf v ((nb + 7) / 8) < 16777216 := by
  have h1 : v < 2 ^ (8 * ((nb + 7) / 8)) := Nat.lt_of_lt_of_le h.lt (Nat.pow_le_pow_right (by omega) (by omega))
  have e24 : (16777216 : Nat) = 2 ^ 24 := by decide
  unfold partOf
  split
  · rename_i hs
    have h2 : v * 2 ^ (8 * (3 - (nb + 7) / 8)) < 2 ^ (8 * ((nb + 7) / 8)) * 2 ^ (8 * (3 - (nb + 7) / 8)) := Nat.mul_lt_mul_of_pos_right h1 (Nat.two_pow_pos _)
    rw [← Nat.pow_add, show 8 * ((nb + 7) / 8) + 8 * (3 - (nb + 7) / 8) = 24 by omega] at h2
    omega
  · rename_i hs
    rw [Nat.div_lt_iff_lt_mul (Nat.two_pow_pos _), e24, ← Nat.pow_add, show 24 + 8 * ((nb + 7) / 8 - 3) = 8 * ((nb + 7) / 8) by omega]
    exact h1
theorem or_part (s p : Nat) (hs : s ≤ 33) (hp : p < 16777216) : bits BinOp.or IntKind.u32 ((s : Int) * 16777216) (p : Int) = ((s * 16777216 + p : Nat) : Int) := by
  have h := bits_or32 (16777216 * s) p (by omega) (by omega)
  have e := Nat.two_pow_add_eq_or_of_lt (i := 24) (b := p) (by rw [show (2 : Nat) ^ 24 = 16777216 by decide]; exact hp) s
  rw [show (2 : Nat) ^ 24 = 16777216 by decide] at e
  rw [← e] at h
  rw [show ((s : Int) * 16777216) = ((16777216 * s : Nat) : Int) by omega, h]
  omega

theorem compIs {a0 a1 a2 a3 nb c : Nat} (ha : Words a0 a1 a2 a3) (hn : BitsOf (val a0 a1 a2 a3) nb) (hc : c = compOf (val a0 a1 a2 a3) nb) : CompIs a0 a1 a2 a3 c := by
  intro w
  have e256 : (2 : Nat) ^ 256 = 115792089237316195423570985008687907853269984665640564039457584007913129639936 := by decide
  have n256 := hn.le (m := 256) (by rw [e256]; exact val_lt ha)
  have pl := partOf_lt hn
  have bt : BitsIs a0 a1 a2 a3 nb := by
    have := bitsIs ha
    rw [(bits4_of ha).uniq hn] at this
    exact this
  obtain ⟨sz, hsz⟩ : ∃ sz, sz = (nb + 7) / 8 := ⟨_, rfl⟩
  obtain ⟨d, hd⟩ : ∃ d : Int, d = 8 * ((sz : Int) - 3) := ⟨_, rfl⟩
  unfold compOf at hc
  rw [← hsz] at hc pl
  obtain ⟨q0, q1, q2, q3, wq, eq⟩ := words_of (x := val a0 a1 a2 a3 / 2 ^ d.toNat) (Nat.lt_of_le_of_lt (Nat.div_le_self _ _) (val_lt ha))
  obtain ⟨r0, r1, r2, r3, wr, er⟩ := words_of (x := partOf (val a0 a1 a2 a3) sz) (by omega)
  have hr0 : r0 = partOf (val a0 a1 a2 a3) sz := by
    rw [← er] at pl ⊢
    obtain ⟨_, _, _, _⟩ := wr
    unfold val at pl ⊢
    omega
  have dn := downZ ha d wq eq
  have up : UpZ q0 q1 q2 q3 (-d) r0 r1 r2 r3 := upZ wq (-d) wr (by
    rw [er, eq]
    unfold partOf at *
    split
    · rename_i hs
      rw [if_pos hs] at pl
      rw [show d.toNat = 0 by omega, show (-d).toNat = 8 * (3 - sz) by omega, Nat.pow_zero, Nat.div_one, Nat.mod_eq_of_lt (by omega)]
    · rename_i hs
      rw [if_neg hs] at pl
      rw [show d.toNat = 8 * (sz - 3) by omega, show (-d).toNat = 0 by omega, Nat.pow_zero, Nat.mul_one, Nat.mod_eq_of_lt (by omega)])
  rw [← hr0] at hc pl
  by_cases big : 8388608 ≤ r0
  · rw [if_pos big] at hc
    refine compact_true a0 a1 a2 a3 q0 q1 q2 q3 r0 r1 r2 r3 nb sz c d w n256 (by omega) (by omega) (by omega) pl bt (by omega) hd.symm dn up (decide_eq_true (by omega)) ?_
    have := or_part (sz + 1) (r0 / 256) (by omega) (by omega)
    rw [show ((sz : Int) + 1) * 16777216 = ((sz + 1 : Nat) : Int) * 16777216 by omega, show (r0 : Int) / 256 = ((r0 / 256 : Nat) : Int) by omega, this, hc]
  · rw [if_neg big] at hc
    refine compact_false a0 a1 a2 a3 q0 q1 q2 q3 r0 r1 r2 r3 nb sz c d w n256 (by omega) (by omega) (by omega) pl bt (by omega) hd.symm dn up (decide_eq_false (by omega)) ?_
    rw [or_part sz r0 (by omega) pl, hc]

end Go.Proofs.YtimjmmiajgfblaaGreatDoor.Bg
