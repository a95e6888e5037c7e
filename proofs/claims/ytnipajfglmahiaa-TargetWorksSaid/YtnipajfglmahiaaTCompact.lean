/- Compact of the package target, walked: a target's bits, given what each call returns. -/
import Derived.Test.YtnipajfglmahiaaTOfAny
namespace Go.Proofs.Ytnipajfglmahiaa
open Go.RowKit

set_option maxRecDepth 100000 in
set_option maxHeartbeats 8000000 in
theorem compact_true (a0 a1 a2 a3 q0 q1 q2 q3 r0 r1 r2 r3 nb sz c : Nat) (d : Int) (w : World) (_hnb : nb ≤ 256) (_hsz1 : sz ≤ 32) (_hd0 : -24 ≤ d) (_hd1 : d ≤ 232) (_hr : r0 < 16777216) (bt : BitsIs a0 a1 a2 a3 nb) (hsz : ((nb : Int) + 7) / 8 = (sz : Int)) (hd : 8 * ((sz : Int) - 3) = d)
    (dn : DownZ a0 a1 a2 a3 d q0 q1 q2 q3) (up : UpZ q0 q1 q2 q3 (-d) r0 r1 r2 r3) (hbig : decide ((8388607 : Int) < (r0 : Int)) = true) (hc : bits BinOp.or IntKind.u32 (((sz : Int) + 1) * 16777216) ((r0 : Int) / 256) = (c : Int)) :
    Calls Try.prog 10 #[.agg #[.int .u64 (a0 : Nat), .int .u64 (a1 : Nat), .int .u64 (a2 : Nat), .int .u64 (a3 : Nat)]] w fun e w' => e = .returned (.int .u32 (c : Nat)) ∧ Below w.heap.size w w' := by
  have BT := Lib.hid bt
  have DN := Lib.hid dn
  have UPH := Lib.hid up
  clear bt dn up
  have i0 : ∀ w, (Instr.index 25 (.agg #[.int .u64 (r0 : Nat), .int .u64 (r1 : Nat), .int .u64 (r2 : Nat), .int .u64 (r3 : Nat)]) (.int .i64 0)).run Try.prog w = .ok (.int .u64 (r0 : Nat)) w := fun _ => by kernel_rfl
  go_enter Try.func10, Try.ntmps10
  go_wp2_with fail
  refine (BT.out _).mono ?_
  rintro e w1 ⟨rfl, h1⟩
  have PB : Below w.heap.size w w1 := by
    refine Below.trans ?_ (h1.mono (by simp))
    go_grown
  have xa : Box w1 w.heap.size a0 a1 a2 a3 := ⟨cell_later h1 (by go_cell), cell_later h1 (by go_cell), cell_later h1 (by go_cell), cell_later h1 (by go_cell)⟩
  clear h1
  have ca := xa
  obtain ⟨ca0, ca1, ca2, ca3⟩ := ca
  have la := World.block_lt_of_cell? _ _ ca0
  simp only [] at la
  have HPB := Lib.hid PB
  clear PB
  go_wp2_with fail
  have PB := HPB.out
  clear HPB
  clear ca0 ca1 ca2 ca3 la
  refine (DN.out _).mono ?_
  rintro e w1 ⟨rfl, hc⟩
  replace xa := xa.later hc
  have PC := below_step PB hc
  clear PB hc
  have PB := PC
  clear PC
  have HPB := Lib.hid PB
  clear PB
  go_wp2_with fail
  have PB := HPB.out
  clear HPB
  refine (UPH.out _).mono ?_
  rintro e w2 ⟨rfl, hc⟩
  replace xa := xa.later hc
  have PC := below_step PB hc
  clear PB hc
  have PB := PC
  clear PC
  have HPB := Lib.hid PB
  clear PB
  go_wp2_with fail
  have PB := HPB.out
  clear HPB
  go_ret
  exact ⟨rfl, PB⟩

set_option maxRecDepth 100000 in
set_option maxHeartbeats 8000000 in
theorem compact_false (a0 a1 a2 a3 q0 q1 q2 q3 r0 r1 r2 r3 nb sz c : Nat) (d : Int) (w : World) (_hnb : nb ≤ 256) (_hsz1 : sz ≤ 32) (_hd0 : -24 ≤ d) (_hd1 : d ≤ 232) (_hr : r0 < 16777216) (bt : BitsIs a0 a1 a2 a3 nb) (hsz : ((nb : Int) + 7) / 8 = (sz : Int)) (hd : 8 * ((sz : Int) - 3) = d)
    (dn : DownZ a0 a1 a2 a3 d q0 q1 q2 q3) (up : UpZ q0 q1 q2 q3 (-d) r0 r1 r2 r3) (hbig : decide ((8388607 : Int) < (r0 : Int)) = false) (hc : bits BinOp.or IntKind.u32 ((sz : Int) * 16777216) (r0 : Int) = (c : Int)) :
    Calls Try.prog 10 #[.agg #[.int .u64 (a0 : Nat), .int .u64 (a1 : Nat), .int .u64 (a2 : Nat), .int .u64 (a3 : Nat)]] w fun e w' => e = .returned (.int .u32 (c : Nat)) ∧ Below w.heap.size w w' := by
  have BT := Lib.hid bt
  have DN := Lib.hid dn
  have UPH := Lib.hid up
  clear bt dn up
  have i0 : ∀ w, (Instr.index 25 (.agg #[.int .u64 (r0 : Nat), .int .u64 (r1 : Nat), .int .u64 (r2 : Nat), .int .u64 (r3 : Nat)]) (.int .i64 0)).run Try.prog w = .ok (.int .u64 (r0 : Nat)) w := fun _ => by kernel_rfl
  go_enter Try.func10, Try.ntmps10
  go_wp2_with fail
  refine (BT.out _).mono ?_
  rintro e w1 ⟨rfl, h1⟩
  have PB : Below w.heap.size w w1 := by
    refine Below.trans ?_ (h1.mono (by simp))
    go_grown
  have xa : Box w1 w.heap.size a0 a1 a2 a3 := ⟨cell_later h1 (by go_cell), cell_later h1 (by go_cell), cell_later h1 (by go_cell), cell_later h1 (by go_cell)⟩
  clear h1
  have ca := xa
  obtain ⟨ca0, ca1, ca2, ca3⟩ := ca
  have la := World.block_lt_of_cell? _ _ ca0
  simp only [] at la
  have HPB := Lib.hid PB
  clear PB
  go_wp2_with fail
  have PB := HPB.out
  clear HPB
  clear ca0 ca1 ca2 ca3 la
  refine (DN.out _).mono ?_
  rintro e w1 ⟨rfl, hc⟩
  replace xa := xa.later hc
  have PC := below_step PB hc
  clear PB hc
  have PB := PC
  clear PC
  have HPB := Lib.hid PB
  clear PB
  go_wp2_with fail
  have PB := HPB.out
  clear HPB
  refine (UPH.out _).mono ?_
  rintro e w2 ⟨rfl, hc⟩
  replace xa := xa.later hc
  have PC := below_step PB hc
  clear PB hc
  have PB := PC
  clear PC
  have HPB := Lib.hid PB
  clear PB
  go_wp2_with fail
  have PB := HPB.out
  clear HPB
  go_ret
  exact ⟨rfl, PB⟩


/-- The highest three bytes of a number, moved to their place; and a target's bits. -/
def partOf (v sz : Nat) : Nat := if sz < 3 then v * 2 ^ (8 * (3 - sz)) else v / 2 ^ (8 * (sz - 3))
def compOf (v nb : Nat) : Nat := if 8388608 ≤ partOf v ((nb + 7) / 8) then ((nb + 7) / 8 + 1) * 16777216 + partOf v ((nb + 7) / 8) / 256 else (nb + 7) / 8 * 16777216 + partOf v ((nb + 7) / 8)
def CompIs (x0 x1 x2 x3 c : Nat) : Prop := ∀ w : World, Calls Try.prog 10 #[.agg #[.int .u64 (x0 : Nat), .int .u64 (x1 : Nat), .int .u64 (x2 : Nat), .int .u64 (x3 : Nat)]] w fun e w' => e = .returned (.int .u32 (c : Nat)) ∧ Below w.heap.size w w'

theorem BitsOf.lt {x n : Nat} (h : BitsOf x n) : x < 2 ^ n := by
  by_cases h0 : x = 0
  · rw [h0]; exact Nat.two_pow_pos n
  · exact (h.2 h0).2.2
theorem partOf_lt {v nb : Nat} (h : BitsOf v nb) : partOf v ((nb + 7) / 8) < 16777216 := by
  have h1 : v < 2 ^ (8 * ((nb + 7) / 8)) := Nat.lt_of_lt_of_le h.lt (Nat.pow_le_pow_right (by omega) (by omega))
  have e24 : (16777216 : Nat) = 2 ^ 24 := by decide
  unfold partOf
  split
  · rename_i hs
    have h2 : v * 2 ^ (8 * (3 - (nb + 7) / 8)) < 2 ^ (8 * ((nb + 7) / 8)) * 2 ^ (8 * (3 - (nb + 7) / 8)) := Nat.mul_lt_mul_of_pos_right h1 (Nat.two_pow_pos _)
    rw [← Nat.pow_add, show 8 * ((nb + 7) / 8) + 8 * (3 - (nb + 7) / 8) = 24 by omega] at h2
    omega
  · rename_i hs
    rw [Nat.div_lt_iff_lt_mul (Nat.two_pow_pos _), e24, ← Nat.pow_add, show 24 + 8 * ((nb + 7) / 8 - 3) = 8 * ((nb + 7) / 8) by omega]
    exact h1
theorem or_part (s p : Nat) (hs : s ≤ 33) (hp : p < 16777216) : bits BinOp.or IntKind.u32 ((s : Int) * 16777216) (p : Int) = ((s * 16777216 + p : Nat) : Int) := by
  have h := bits_or32 (16777216 * s) p (by omega) (by omega)
  have e := Nat.two_pow_add_eq_or_of_lt (i := 24) (b := p) (by rw [show (2 : Nat) ^ 24 = 16777216 by decide]; exact hp) s
  rw [show (2 : Nat) ^ 24 = 16777216 by decide] at e
  rw [← e] at h
  rw [show ((s : Int) * 16777216) = ((16777216 * s : Nat) : Int) by omega, h]
  omega

theorem compIs {a0 a1 a2 a3 nb c : Nat} (ha : Words a0 a1 a2 a3) (hn : BitsOf (val a0 a1 a2 a3) nb) (hc : c = compOf (val a0 a1 a2 a3) nb) : CompIs a0 a1 a2 a3 c := by
  intro w
  have e256 : (2 : Nat) ^ 256 = 115792089237316195423570985008687907853269984665640564039457584007913129639936 := by decide
  have n256 := hn.le (m := 256) (by rw [e256]; exact val_lt ha)
  have pl := partOf_lt hn
  have bt : BitsIs a0 a1 a2 a3 nb := by
    have := bitsIs ha
    rw [(bits4_of ha).uniq hn] at this
    exact this
  obtain ⟨sz, hsz⟩ : ∃ sz, sz = (nb + 7) / 8 := ⟨_, rfl⟩
  obtain ⟨d, hd⟩ : ∃ d : Int, d = 8 * ((sz : Int) - 3) := ⟨_, rfl⟩
  unfold compOf at hc
  rw [← hsz] at hc pl
  obtain ⟨q0, q1, q2, q3, wq, eq⟩ := words_of (x := val a0 a1 a2 a3 / 2 ^ d.toNat) (Nat.lt_of_le_of_lt (Nat.div_le_self _ _) (val_lt ha))
  obtain ⟨r0, r1, r2, r3, wr, er⟩ := words_of (x := partOf (val a0 a1 a2 a3) sz) (by omega)
  have hr0 : r0 = partOf (val a0 a1 a2 a3) sz := by
    rw [← er] at pl ⊢
    obtain ⟨_, _, _, _⟩ := wr
    unfold val at pl ⊢
    omega
  have dn := downZ ha d wq eq
  have up : UpZ q0 q1 q2 q3 (-d) r0 r1 r2 r3 := upZ wq (-d) wr (by
    rw [er, eq]
    unfold partOf at *
    split
    · rename_i hs
      rw [if_pos hs] at pl
      rw [show d.toNat = 0 by omega, show (-d).toNat = 8 * (3 - sz) by omega, Nat.pow_zero, Nat.div_one, Nat.mod_eq_of_lt (by omega)]
    · rename_i hs
      rw [if_neg hs] at pl
      rw [show d.toNat = 8 * (sz - 3) by omega, show (-d).toNat = 0 by omega, Nat.pow_zero, Nat.mul_one, Nat.mod_eq_of_lt (by omega)])
  rw [← hr0] at hc pl
  by_cases big : 8388608 ≤ r0
  · rw [if_pos big] at hc
    refine compact_true a0 a1 a2 a3 q0 q1 q2 q3 r0 r1 r2 r3 nb sz c d w n256 (by omega) (by omega) (by omega) pl bt (by omega) hd.symm dn up (decide_eq_true (by omega)) ?_
    have := or_part (sz + 1) (r0 / 256) (by omega) (by omega)
    rw [show ((sz : Int) + 1) * 16777216 = ((sz + 1 : Nat) : Int) * 16777216 by omega, show (r0 : Int) / 256 = ((r0 / 256 : Nat) : Int) by omega, this, hc]
  · rw [if_neg big] at hc
    refine compact_false a0 a1 a2 a3 q0 q1 q2 q3 r0 r1 r2 r3 nb sz c d w n256 (by omega) (by omega) (by omega) pl bt (by omega) hd.symm dn up (decide_eq_false (by omega)) ?_
    rw [or_part sz r0 (by omega) pl, hc]

end Go.Proofs.Ytnipajfglmahiaa
