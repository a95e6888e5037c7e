/- What the functions of the package big give, as statements on numbers: each at every input. No condition but that each word is below 2^64, that a shift is below 256, and that a divisor is not 0. -/
import Derived.Test.YtnipajfglmahiaaDivAny
namespace Go.Proofs.Ytnipajfglmahiaa
open Go.RowKit

def UpIs (x0 x1 x2 x3 n s0 s1 s2 s3 : Nat) : Prop := ∀ w : World, Calls Try.prog 26 #[.agg #[.int .u64 (x0 : Nat), .int .u64 (x1 : Nat), .int .u64 (x2 : Nat), .int .u64 (x3 : Nat)], .int .i64 (n : Nat)] w fun e w' => e = .returned (.agg #[.int .u64 (s0 : Nat), .int .u64 (s1 : Nat), .int .u64 (s2 : Nat), .int .u64 (s3 : Nat)]) ∧ Below w.heap.size w w'
def DownIs (x0 x1 x2 x3 n s0 s1 s2 s3 : Nat) : Prop := ∀ w : World, Calls Try.prog 27 #[.agg #[.int .u64 (x0 : Nat), .int .u64 (x1 : Nat), .int .u64 (x2 : Nat), .int .u64 (x3 : Nat)], .int .i64 (n : Nat)] w fun e w' => e = .returned (.agg #[.int .u64 (s0 : Nat), .int .u64 (s1 : Nat), .int .u64 (s2 : Nat), .int .u64 (s3 : Nat)]) ∧ Below w.heap.size w w'
def AddIs (x0 x1 x2 x3 y0 y1 y2 y3 s0 s1 s2 s3 : Nat) (o : Bool) : Prop := ∀ w : World, Calls Try.prog 23 #[.agg #[.int .u64 (x0 : Nat), .int .u64 (x1 : Nat), .int .u64 (x2 : Nat), .int .u64 (x3 : Nat)], .agg #[.int .u64 (y0 : Nat), .int .u64 (y1 : Nat), .int .u64 (y2 : Nat), .int .u64 (y3 : Nat)]] w fun e w' => e = .returned (.tuple #[.agg #[.int .u64 (s0 : Nat), .int .u64 (s1 : Nat), .int .u64 (s2 : Nat), .int .u64 (s3 : Nat)], .bool o]) ∧ Below w.heap.size w w'
def SubIs (x0 x1 x2 x3 y0 y1 y2 y3 s0 s1 s2 s3 : Nat) (o : Bool) : Prop := ∀ w : World, Calls Try.prog 21 #[.agg #[.int .u64 (x0 : Nat), .int .u64 (x1 : Nat), .int .u64 (x2 : Nat), .int .u64 (x3 : Nat)], .agg #[.int .u64 (y0 : Nat), .int .u64 (y1 : Nat), .int .u64 (y2 : Nat), .int .u64 (y3 : Nat)]] w fun e w' => e = .returned (.tuple #[.agg #[.int .u64 (s0 : Nat), .int .u64 (s1 : Nat), .int .u64 (s2 : Nat), .int .u64 (s3 : Nat)], .bool o]) ∧ Below w.heap.size w w'
def DivIs (x0 x1 x2 x3 y0 y1 y2 y3 q0 q1 q2 q3 r0 r1 r2 r3 : Nat) : Prop := ∀ w : World, Calls Try.prog 25 #[.agg #[.int .u64 (x0 : Nat), .int .u64 (x1 : Nat), .int .u64 (x2 : Nat), .int .u64 (x3 : Nat)], .agg #[.int .u64 (y0 : Nat), .int .u64 (y1 : Nat), .int .u64 (y2 : Nat), .int .u64 (y3 : Nat)]] w fun e w' => e = .returned (.tuple #[.agg #[.int .u64 (q0 : Nat), .int .u64 (q1 : Nat), .int .u64 (q2 : Nat), .int .u64 (q3 : Nat)], .agg #[.int .u64 (r0 : Nat), .int .u64 (r1 : Nat), .int .u64 (r2 : Nat), .int .u64 (r3 : Nat)], .int .i64 0]) ∧ Below w.heap.size w w'
theorem words_of {x : Nat} (h : x < 115792089237316195423570985008687907853269984665640564039457584007913129639936) : ∃ x0 x1 x2 x3 : Nat, Words x0 x1 x2 x3 ∧ val x0 x1 x2 x3 = x := by
  refine ⟨x % 18446744073709551616, x / 18446744073709551616 % 18446744073709551616, x / 18446744073709551616 / 18446744073709551616 % 18446744073709551616, x / 18446744073709551616 / 18446744073709551616 / 18446744073709551616, ⟨by omega, by omega, by omega, by omega⟩, ?_⟩
  unfold val; omega
theorem val_lt {x0 x1 x2 x3 : Nat} (h : Words x0 x1 x2 x3) : val x0 x1 x2 x3 < 115792089237316195423570985008687907853269984665640564039457584007913129639936 := by
  obtain ⟨_, _, _, _⟩ := h; unfold val; omega

theorem addIs {a0 a1 a2 a3 b0 b1 b2 b3 s0 s1 s2 s3 : Nat} (ha : Words a0 a1 a2 a3) (hb : Words b0 b1 b2 b3) (hs : Words s0 s1 s2 s3) (o : Bool) (h : val s0 s1 s2 s3 = (val a0 a1 a2 a3 + val b0 b1 b2 b3) % 115792089237316195423570985008687907853269984665640564039457584007913129639936) (ho : o = decide (115792089237316195423570985008687907853269984665640564039457584007913129639936 ≤ val a0 a1 a2 a3 + val b0 b1 b2 b3)) :
    AddIs a0 a1 a2 a3 b0 b1 b2 b3 s0 s1 s2 s3 o := by
  obtain ⟨t0, t1, t2, t3, ht, e, c⟩ := add_any ha hb
  obtain ⟨rfl, rfl, rfl, rfl⟩ := val_inj hs ht (h.trans e.symm)
  intro w; rw [ho]; exact c w
theorem subIs {a0 a1 a2 a3 b0 b1 b2 b3 s0 s1 s2 s3 : Nat} (ha : Words a0 a1 a2 a3) (hb : Words b0 b1 b2 b3) (hs : Words s0 s1 s2 s3) (o : Bool) (h : val s0 s1 s2 s3 = (if val a0 a1 a2 a3 < val b0 b1 b2 b3 then val a0 a1 a2 a3 + 115792089237316195423570985008687907853269984665640564039457584007913129639936 - val b0 b1 b2 b3 else val a0 a1 a2 a3 - val b0 b1 b2 b3)) (ho : o = decide (val a0 a1 a2 a3 < val b0 b1 b2 b3)) :
    SubIs a0 a1 a2 a3 b0 b1 b2 b3 s0 s1 s2 s3 o := by
  obtain ⟨t0, t1, t2, t3, ht, e, c⟩ := sub_any ha hb
  obtain ⟨rfl, rfl, rfl, rfl⟩ := val_inj hs ht (h.trans e.symm)
  intro w; rw [ho]; exact c w
theorem upIs {a0 a1 a2 a3 n s0 s1 s2 s3 : Nat} (ha : Words a0 a1 a2 a3) (hn : n < 256) (hs : Words s0 s1 s2 s3) (h : val s0 s1 s2 s3 = val a0 a1 a2 a3 * 2 ^ n % 115792089237316195423570985008687907853269984665640564039457584007913129639936) : UpIs a0 a1 a2 a3 n s0 s1 s2 s3 := by
  obtain ⟨t0, t1, t2, t3, ht, e, c⟩ := up_any a0 a1 a2 a3 n ha hn
  obtain ⟨rfl, rfl, rfl, rfl⟩ := val_inj hs ht (h.trans e.symm)
  exact c
theorem downIs {a0 a1 a2 a3 n s0 s1 s2 s3 : Nat} (ha : Words a0 a1 a2 a3) (hn : n < 256) (hs : Words s0 s1 s2 s3) (h : val s0 s1 s2 s3 = val a0 a1 a2 a3 / 2 ^ n) : DownIs a0 a1 a2 a3 n s0 s1 s2 s3 := by
  obtain ⟨t0, t1, t2, t3, ht, e, c⟩ := down_any a0 a1 a2 a3 n ha hn
  obtain ⟨rfl, rfl, rfl, rfl⟩ := val_inj hs ht (h.trans e.symm)
  exact c
theorem divIs {a0 a1 a2 a3 b0 b1 b2 b3 q0 q1 q2 q3 r0 r1 r2 r3 : Nat} (ha : Words a0 a1 a2 a3) (hb : Words b0 b1 b2 b3) (hq : Words q0 q1 q2 q3) (hr : Words r0 r1 r2 r3) (pos : 0 < val b0 b1 b2 b3) (eq : val q0 q1 q2 q3 = val a0 a1 a2 a3 / val b0 b1 b2 b3) (er : val r0 r1 r2 r3 = val a0 a1 a2 a3 % val b0 b1 b2 b3) :
    DivIs a0 a1 a2 a3 b0 b1 b2 b3 q0 q1 q2 q3 r0 r1 r2 r3 := by
  intro w
  refine (div_any ha hb pos w).mono fun e w' ⟨t0, t1, t2, t3, s0, s1, s2, s3, he, ht, hs, e1, e2, hw⟩ => ?_
  have f1 : val t0 t1 t2 t3 = val a0 a1 a2 a3 / val b0 b1 b2 b3 := by
    rw [e1, Nat.add_comm, Nat.add_mul_div_right _ _ pos, Nat.div_eq_of_lt e2, Nat.zero_add]
  have f2 : val s0 s1 s2 s3 = val a0 a1 a2 a3 % val b0 b1 b2 b3 := by
    rw [e1, Nat.add_comm, Nat.add_mul_mod_self_right, Nat.mod_eq_of_lt e2]
  obtain ⟨rfl, rfl, rfl, rfl⟩ := val_inj ht hq (f1.trans eq.symm)
  obtain ⟨rfl, rfl, rfl, rfl⟩ := val_inj hs hr (f2.trans er.symm)
  exact ⟨he, hw⟩
/-- Of, at a word. -/
theorem ofIs (n : Nat) (w : World) : Calls Try.prog 24 #[.int .u64 (n : Nat)] w fun e w' => e = .returned (.agg #[.int .u64 (n : Nat), .int .u64 0, .int .u64 0, .int .u64 0]) ∧ Below w.heap.size w w' := of_int _ w

end Go.Proofs.Ytnipajfglmahiaa
