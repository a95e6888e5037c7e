/- Meets and Work of the document's answers of layer 3, at every hash and every target. No condition. -/
import Derived.Test.YtnipajfglmahiaaTMeets
import Derived.Test.YtnipajfglmahiaaTWork
import Derived.Test.YtnipajfglmahiaaRefHash
import Derived.Test.YtnipajfglmahiaaRefDiv
import Derived.Test.YtnipajfglmahiaaRef03a
namespace Go.Proofs.Ytnipajfglmahiaa
open Go.RowKit

def ROfHashIs (hb : Nat → Nat) (s0 s1 s2 s3 : Nat) : Prop := ∀ w : World, Calls Try.prog 38 #[.agg #[.int .u8 (hb 0 : Nat), .int .u8 (hb 1 : Nat), .int .u8 (hb 2 : Nat), .int .u8 (hb 3 : Nat), .int .u8 (hb 4 : Nat), .int .u8 (hb 5 : Nat), .int .u8 (hb 6 : Nat), .int .u8 (hb 7 : Nat), .int .u8 (hb 8 : Nat), .int .u8 (hb 9 : Nat), .int .u8 (hb 10 : Nat), .int .u8 (hb 11 : Nat), .int .u8 (hb 12 : Nat), .int .u8 (hb 13 : Nat), .int .u8 (hb 14 : Nat), .int .u8 (hb 15 : Nat), .int .u8 (hb 16 : Nat), .int .u8 (hb 17 : Nat), .int .u8 (hb 18 : Nat), .int .u8 (hb 19 : Nat), .int .u8 (hb 20 : Nat), .int .u8 (hb 21 : Nat), .int .u8 (hb 22 : Nat), .int .u8 (hb 23 : Nat), .int .u8 (hb 24 : Nat), .int .u8 (hb 25 : Nat), .int .u8 (hb 26 : Nat), .int .u8 (hb 27 : Nat), .int .u8 (hb 28 : Nat), .int .u8 (hb 29 : Nat), .int .u8 (hb 30 : Nat), .int .u8 (hb 31 : Nat)]] w fun e w' => e = .returned (.agg #[.int .u64 (s0 : Nat), .int .u64 (s1 : Nat), .int .u64 (s2 : Nat), .int .u64 (s3 : Nat)]) ∧ Below w.heap.size w w'
theorem rowOf_lit (hb : Nat → Nat) : rowOf hb = #[.int .u8 (hb 0 : Nat), .int .u8 (hb 1 : Nat), .int .u8 (hb 2 : Nat), .int .u8 (hb 3 : Nat), .int .u8 (hb 4 : Nat), .int .u8 (hb 5 : Nat), .int .u8 (hb 6 : Nat), .int .u8 (hb 7 : Nat), .int .u8 (hb 8 : Nat), .int .u8 (hb 9 : Nat), .int .u8 (hb 10 : Nat), .int .u8 (hb 11 : Nat), .int .u8 (hb 12 : Nat), .int .u8 (hb 13 : Nat), .int .u8 (hb 14 : Nat), .int .u8 (hb 15 : Nat), .int .u8 (hb 16 : Nat), .int .u8 (hb 17 : Nat), .int .u8 (hb 18 : Nat), .int .u8 (hb 19 : Nat), .int .u8 (hb 20 : Nat), .int .u8 (hb 21 : Nat), .int .u8 (hb 22 : Nat), .int .u8 (hb 23 : Nat), .int .u8 (hb 24 : Nat), .int .u8 (hb 25 : Nat), .int .u8 (hb 26 : Nat), .int .u8 (hb 27 : Nat), .int .u8 (hb 28 : Nat), .int .u8 (hb 29 : Nat), .int .u8 (hb 30 : Nat), .int .u8 (hb 31 : Nat)] := rfl
theorem rofHashIs {hb : Nat → Nat} {s0 s1 s2 s3 : Nat} (h : Bytes hb) (hs : Words s0 s1 s2 s3) (e : val s0 s1 s2 s3 = hashNum hb 32) : ROfHashIs hb s0 s1 s2 s3 := fun w => by
  rw [← rowOf_lit]
  refine (refOfHash_any h (rowOf hb) (rowOf_get hb) w).mono fun e' w' ⟨p0, p1, p2, p3, he, wp, vp, hbl⟩ => ?_
  rw [Nat.mod_eq_of_lt (hash_lt h), ← e] at vp
  obtain ⟨rfl, rfl, rfl, rfl⟩ := val_inj wp hs vp
  exact ⟨he, hbl⟩
def RMeetsIs (hb : Nat → Nat) (t0 t1 t2 t3 : Nat) (r : Bool) : Prop := ∀ w : World, Calls Try.prog 19 #[.agg #[.int .u8 (hb 0 : Nat), .int .u8 (hb 1 : Nat), .int .u8 (hb 2 : Nat), .int .u8 (hb 3 : Nat), .int .u8 (hb 4 : Nat), .int .u8 (hb 5 : Nat), .int .u8 (hb 6 : Nat), .int .u8 (hb 7 : Nat), .int .u8 (hb 8 : Nat), .int .u8 (hb 9 : Nat), .int .u8 (hb 10 : Nat), .int .u8 (hb 11 : Nat), .int .u8 (hb 12 : Nat), .int .u8 (hb 13 : Nat), .int .u8 (hb 14 : Nat), .int .u8 (hb 15 : Nat), .int .u8 (hb 16 : Nat), .int .u8 (hb 17 : Nat), .int .u8 (hb 18 : Nat), .int .u8 (hb 19 : Nat), .int .u8 (hb 20 : Nat), .int .u8 (hb 21 : Nat), .int .u8 (hb 22 : Nat), .int .u8 (hb 23 : Nat), .int .u8 (hb 24 : Nat), .int .u8 (hb 25 : Nat), .int .u8 (hb 26 : Nat), .int .u8 (hb 27 : Nat), .int .u8 (hb 28 : Nat), .int .u8 (hb 29 : Nat), .int .u8 (hb 30 : Nat), .int .u8 (hb 31 : Nat)], .agg #[.int .u64 (t0 : Nat), .int .u64 (t1 : Nat), .int .u64 (t2 : Nat), .int .u64 (t3 : Nat)]] w fun e w' => e = .returned (.bool r) ∧ Below w.heap.size w w'

set_option maxRecDepth 100000 in
set_option maxHeartbeats 8000000 in
theorem rmeets_zero (hb : Nat → Nat) (t0 t1 t2 t3 : Nat) (ez : EqZ t0 t1 t2 t3 true) : RMeetsIs hb t0 t1 t2 t3 false := by
  intro w
  unfold EqZ at ez
  go_enter Try.func19, Try.ntmps19
  go_wp2_with fail
  have PB : Below w.heap.size w ((w.alloc (.cells #[.int .u8 (hb 0 : Nat), .int .u8 (hb 1 : Nat), .int .u8 (hb 2 : Nat), .int .u8 (hb 3 : Nat), .int .u8 (hb 4 : Nat), .int .u8 (hb 5 : Nat), .int .u8 (hb 6 : Nat), .int .u8 (hb 7 : Nat), .int .u8 (hb 8 : Nat), .int .u8 (hb 9 : Nat), .int .u8 (hb 10 : Nat), .int .u8 (hb 11 : Nat), .int .u8 (hb 12 : Nat), .int .u8 (hb 13 : Nat), .int .u8 (hb 14 : Nat), .int .u8 (hb 15 : Nat), .int .u8 (hb 16 : Nat), .int .u8 (hb 17 : Nat), .int .u8 (hb 18 : Nat), .int .u8 (hb 19 : Nat), .int .u8 (hb 20 : Nat), .int .u8 (hb 21 : Nat), .int .u8 (hb 22 : Nat), .int .u8 (hb 23 : Nat), .int .u8 (hb 24 : Nat), .int .u8 (hb 25 : Nat), .int .u8 (hb 26 : Nat), .int .u8 (hb 27 : Nat), .int .u8 (hb 28 : Nat), .int .u8 (hb 29 : Nat), .int .u8 (hb 30 : Nat), .int .u8 (hb 31 : Nat)] 32)).alloc (.cells #[.int .u64 (t0 : Nat), .int .u64 (t1 : Nat), .int .u64 (t2 : Nat), .int .u64 (t3 : Nat)] 25)) := ((Below.refl _ _).alloc (Nat.le_refl _) _).alloc (by simp) _
  have HH : Holds ((w.alloc (.cells #[.int .u8 (hb 0 : Nat), .int .u8 (hb 1 : Nat), .int .u8 (hb 2 : Nat), .int .u8 (hb 3 : Nat), .int .u8 (hb 4 : Nat), .int .u8 (hb 5 : Nat), .int .u8 (hb 6 : Nat), .int .u8 (hb 7 : Nat), .int .u8 (hb 8 : Nat), .int .u8 (hb 9 : Nat), .int .u8 (hb 10 : Nat), .int .u8 (hb 11 : Nat), .int .u8 (hb 12 : Nat), .int .u8 (hb 13 : Nat), .int .u8 (hb 14 : Nat), .int .u8 (hb 15 : Nat), .int .u8 (hb 16 : Nat), .int .u8 (hb 17 : Nat), .int .u8 (hb 18 : Nat), .int .u8 (hb 19 : Nat), .int .u8 (hb 20 : Nat), .int .u8 (hb 21 : Nat), .int .u8 (hb 22 : Nat), .int .u8 (hb 23 : Nat), .int .u8 (hb 24 : Nat), .int .u8 (hb 25 : Nat), .int .u8 (hb 26 : Nat), .int .u8 (hb 27 : Nat), .int .u8 (hb 28 : Nat), .int .u8 (hb 29 : Nat), .int .u8 (hb 30 : Nat), .int .u8 (hb 31 : Nat)] 32)).alloc (.cells #[.int .u64 (t0 : Nat), .int .u64 (t1 : Nat), .int .u64 (t2 : Nat), .int .u64 (t3 : Nat)] 25)) w.heap.size #[.int .u8 (hb 0 : Nat), .int .u8 (hb 1 : Nat), .int .u8 (hb 2 : Nat), .int .u8 (hb 3 : Nat), .int .u8 (hb 4 : Nat), .int .u8 (hb 5 : Nat), .int .u8 (hb 6 : Nat), .int .u8 (hb 7 : Nat), .int .u8 (hb 8 : Nat), .int .u8 (hb 9 : Nat), .int .u8 (hb 10 : Nat), .int .u8 (hb 11 : Nat), .int .u8 (hb 12 : Nat), .int .u8 (hb 13 : Nat), .int .u8 (hb 14 : Nat), .int .u8 (hb 15 : Nat), .int .u8 (hb 16 : Nat), .int .u8 (hb 17 : Nat), .int .u8 (hb 18 : Nat), .int .u8 (hb 19 : Nat), .int .u8 (hb 20 : Nat), .int .u8 (hb 21 : Nat), .int .u8 (hb 22 : Nat), .int .u8 (hb 23 : Nat), .int .u8 (hb 24 : Nat), .int .u8 (hb 25 : Nat), .int .u8 (hb 26 : Nat), .int .u8 (hb 27 : Nat), .int .u8 (hb 28 : Nat), .int .u8 (hb 29 : Nat), .int .u8 (hb 30 : Nat), .int .u8 (hb 31 : Nat)] 32 := (Holds.new _ _ _).later ((Below.refl _ _).alloc (Nat.le_refl _) _)
  have H1 : Holds ((w.alloc (.cells #[.int .u8 (hb 0 : Nat), .int .u8 (hb 1 : Nat), .int .u8 (hb 2 : Nat), .int .u8 (hb 3 : Nat), .int .u8 (hb 4 : Nat), .int .u8 (hb 5 : Nat), .int .u8 (hb 6 : Nat), .int .u8 (hb 7 : Nat), .int .u8 (hb 8 : Nat), .int .u8 (hb 9 : Nat), .int .u8 (hb 10 : Nat), .int .u8 (hb 11 : Nat), .int .u8 (hb 12 : Nat), .int .u8 (hb 13 : Nat), .int .u8 (hb 14 : Nat), .int .u8 (hb 15 : Nat), .int .u8 (hb 16 : Nat), .int .u8 (hb 17 : Nat), .int .u8 (hb 18 : Nat), .int .u8 (hb 19 : Nat), .int .u8 (hb 20 : Nat), .int .u8 (hb 21 : Nat), .int .u8 (hb 22 : Nat), .int .u8 (hb 23 : Nat), .int .u8 (hb 24 : Nat), .int .u8 (hb 25 : Nat), .int .u8 (hb 26 : Nat), .int .u8 (hb 27 : Nat), .int .u8 (hb 28 : Nat), .int .u8 (hb 29 : Nat), .int .u8 (hb 30 : Nat), .int .u8 (hb 31 : Nat)] 32)).alloc (.cells #[.int .u64 (t0 : Nat), .int .u64 (t1 : Nat), .int .u64 (t2 : Nat), .int .u64 (t3 : Nat)] 25)) (w.heap.size + 1) #[.int .u64 (t0 : Nat), .int .u64 (t1 : Nat), .int .u64 (t2 : Nat), .int .u64 (t3 : Nat)] 25 := by have := Holds.new (w.alloc (.cells #[.int .u8 (hb 0 : Nat), .int .u8 (hb 1 : Nat), .int .u8 (hb 2 : Nat), .int .u8 (hb 3 : Nat), .int .u8 (hb 4 : Nat), .int .u8 (hb 5 : Nat), .int .u8 (hb 6 : Nat), .int .u8 (hb 7 : Nat), .int .u8 (hb 8 : Nat), .int .u8 (hb 9 : Nat), .int .u8 (hb 10 : Nat), .int .u8 (hb 11 : Nat), .int .u8 (hb 12 : Nat), .int .u8 (hb 13 : Nat), .int .u8 (hb 14 : Nat), .int .u8 (hb 15 : Nat), .int .u8 (hb 16 : Nat), .int .u8 (hb 17 : Nat), .int .u8 (hb 18 : Nat), .int .u8 (hb 19 : Nat), .int .u8 (hb 20 : Nat), .int .u8 (hb 21 : Nat), .int .u8 (hb 22 : Nat), .int .u8 (hb 23 : Nat), .int .u8 (hb 24 : Nat), .int .u8 (hb 25 : Nat), .int .u8 (hb 26 : Nat), .int .u8 (hb 27 : Nat), .int .u8 (hb 28 : Nat), .int .u8 (hb 29 : Nat), .int .u8 (hb 30 : Nat), .int .u8 (hb 31 : Nat)] 32)) #[.int .u64 (t0 : Nat), .int .u64 (t1 : Nat), .int .u64 (t2 : Nat), .int .u64 (t3 : Nat)] 25; simpa using this
  generalize (w.alloc (.cells #[.int .u8 (hb 0 : Nat), .int .u8 (hb 1 : Nat), .int .u8 (hb 2 : Nat), .int .u8 (hb 3 : Nat), .int .u8 (hb 4 : Nat), .int .u8 (hb 5 : Nat), .int .u8 (hb 6 : Nat), .int .u8 (hb 7 : Nat), .int .u8 (hb 8 : Nat), .int .u8 (hb 9 : Nat), .int .u8 (hb 10 : Nat), .int .u8 (hb 11 : Nat), .int .u8 (hb 12 : Nat), .int .u8 (hb 13 : Nat), .int .u8 (hb 14 : Nat), .int .u8 (hb 15 : Nat), .int .u8 (hb 16 : Nat), .int .u8 (hb 17 : Nat), .int .u8 (hb 18 : Nat), .int .u8 (hb 19 : Nat), .int .u8 (hb 20 : Nat), .int .u8 (hb 21 : Nat), .int .u8 (hb 22 : Nat), .int .u8 (hb 23 : Nat), .int .u8 (hb 24 : Nat), .int .u8 (hb 25 : Nat), .int .u8 (hb 26 : Nat), .int .u8 (hb 27 : Nat), .int .u8 (hb 28 : Nat), .int .u8 (hb 29 : Nat), .int .u8 (hb 30 : Nat), .int .u8 (hb 31 : Nat)] 32)).alloc (.cells #[.int .u64 (t0 : Nat), .int .u64 (t1 : Nat), .int .u64 (t2 : Nat), .int .u64 (t3 : Nat)] 25) = W1 at *
  have u0 : ∀ u : After W1, u.w.cell? ⟨w.heap.size + 1, 0, none⟩ = some (.int .u64 (t0 : Nat)) := fun u => (H1.later u.below).cell 0
  have u1 : ∀ u : After W1, u.w.cell? ⟨w.heap.size + 1, 1, none⟩ = some (.int .u64 (t1 : Nat)) := fun u => (H1.later u.below).cell 1
  have u2 : ∀ u : After W1, u.w.cell? ⟨w.heap.size + 1, 2, none⟩ = some (.int .u64 (t2 : Nat)) := fun u => (H1.later u.below).cell 2
  have u3 : ∀ u : After W1, u.w.cell? ⟨w.heap.size + 1, 3, none⟩ = some (.int .u64 (t3 : Nat)) := fun u => (H1.later u.below).cell 3
  refine wp_region_after (by kernel_rfl) (by kernel_rfl) ?_
  repeat (go_big_quiet_step (fail))
  refine wpQuiet_nil ?_
  rintro _ ⟨u, rfl⟩
  have PC := below_step PB u.below
  clear PB H1 HH
  have PB := Lib.hid PC
  clear PC
  go_wp2_with fail
  go_ret
  exact ⟨rfl, PB.out⟩

set_option maxRecDepth 100000 in
set_option maxHeartbeats 8000000 in
theorem rmeets_some (hb : Nat → Nat) (t0 t1 t2 t3 s0 s1 s2 s3 : Nat) (r : Bool) (ez : EqZ t0 t1 t2 t3 false) (oh : ROfHashIs hb s0 s1 s2 s3) (less : RLessIs t0 t1 t2 t3 s0 s1 s2 s3 r) : RMeetsIs hb t0 t1 t2 t3 (!r) := by
  intro w
  have OH := Lib.hid oh
  clear oh
  have LESSH := Lib.hid less
  clear less
  unfold EqZ at ez
  go_enter Try.func19, Try.ntmps19
  go_wp2_with fail
  have PB : Below w.heap.size w ((w.alloc (.cells #[.int .u8 (hb 0 : Nat), .int .u8 (hb 1 : Nat), .int .u8 (hb 2 : Nat), .int .u8 (hb 3 : Nat), .int .u8 (hb 4 : Nat), .int .u8 (hb 5 : Nat), .int .u8 (hb 6 : Nat), .int .u8 (hb 7 : Nat), .int .u8 (hb 8 : Nat), .int .u8 (hb 9 : Nat), .int .u8 (hb 10 : Nat), .int .u8 (hb 11 : Nat), .int .u8 (hb 12 : Nat), .int .u8 (hb 13 : Nat), .int .u8 (hb 14 : Nat), .int .u8 (hb 15 : Nat), .int .u8 (hb 16 : Nat), .int .u8 (hb 17 : Nat), .int .u8 (hb 18 : Nat), .int .u8 (hb 19 : Nat), .int .u8 (hb 20 : Nat), .int .u8 (hb 21 : Nat), .int .u8 (hb 22 : Nat), .int .u8 (hb 23 : Nat), .int .u8 (hb 24 : Nat), .int .u8 (hb 25 : Nat), .int .u8 (hb 26 : Nat), .int .u8 (hb 27 : Nat), .int .u8 (hb 28 : Nat), .int .u8 (hb 29 : Nat), .int .u8 (hb 30 : Nat), .int .u8 (hb 31 : Nat)] 32)).alloc (.cells #[.int .u64 (t0 : Nat), .int .u64 (t1 : Nat), .int .u64 (t2 : Nat), .int .u64 (t3 : Nat)] 25)) := ((Below.refl _ _).alloc (Nat.le_refl _) _).alloc (by simp) _
  have HH : Holds ((w.alloc (.cells #[.int .u8 (hb 0 : Nat), .int .u8 (hb 1 : Nat), .int .u8 (hb 2 : Nat), .int .u8 (hb 3 : Nat), .int .u8 (hb 4 : Nat), .int .u8 (hb 5 : Nat), .int .u8 (hb 6 : Nat), .int .u8 (hb 7 : Nat), .int .u8 (hb 8 : Nat), .int .u8 (hb 9 : Nat), .int .u8 (hb 10 : Nat), .int .u8 (hb 11 : Nat), .int .u8 (hb 12 : Nat), .int .u8 (hb 13 : Nat), .int .u8 (hb 14 : Nat), .int .u8 (hb 15 : Nat), .int .u8 (hb 16 : Nat), .int .u8 (hb 17 : Nat), .int .u8 (hb 18 : Nat), .int .u8 (hb 19 : Nat), .int .u8 (hb 20 : Nat), .int .u8 (hb 21 : Nat), .int .u8 (hb 22 : Nat), .int .u8 (hb 23 : Nat), .int .u8 (hb 24 : Nat), .int .u8 (hb 25 : Nat), .int .u8 (hb 26 : Nat), .int .u8 (hb 27 : Nat), .int .u8 (hb 28 : Nat), .int .u8 (hb 29 : Nat), .int .u8 (hb 30 : Nat), .int .u8 (hb 31 : Nat)] 32)).alloc (.cells #[.int .u64 (t0 : Nat), .int .u64 (t1 : Nat), .int .u64 (t2 : Nat), .int .u64 (t3 : Nat)] 25)) w.heap.size #[.int .u8 (hb 0 : Nat), .int .u8 (hb 1 : Nat), .int .u8 (hb 2 : Nat), .int .u8 (hb 3 : Nat), .int .u8 (hb 4 : Nat), .int .u8 (hb 5 : Nat), .int .u8 (hb 6 : Nat), .int .u8 (hb 7 : Nat), .int .u8 (hb 8 : Nat), .int .u8 (hb 9 : Nat), .int .u8 (hb 10 : Nat), .int .u8 (hb 11 : Nat), .int .u8 (hb 12 : Nat), .int .u8 (hb 13 : Nat), .int .u8 (hb 14 : Nat), .int .u8 (hb 15 : Nat), .int .u8 (hb 16 : Nat), .int .u8 (hb 17 : Nat), .int .u8 (hb 18 : Nat), .int .u8 (hb 19 : Nat), .int .u8 (hb 20 : Nat), .int .u8 (hb 21 : Nat), .int .u8 (hb 22 : Nat), .int .u8 (hb 23 : Nat), .int .u8 (hb 24 : Nat), .int .u8 (hb 25 : Nat), .int .u8 (hb 26 : Nat), .int .u8 (hb 27 : Nat), .int .u8 (hb 28 : Nat), .int .u8 (hb 29 : Nat), .int .u8 (hb 30 : Nat), .int .u8 (hb 31 : Nat)] 32 := (Holds.new _ _ _).later ((Below.refl _ _).alloc (Nat.le_refl _) _)
  have H1 : Holds ((w.alloc (.cells #[.int .u8 (hb 0 : Nat), .int .u8 (hb 1 : Nat), .int .u8 (hb 2 : Nat), .int .u8 (hb 3 : Nat), .int .u8 (hb 4 : Nat), .int .u8 (hb 5 : Nat), .int .u8 (hb 6 : Nat), .int .u8 (hb 7 : Nat), .int .u8 (hb 8 : Nat), .int .u8 (hb 9 : Nat), .int .u8 (hb 10 : Nat), .int .u8 (hb 11 : Nat), .int .u8 (hb 12 : Nat), .int .u8 (hb 13 : Nat), .int .u8 (hb 14 : Nat), .int .u8 (hb 15 : Nat), .int .u8 (hb 16 : Nat), .int .u8 (hb 17 : Nat), .int .u8 (hb 18 : Nat), .int .u8 (hb 19 : Nat), .int .u8 (hb 20 : Nat), .int .u8 (hb 21 : Nat), .int .u8 (hb 22 : Nat), .int .u8 (hb 23 : Nat), .int .u8 (hb 24 : Nat), .int .u8 (hb 25 : Nat), .int .u8 (hb 26 : Nat), .int .u8 (hb 27 : Nat), .int .u8 (hb 28 : Nat), .int .u8 (hb 29 : Nat), .int .u8 (hb 30 : Nat), .int .u8 (hb 31 : Nat)] 32)).alloc (.cells #[.int .u64 (t0 : Nat), .int .u64 (t1 : Nat), .int .u64 (t2 : Nat), .int .u64 (t3 : Nat)] 25)) (w.heap.size + 1) #[.int .u64 (t0 : Nat), .int .u64 (t1 : Nat), .int .u64 (t2 : Nat), .int .u64 (t3 : Nat)] 25 := by have := Holds.new (w.alloc (.cells #[.int .u8 (hb 0 : Nat), .int .u8 (hb 1 : Nat), .int .u8 (hb 2 : Nat), .int .u8 (hb 3 : Nat), .int .u8 (hb 4 : Nat), .int .u8 (hb 5 : Nat), .int .u8 (hb 6 : Nat), .int .u8 (hb 7 : Nat), .int .u8 (hb 8 : Nat), .int .u8 (hb 9 : Nat), .int .u8 (hb 10 : Nat), .int .u8 (hb 11 : Nat), .int .u8 (hb 12 : Nat), .int .u8 (hb 13 : Nat), .int .u8 (hb 14 : Nat), .int .u8 (hb 15 : Nat), .int .u8 (hb 16 : Nat), .int .u8 (hb 17 : Nat), .int .u8 (hb 18 : Nat), .int .u8 (hb 19 : Nat), .int .u8 (hb 20 : Nat), .int .u8 (hb 21 : Nat), .int .u8 (hb 22 : Nat), .int .u8 (hb 23 : Nat), .int .u8 (hb 24 : Nat), .int .u8 (hb 25 : Nat), .int .u8 (hb 26 : Nat), .int .u8 (hb 27 : Nat), .int .u8 (hb 28 : Nat), .int .u8 (hb 29 : Nat), .int .u8 (hb 30 : Nat), .int .u8 (hb 31 : Nat)] 32)) #[.int .u64 (t0 : Nat), .int .u64 (t1 : Nat), .int .u64 (t2 : Nat), .int .u64 (t3 : Nat)] 25; simpa using this
  generalize (w.alloc (.cells #[.int .u8 (hb 0 : Nat), .int .u8 (hb 1 : Nat), .int .u8 (hb 2 : Nat), .int .u8 (hb 3 : Nat), .int .u8 (hb 4 : Nat), .int .u8 (hb 5 : Nat), .int .u8 (hb 6 : Nat), .int .u8 (hb 7 : Nat), .int .u8 (hb 8 : Nat), .int .u8 (hb 9 : Nat), .int .u8 (hb 10 : Nat), .int .u8 (hb 11 : Nat), .int .u8 (hb 12 : Nat), .int .u8 (hb 13 : Nat), .int .u8 (hb 14 : Nat), .int .u8 (hb 15 : Nat), .int .u8 (hb 16 : Nat), .int .u8 (hb 17 : Nat), .int .u8 (hb 18 : Nat), .int .u8 (hb 19 : Nat), .int .u8 (hb 20 : Nat), .int .u8 (hb 21 : Nat), .int .u8 (hb 22 : Nat), .int .u8 (hb 23 : Nat), .int .u8 (hb 24 : Nat), .int .u8 (hb 25 : Nat), .int .u8 (hb 26 : Nat), .int .u8 (hb 27 : Nat), .int .u8 (hb 28 : Nat), .int .u8 (hb 29 : Nat), .int .u8 (hb 30 : Nat), .int .u8 (hb 31 : Nat)] 32)).alloc (.cells #[.int .u64 (t0 : Nat), .int .u64 (t1 : Nat), .int .u64 (t2 : Nat), .int .u64 (t3 : Nat)] 25) = W1 at *
  have u0 : ∀ u : After W1, u.w.cell? ⟨w.heap.size + 1, 0, none⟩ = some (.int .u64 (t0 : Nat)) := fun u => (H1.later u.below).cell 0
  have u1 : ∀ u : After W1, u.w.cell? ⟨w.heap.size + 1, 1, none⟩ = some (.int .u64 (t1 : Nat)) := fun u => (H1.later u.below).cell 1
  have u2 : ∀ u : After W1, u.w.cell? ⟨w.heap.size + 1, 2, none⟩ = some (.int .u64 (t2 : Nat)) := fun u => (H1.later u.below).cell 2
  have u3 : ∀ u : After W1, u.w.cell? ⟨w.heap.size + 1, 3, none⟩ = some (.int .u64 (t3 : Nat)) := fun u => (H1.later u.below).cell 3
  refine wp_region_after (by kernel_rfl) (by kernel_rfl) ?_
  repeat (go_big_quiet_step ((first | (go_at_call 38; exact after_call (OH.out _)) | (go_at_call 37; exact after_call (LESSH.out _)))))
  go_big_quiet_want
  refine quiet_load_row 32 (.tmp 2) rfl w.heap.size rfl 32 #[.int .u8 (hb 0 : Nat), .int .u8 (hb 1 : Nat), .int .u8 (hb 2 : Nat), .int .u8 (hb 3 : Nat), .int .u8 (hb 4 : Nat), .int .u8 (hb 5 : Nat), .int .u8 (hb 6 : Nat), .int .u8 (hb 7 : Nat), .int .u8 (hb 8 : Nat), .int .u8 (hb 9 : Nat), .int .u8 (hb 10 : Nat), .int .u8 (hb 11 : Nat), .int .u8 (hb 12 : Nat), .int .u8 (hb 13 : Nat), .int .u8 (hb 14 : Nat), .int .u8 (hb 15 : Nat), .int .u8 (hb 16 : Nat), .int .u8 (hb 17 : Nat), .int .u8 (hb 18 : Nat), .int .u8 (hb 19 : Nat), .int .u8 (hb 20 : Nat), .int .u8 (hb 21 : Nat), .int .u8 (hb 22 : Nat), .int .u8 (hb 23 : Nat), .int .u8 (hb 24 : Nat), .int .u8 (hb 25 : Nat), .int .u8 (hb 26 : Nat), .int .u8 (hb 27 : Nat), .int .u8 (hb 28 : Nat), .int .u8 (hb 29 : Nat), .int .u8 (hb 30 : Nat), .int .u8 (hb 31 : Nat)] _ (by rintro _ ⟨u, rfl⟩; exact HH.later u.below) Try.underlying32 rfl (by kernel_rfl) ?_
  go_big_quiet_on
  simp only [Act.put, List.setIfInBounds_toArray, List.set_cons_succ, List.set_cons_zero]
  repeat (go_big_quiet_step ((first | (go_at_call 38; exact after_call (OH.out _)) | (go_at_call 37; exact after_call (LESSH.out _)))))
  refine wpQuiet_nil ?_
  rintro _ ⟨u, rfl⟩
  have PC := below_step PB u.below
  clear PB H1 HH
  have PB := Lib.hid PC
  clear PC
  go_wp2_with fail
  go_ret
  exact ⟨rfl, PB.out⟩

theorem rmeetsIs {hb : Nat → Nat} {t0 t1 t2 t3 : Nat} (h : Bytes hb) (ht : Words t0 t1 t2 t3) (r : Bool) (hr : r = decide (val t0 t1 t2 t3 ≠ 0 ∧ hashNum hb 32 ≤ val t0 t1 t2 t3)) : RMeetsIs hb t0 t1 t2 t3 r := by
  obtain ⟨s0, s1, s2, s3, ws, es⟩ := words_of (hash_lt h)
  by_cases z : val t0 t1 t2 t3 = 0
  · rw [hr, decide_eq_false (fun k => k.1 z)]
    exact rmeets_zero hb t0 t1 t2 t3 (eqZ ht true (by symm; rw [decide_eq_true_iff]; exact z))
  · have m := rmeets_some hb t0 t1 t2 t3 s0 s1 s2 s3 _ (eqZ ht false (by symm; rw [decide_eq_false_iff_not]; exact z)) (rofHashIs h ws es) (refless_any ht ws _ rfl)
    have e : r = (!decide (val t0 t1 t2 t3 < val s0 s1 s2 s3)) := by
      rw [hr, es, Bool.eq_iff_iff, decide_eq_true_iff, Bool.not_eq_true', decide_eq_false_iff_not]
      omega
    rw [e]; exact m

theorem refof_one (w : World) : Calls Try.prog 28 #[.int .u64 1] w fun e w' => e = .returned (.agg #[.int .u64 1, .int .u64 0, .int .u64 0, .int .u64 0]) ∧ Below w.heap.size w w' := refof 1 w

set_option maxRecDepth 100000 in
set_option maxHeartbeats 8000000 in
theorem rwork_zero (t0 t1 t2 t3 : Nat) (o : Bool) (w : World) (ez : EqZ t0 t1 t2 t3 true) (hRS : ∀ w : World, Calls Try.prog 34 #[.agg #[.int .u64 0, .int .u64 0, .int .u64 0, .int .u64 0], .agg #[.int .u64 1, .int .u64 0, .int .u64 0, .int .u64 0]] w fun e w' => e = .returned (.tuple #[.agg #[.int .u64 18446744073709551615, .int .u64 18446744073709551615, .int .u64 18446744073709551615, .int .u64 18446744073709551615], .bool o]) ∧ Below w.heap.size w w') :
    Calls Try.prog 17 #[.agg #[.int .u64 (t0 : Nat), .int .u64 (t1 : Nat), .int .u64 (t2 : Nat), .int .u64 (t3 : Nat)]] w fun e w' => e = .returned (.agg #[.int .u64 18446744073709551615, .int .u64 18446744073709551615, .int .u64 18446744073709551615, .int .u64 18446744073709551615]) ∧ Below w.heap.size w w' := by
  have RS := Lib.hid hRS
  clear hRS
  unfold EqZ at ez
  go_enter Try.func17, Try.ntmps17
  go_wp2_with fail
  have PB := below3 w #[.int .u64 (t0 : Nat), .int .u64 (t1 : Nat), .int .u64 (t2 : Nat), .int .u64 (t3 : Nat)] #[.int .u64 0, .int .u64 0, .int .u64 0, .int .u64 0] #[.int .u64 0, .int .u64 0, .int .u64 0, .int .u64 0]
  have H0 : Holds (((w.alloc (.cells #[.int .u64 (t0 : Nat), .int .u64 (t1 : Nat), .int .u64 (t2 : Nat), .int .u64 (t3 : Nat)] 25)).alloc (.cells #[.int .u64 0, .int .u64 0, .int .u64 0, .int .u64 0] 25)).alloc (.cells #[.int .u64 0, .int .u64 0, .int .u64 0, .int .u64 0] 25)) w.heap.size #[.int .u64 (t0 : Nat), .int .u64 (t1 : Nat), .int .u64 (t2 : Nat), .int .u64 (t3 : Nat)] 25 := boxes3 w _ _ _ 0 _ rfl
  have HR : Holds (((w.alloc (.cells #[.int .u64 (t0 : Nat), .int .u64 (t1 : Nat), .int .u64 (t2 : Nat), .int .u64 (t3 : Nat)] 25)).alloc (.cells #[.int .u64 0, .int .u64 0, .int .u64 0, .int .u64 0] 25)).alloc (.cells #[.int .u64 0, .int .u64 0, .int .u64 0, .int .u64 0] 25)) (w.heap.size + 1) #[.int .u64 0, .int .u64 0, .int .u64 0, .int .u64 0] 25 := boxes3 w _ _ _ 1 _ rfl
  have H2 : Holds (((w.alloc (.cells #[.int .u64 (t0 : Nat), .int .u64 (t1 : Nat), .int .u64 (t2 : Nat), .int .u64 (t3 : Nat)] 25)).alloc (.cells #[.int .u64 0, .int .u64 0, .int .u64 0, .int .u64 0] 25)).alloc (.cells #[.int .u64 0, .int .u64 0, .int .u64 0, .int .u64 0] 25)) (w.heap.size + 2) #[.int .u64 0, .int .u64 0, .int .u64 0, .int .u64 0] 25 := boxes3 w _ _ _ 2 _ rfl
  have xt : Box (((w.alloc (.cells #[.int .u64 (t0 : Nat), .int .u64 (t1 : Nat), .int .u64 (t2 : Nat), .int .u64 (t3 : Nat)] 25)).alloc (.cells #[.int .u64 0, .int .u64 0, .int .u64 0, .int .u64 0] 25)).alloc (.cells #[.int .u64 0, .int .u64 0, .int .u64 0, .int .u64 0] 25)) w.heap.size t0 t1 t2 t3 := ⟨H0.cell 0, H0.cell 1, H0.cell 2, H0.cell 3⟩
  have xz : Box (((w.alloc (.cells #[.int .u64 (t0 : Nat), .int .u64 (t1 : Nat), .int .u64 (t2 : Nat), .int .u64 (t3 : Nat)] 25)).alloc (.cells #[.int .u64 0, .int .u64 0, .int .u64 0, .int .u64 0] 25)).alloc (.cells #[.int .u64 0, .int .u64 0, .int .u64 0, .int .u64 0] 25)) (w.heap.size + 1 + 1) 0 0 0 0 := ⟨H2.cell 0, H2.cell 1, H2.cell 2, H2.cell 3⟩
  clear H0 H2
  generalize ((w.alloc (.cells #[.int .u64 (t0 : Nat), .int .u64 (t1 : Nat), .int .u64 (t2 : Nat), .int .u64 (t3 : Nat)] 25)).alloc (.cells #[.int .u64 0, .int .u64 0, .int .u64 0, .int .u64 0] 25)).alloc (.cells #[.int .u64 0, .int .u64 0, .int .u64 0, .int .u64 0] 25) = W1 at *
  refine (refof_one _).mono ?_
  rintro e w2 ⟨rfl, hc⟩
  replace xt := xt.later hc
  replace xz := xz.later hc
  replace HR := HR.later hc
  have PC := below_step PB hc
  clear PB hc
  have PB := PC
  clear PC
  have ct := xt
  obtain ⟨ct0, ct1, ct2, ct3⟩ := ct
  have lt := World.block_lt_of_cell? _ _ ct0
  simp only [] at lt
  have cz := xz
  obtain ⟨cz0, cz1, cz2, cz3⟩ := cz
  have lz := World.block_lt_of_cell? _ _ cz0
  simp only [] at lz
  have HPB := Lib.hid PB
  clear PB
  go_wp2_with fail
  have PB := HPB.out
  clear HPB
  clear ct0 ct1 ct2 ct3 cz0 cz1 cz2 cz3 lt lz
  replace xt := xt.alloc (.cells #[.int .u64 1, .int .u64 0, .int .u64 0, .int .u64 0] 25)
  replace xz := xz.alloc (.cells #[.int .u64 1, .int .u64 0, .int .u64 0, .int .u64 0] 25)
  replace HR := HR.later ((Below.refl _ _).alloc (Nat.le_refl _) (.cells #[.int .u64 1, .int .u64 0, .int .u64 0, .int .u64 0] 25))
  have xo := Box.new (w2) 1 0 0 0 25
  have PC := below_alloc PB (.cells #[.int .u64 1, .int .u64 0, .int .u64 0, .int .u64 0] 25)
  clear PB
  have PB := PC
  clear PC
  generalize (w2).alloc (.cells #[.int .u64 1, .int .u64 0, .int .u64 0, .int .u64 0] 25) = W3 at *
  generalize w2.heap.size = Bo at *
  refine (RS.out _).mono ?_
  rintro e w4 ⟨rfl, hc⟩
  replace xt := xt.later hc
  replace xz := xz.later hc
  replace xo := xo.later hc
  replace HR := HR.later hc
  have PC := below_step PB hc
  clear PB hc
  have PB := PC
  clear PC
  have lr : w.heap.size + 1 < w4.heap.size := HR.lt
  have jc0 : w4.cell? ⟨w.heap.size + 1, 0, none⟩ = some (.int .u64 0) := HR.cell 0
  have jz0 : w4.frozen? ⟨w.heap.size + 1, 0, none⟩ = false := HR.free 0
  have jc1 : w4.cell? ⟨w.heap.size + 1, 1, none⟩ = some (.int .u64 0) := HR.cell 1
  have jz1 : w4.frozen? ⟨w.heap.size + 1, 1, none⟩ = false := HR.free 1
  have jc2 : w4.cell? ⟨w.heap.size + 1, 2, none⟩ = some (.int .u64 0) := HR.cell 2
  have jz2 : w4.frozen? ⟨w.heap.size + 1, 2, none⟩ = false := HR.free 2
  have jc3 : w4.cell? ⟨w.heap.size + 1, 3, none⟩ = some (.int .u64 0) := HR.cell 3
  have jz3 : w4.frozen? ⟨w.heap.size + 1, 3, none⟩ = false := HR.free 3
  have HPB := Lib.hid PB
  clear PB
  go_wp2_with fail
  have b := below_alloc ((((HPB.out.setCell (p := ⟨w.heap.size + 1, 0, none⟩) (by simp) (.int .u64 18446744073709551615)).setCell (p := ⟨w.heap.size + 1, 1, none⟩) (by simp) (.int .u64 18446744073709551615)).setCell (p := ⟨w.heap.size + 1, 2, none⟩) (by simp) (.int .u64 18446744073709551615)).setCell (p := ⟨w.heap.size + 1, 3, none⟩) (by simp) (.int .u64 18446744073709551615)) (.cells #[.int .u64 18446744073709551615, .int .u64 18446744073709551615, .int .u64 18446744073709551615, .int .u64 18446744073709551615] 25)
  have HS : Holds (((((w4.setCell ⟨w.heap.size + 1, 0, none⟩ (.int .u64 18446744073709551615)).setCell ⟨w.heap.size + 1, 1, none⟩ (.int .u64 18446744073709551615)).setCell ⟨w.heap.size + 1, 2, none⟩ (.int .u64 18446744073709551615)).setCell ⟨w.heap.size + 1, 3, none⟩ (.int .u64 18446744073709551615)).alloc (.cells #[.int .u64 18446744073709551615, .int .u64 18446744073709551615, .int .u64 18446744073709551615, .int .u64 18446744073709551615] 25)) (w.heap.size + 1) #[.int .u64 18446744073709551615, .int .u64 18446744073709551615, .int .u64 18446744073709551615, .int .u64 18446744073709551615] 25 := ((((HR.set _).set _).set _).set _).later ((Below.refl _ _).alloc (Nat.le_refl _) (.cells #[.int .u64 18446744073709551615, .int .u64 18446744073709551615, .int .u64 18446744073709551615, .int .u64 18446744073709551615] 25))
  have jg0 : (((((w4.setCell ⟨w.heap.size + 1, 0, none⟩ (.int .u64 18446744073709551615)).setCell ⟨w.heap.size + 1, 1, none⟩ (.int .u64 18446744073709551615)).setCell ⟨w.heap.size + 1, 2, none⟩ (.int .u64 18446744073709551615)).setCell ⟨w.heap.size + 1, 3, none⟩ (.int .u64 18446744073709551615)).alloc (.cells #[.int .u64 18446744073709551615, .int .u64 18446744073709551615, .int .u64 18446744073709551615, .int .u64 18446744073709551615] 25)).cell? ⟨w.heap.size + 1, 0, none⟩ = some (.int .u64 18446744073709551615) := HS.cell 0
  have jg1 : (((((w4.setCell ⟨w.heap.size + 1, 0, none⟩ (.int .u64 18446744073709551615)).setCell ⟨w.heap.size + 1, 1, none⟩ (.int .u64 18446744073709551615)).setCell ⟨w.heap.size + 1, 2, none⟩ (.int .u64 18446744073709551615)).setCell ⟨w.heap.size + 1, 3, none⟩ (.int .u64 18446744073709551615)).alloc (.cells #[.int .u64 18446744073709551615, .int .u64 18446744073709551615, .int .u64 18446744073709551615, .int .u64 18446744073709551615] 25)).cell? ⟨w.heap.size + 1, 1, none⟩ = some (.int .u64 18446744073709551615) := HS.cell 1
  have jg2 : (((((w4.setCell ⟨w.heap.size + 1, 0, none⟩ (.int .u64 18446744073709551615)).setCell ⟨w.heap.size + 1, 1, none⟩ (.int .u64 18446744073709551615)).setCell ⟨w.heap.size + 1, 2, none⟩ (.int .u64 18446744073709551615)).setCell ⟨w.heap.size + 1, 3, none⟩ (.int .u64 18446744073709551615)).alloc (.cells #[.int .u64 18446744073709551615, .int .u64 18446744073709551615, .int .u64 18446744073709551615, .int .u64 18446744073709551615] 25)).cell? ⟨w.heap.size + 1, 2, none⟩ = some (.int .u64 18446744073709551615) := HS.cell 2
  have jg3 : (((((w4.setCell ⟨w.heap.size + 1, 0, none⟩ (.int .u64 18446744073709551615)).setCell ⟨w.heap.size + 1, 1, none⟩ (.int .u64 18446744073709551615)).setCell ⟨w.heap.size + 1, 2, none⟩ (.int .u64 18446744073709551615)).setCell ⟨w.heap.size + 1, 3, none⟩ (.int .u64 18446744073709551615)).alloc (.cells #[.int .u64 18446744073709551615, .int .u64 18446744073709551615, .int .u64 18446744073709551615, .int .u64 18446744073709551615] 25)).cell? ⟨w.heap.size + 1, 3, none⟩ = some (.int .u64 18446744073709551615) := HS.cell 3
  refine bodyPost_ret (v := .agg #[.int .u64 18446744073709551615, .int .u64 18446744073709551615, .int .u64 18446744073709551615, .int .u64 18446744073709551615]) (by simp [results, Try.results17, go_sem, jg0, jg1, jg2, jg3]) rfl ⟨rfl, b⟩

set_option maxRecDepth 100000 in
set_option maxHeartbeats 8000000 in
theorem rwork_over (t0 t1 t2 t3 : Nat) (w : World) (ez : EqZ t0 t1 t2 t3 false) (hRA : ∀ w : World, Calls Try.prog 32 #[.agg #[.int .u64 (t0 : Nat), .int .u64 (t1 : Nat), .int .u64 (t2 : Nat), .int .u64 (t3 : Nat)], .agg #[.int .u64 1, .int .u64 0, .int .u64 0, .int .u64 0]] w fun e w' => e = .returned (.tuple #[.agg #[.int .u64 0, .int .u64 0, .int .u64 0, .int .u64 0], .bool true]) ∧ Below w.heap.size w w') :
    Calls Try.prog 17 #[.agg #[.int .u64 (t0 : Nat), .int .u64 (t1 : Nat), .int .u64 (t2 : Nat), .int .u64 (t3 : Nat)]] w fun e w' => e = .returned (.agg #[.int .u64 1, .int .u64 0, .int .u64 0, .int .u64 0]) ∧ Below w.heap.size w w' := by
  have RA := Lib.hid hRA
  clear hRA
  unfold EqZ at ez
  go_enter Try.func17, Try.ntmps17
  go_wp2_with fail
  have PB := below3 w #[.int .u64 (t0 : Nat), .int .u64 (t1 : Nat), .int .u64 (t2 : Nat), .int .u64 (t3 : Nat)] #[.int .u64 0, .int .u64 0, .int .u64 0, .int .u64 0] #[.int .u64 0, .int .u64 0, .int .u64 0, .int .u64 0]
  have H0 : Holds (((w.alloc (.cells #[.int .u64 (t0 : Nat), .int .u64 (t1 : Nat), .int .u64 (t2 : Nat), .int .u64 (t3 : Nat)] 25)).alloc (.cells #[.int .u64 0, .int .u64 0, .int .u64 0, .int .u64 0] 25)).alloc (.cells #[.int .u64 0, .int .u64 0, .int .u64 0, .int .u64 0] 25)) w.heap.size #[.int .u64 (t0 : Nat), .int .u64 (t1 : Nat), .int .u64 (t2 : Nat), .int .u64 (t3 : Nat)] 25 := boxes3 w _ _ _ 0 _ rfl
  have HR : Holds (((w.alloc (.cells #[.int .u64 (t0 : Nat), .int .u64 (t1 : Nat), .int .u64 (t2 : Nat), .int .u64 (t3 : Nat)] 25)).alloc (.cells #[.int .u64 0, .int .u64 0, .int .u64 0, .int .u64 0] 25)).alloc (.cells #[.int .u64 0, .int .u64 0, .int .u64 0, .int .u64 0] 25)) (w.heap.size + 1) #[.int .u64 0, .int .u64 0, .int .u64 0, .int .u64 0] 25 := boxes3 w _ _ _ 1 _ rfl
  have H2 : Holds (((w.alloc (.cells #[.int .u64 (t0 : Nat), .int .u64 (t1 : Nat), .int .u64 (t2 : Nat), .int .u64 (t3 : Nat)] 25)).alloc (.cells #[.int .u64 0, .int .u64 0, .int .u64 0, .int .u64 0] 25)).alloc (.cells #[.int .u64 0, .int .u64 0, .int .u64 0, .int .u64 0] 25)) (w.heap.size + 2) #[.int .u64 0, .int .u64 0, .int .u64 0, .int .u64 0] 25 := boxes3 w _ _ _ 2 _ rfl
  have xt : Box (((w.alloc (.cells #[.int .u64 (t0 : Nat), .int .u64 (t1 : Nat), .int .u64 (t2 : Nat), .int .u64 (t3 : Nat)] 25)).alloc (.cells #[.int .u64 0, .int .u64 0, .int .u64 0, .int .u64 0] 25)).alloc (.cells #[.int .u64 0, .int .u64 0, .int .u64 0, .int .u64 0] 25)) w.heap.size t0 t1 t2 t3 := ⟨H0.cell 0, H0.cell 1, H0.cell 2, H0.cell 3⟩
  have xz : Box (((w.alloc (.cells #[.int .u64 (t0 : Nat), .int .u64 (t1 : Nat), .int .u64 (t2 : Nat), .int .u64 (t3 : Nat)] 25)).alloc (.cells #[.int .u64 0, .int .u64 0, .int .u64 0, .int .u64 0] 25)).alloc (.cells #[.int .u64 0, .int .u64 0, .int .u64 0, .int .u64 0] 25)) (w.heap.size + 1 + 1) 0 0 0 0 := ⟨H2.cell 0, H2.cell 1, H2.cell 2, H2.cell 3⟩
  clear H0 H2
  generalize ((w.alloc (.cells #[.int .u64 (t0 : Nat), .int .u64 (t1 : Nat), .int .u64 (t2 : Nat), .int .u64 (t3 : Nat)] 25)).alloc (.cells #[.int .u64 0, .int .u64 0, .int .u64 0, .int .u64 0] 25)).alloc (.cells #[.int .u64 0, .int .u64 0, .int .u64 0, .int .u64 0] 25) = W1 at *
  refine (refof_one _).mono ?_
  rintro e w2 ⟨rfl, hc⟩
  replace xt := xt.later hc
  replace xz := xz.later hc
  replace HR := HR.later hc
  have PC := below_step PB hc
  clear PB hc
  have PB := PC
  clear PC
  have ct := xt
  obtain ⟨ct0, ct1, ct2, ct3⟩ := ct
  have lt := World.block_lt_of_cell? _ _ ct0
  simp only [] at lt
  have cz := xz
  obtain ⟨cz0, cz1, cz2, cz3⟩ := cz
  have lz := World.block_lt_of_cell? _ _ cz0
  simp only [] at lz
  have HPB := Lib.hid PB
  clear PB
  go_wp2_with fail
  have PB := HPB.out
  clear HPB
  clear ct0 ct1 ct2 ct3 cz0 cz1 cz2 cz3 lt lz
  replace xt := xt.alloc (.cells #[.int .u64 1, .int .u64 0, .int .u64 0, .int .u64 0] 25)
  replace xz := xz.alloc (.cells #[.int .u64 1, .int .u64 0, .int .u64 0, .int .u64 0] 25)
  replace HR := HR.later ((Below.refl _ _).alloc (Nat.le_refl _) (.cells #[.int .u64 1, .int .u64 0, .int .u64 0, .int .u64 0] 25))
  have xo := Box.new (w2) 1 0 0 0 25
  have PC := below_alloc PB (.cells #[.int .u64 1, .int .u64 0, .int .u64 0, .int .u64 0] 25)
  clear PB
  have PB := PC
  clear PC
  generalize (w2).alloc (.cells #[.int .u64 1, .int .u64 0, .int .u64 0, .int .u64 0] 25) = W3 at *
  generalize w2.heap.size = Bo at *
  refine (RA.out _).mono ?_
  rintro e w4 ⟨rfl, hc⟩
  replace xt := xt.later hc
  replace xz := xz.later hc
  replace xo := xo.later hc
  replace HR := HR.later hc
  have PC := below_step PB hc
  clear PB hc
  have PB := PC
  clear PC
  have co := xo
  obtain ⟨co0, co1, co2, co3⟩ := co
  have lo := World.block_lt_of_cell? _ _ co0
  simp only [] at lo
  have lr : w.heap.size + 1 < w4.heap.size := HR.lt
  have jc0 : w4.cell? ⟨w.heap.size + 1, 0, none⟩ = some (.int .u64 0) := HR.cell 0
  have jz0 : w4.frozen? ⟨w.heap.size + 1, 0, none⟩ = false := HR.free 0
  have jc1 : w4.cell? ⟨w.heap.size + 1, 1, none⟩ = some (.int .u64 0) := HR.cell 1
  have jz1 : w4.frozen? ⟨w.heap.size + 1, 1, none⟩ = false := HR.free 1
  have jc2 : w4.cell? ⟨w.heap.size + 1, 2, none⟩ = some (.int .u64 0) := HR.cell 2
  have jz2 : w4.frozen? ⟨w.heap.size + 1, 2, none⟩ = false := HR.free 2
  have jc3 : w4.cell? ⟨w.heap.size + 1, 3, none⟩ = some (.int .u64 0) := HR.cell 3
  have jz3 : w4.frozen? ⟨w.heap.size + 1, 3, none⟩ = false := HR.free 3
  have HPB := Lib.hid PB
  clear PB
  go_wp2_with fail
  have b := below_alloc ((((HPB.out.setCell (p := ⟨w.heap.size + 1, 0, none⟩) (by simp) (.int .u64 1)).setCell (p := ⟨w.heap.size + 1, 1, none⟩) (by simp) (.int .u64 0)).setCell (p := ⟨w.heap.size + 1, 2, none⟩) (by simp) (.int .u64 0)).setCell (p := ⟨w.heap.size + 1, 3, none⟩) (by simp) (.int .u64 0)) (.cells #[.int .u64 0, .int .u64 0, .int .u64 0, .int .u64 0] 25)
  have HS : Holds (((((w4.setCell ⟨w.heap.size + 1, 0, none⟩ (.int .u64 1)).setCell ⟨w.heap.size + 1, 1, none⟩ (.int .u64 0)).setCell ⟨w.heap.size + 1, 2, none⟩ (.int .u64 0)).setCell ⟨w.heap.size + 1, 3, none⟩ (.int .u64 0)).alloc (.cells #[.int .u64 0, .int .u64 0, .int .u64 0, .int .u64 0] 25)) (w.heap.size + 1) #[.int .u64 1, .int .u64 0, .int .u64 0, .int .u64 0] 25 := ((((HR.set _).set _).set _).set _).later ((Below.refl _ _).alloc (Nat.le_refl _) (.cells #[.int .u64 0, .int .u64 0, .int .u64 0, .int .u64 0] 25))
  have jg0 : (((((w4.setCell ⟨w.heap.size + 1, 0, none⟩ (.int .u64 1)).setCell ⟨w.heap.size + 1, 1, none⟩ (.int .u64 0)).setCell ⟨w.heap.size + 1, 2, none⟩ (.int .u64 0)).setCell ⟨w.heap.size + 1, 3, none⟩ (.int .u64 0)).alloc (.cells #[.int .u64 0, .int .u64 0, .int .u64 0, .int .u64 0] 25)).cell? ⟨w.heap.size + 1, 0, none⟩ = some (.int .u64 1) := HS.cell 0
  have jg1 : (((((w4.setCell ⟨w.heap.size + 1, 0, none⟩ (.int .u64 1)).setCell ⟨w.heap.size + 1, 1, none⟩ (.int .u64 0)).setCell ⟨w.heap.size + 1, 2, none⟩ (.int .u64 0)).setCell ⟨w.heap.size + 1, 3, none⟩ (.int .u64 0)).alloc (.cells #[.int .u64 0, .int .u64 0, .int .u64 0, .int .u64 0] 25)).cell? ⟨w.heap.size + 1, 1, none⟩ = some (.int .u64 0) := HS.cell 1
  have jg2 : (((((w4.setCell ⟨w.heap.size + 1, 0, none⟩ (.int .u64 1)).setCell ⟨w.heap.size + 1, 1, none⟩ (.int .u64 0)).setCell ⟨w.heap.size + 1, 2, none⟩ (.int .u64 0)).setCell ⟨w.heap.size + 1, 3, none⟩ (.int .u64 0)).alloc (.cells #[.int .u64 0, .int .u64 0, .int .u64 0, .int .u64 0] 25)).cell? ⟨w.heap.size + 1, 2, none⟩ = some (.int .u64 0) := HS.cell 2
  have jg3 : (((((w4.setCell ⟨w.heap.size + 1, 0, none⟩ (.int .u64 1)).setCell ⟨w.heap.size + 1, 1, none⟩ (.int .u64 0)).setCell ⟨w.heap.size + 1, 2, none⟩ (.int .u64 0)).setCell ⟨w.heap.size + 1, 3, none⟩ (.int .u64 0)).alloc (.cells #[.int .u64 0, .int .u64 0, .int .u64 0, .int .u64 0] 25)).cell? ⟨w.heap.size + 1, 3, none⟩ = some (.int .u64 0) := HS.cell 3
  refine bodyPost_ret (v := .agg #[.int .u64 1, .int .u64 0, .int .u64 0, .int .u64 0]) (by simp [results, Try.results17, go_sem, jg0, jg1, jg2, jg3]) rfl ⟨rfl, b⟩

set_option maxRecDepth 100000 in
set_option maxHeartbeats 8000000 in
theorem rwork_all (t0 t1 t2 t3 n0 n1 n2 n3 l0 l1 l2 l3 q0 q1 q2 q3 r0 r1 r2 r3 k0 k1 k2 k3 : Nat) (o : Bool) (p : Bool) (w : World) (ez : EqZ t0 t1 t2 t3 false) (hRA : ∀ w : World, Calls Try.prog 32 #[.agg #[.int .u64 (t0 : Nat), .int .u64 (t1 : Nat), .int .u64 (t2 : Nat), .int .u64 (t3 : Nat)], .agg #[.int .u64 1, .int .u64 0, .int .u64 0, .int .u64 0]] w fun e w' => e = .returned (.tuple #[.agg #[.int .u64 (n0 : Nat), .int .u64 (n1 : Nat), .int .u64 (n2 : Nat), .int .u64 (n3 : Nat)], .bool false]) ∧ Below w.heap.size w w') (hRS : ∀ w : World, Calls Try.prog 34 #[.agg #[.int .u64 0, .int .u64 0, .int .u64 0, .int .u64 0], .agg #[.int .u64 (n0 : Nat), .int .u64 (n1 : Nat), .int .u64 (n2 : Nat), .int .u64 (n3 : Nat)]] w fun e w' => e = .returned (.tuple #[.agg #[.int .u64 (l0 : Nat), .int .u64 (l1 : Nat), .int .u64 (l2 : Nat), .int .u64 (l3 : Nat)], .bool o]) ∧ Below w.heap.size w w') (hRD : ∀ w : World, Calls Try.prog 35 #[.agg #[.int .u64 (l0 : Nat), .int .u64 (l1 : Nat), .int .u64 (l2 : Nat), .int .u64 (l3 : Nat)], .agg #[.int .u64 (n0 : Nat), .int .u64 (n1 : Nat), .int .u64 (n2 : Nat), .int .u64 (n3 : Nat)]] w fun e w' => e = .returned (.tuple #[.agg #[.int .u64 (q0 : Nat), .int .u64 (q1 : Nat), .int .u64 (q2 : Nat), .int .u64 (q3 : Nat)], .agg #[.int .u64 (r0 : Nat), .int .u64 (r1 : Nat), .int .u64 (r2 : Nat), .int .u64 (r3 : Nat)], .int .i64 0]) ∧ Below w.heap.size w w') (hRB : ∀ w : World, Calls Try.prog 32 #[.agg #[.int .u64 (q0 : Nat), .int .u64 (q1 : Nat), .int .u64 (q2 : Nat), .int .u64 (q3 : Nat)], .agg #[.int .u64 1, .int .u64 0, .int .u64 0, .int .u64 0]] w fun e w' => e = .returned (.tuple #[.agg #[.int .u64 (k0 : Nat), .int .u64 (k1 : Nat), .int .u64 (k2 : Nat), .int .u64 (k3 : Nat)], .bool p]) ∧ Below w.heap.size w w') :
    Calls Try.prog 17 #[.agg #[.int .u64 (t0 : Nat), .int .u64 (t1 : Nat), .int .u64 (t2 : Nat), .int .u64 (t3 : Nat)]] w fun e w' => e = .returned (.agg #[.int .u64 (k0 : Nat), .int .u64 (k1 : Nat), .int .u64 (k2 : Nat), .int .u64 (k3 : Nat)]) ∧ Below w.heap.size w w' := by
  have RA := Lib.hid hRA
  have RS := Lib.hid hRS
  have RD := Lib.hid hRD
  have RB := Lib.hid hRB
  clear hRA hRS hRD hRB
  unfold EqZ at ez
  go_enter Try.func17, Try.ntmps17
  go_wp2_with fail
  have PB := below3 w #[.int .u64 (t0 : Nat), .int .u64 (t1 : Nat), .int .u64 (t2 : Nat), .int .u64 (t3 : Nat)] #[.int .u64 0, .int .u64 0, .int .u64 0, .int .u64 0] #[.int .u64 0, .int .u64 0, .int .u64 0, .int .u64 0]
  have H0 : Holds (((w.alloc (.cells #[.int .u64 (t0 : Nat), .int .u64 (t1 : Nat), .int .u64 (t2 : Nat), .int .u64 (t3 : Nat)] 25)).alloc (.cells #[.int .u64 0, .int .u64 0, .int .u64 0, .int .u64 0] 25)).alloc (.cells #[.int .u64 0, .int .u64 0, .int .u64 0, .int .u64 0] 25)) w.heap.size #[.int .u64 (t0 : Nat), .int .u64 (t1 : Nat), .int .u64 (t2 : Nat), .int .u64 (t3 : Nat)] 25 := boxes3 w _ _ _ 0 _ rfl
  have HR : Holds (((w.alloc (.cells #[.int .u64 (t0 : Nat), .int .u64 (t1 : Nat), .int .u64 (t2 : Nat), .int .u64 (t3 : Nat)] 25)).alloc (.cells #[.int .u64 0, .int .u64 0, .int .u64 0, .int .u64 0] 25)).alloc (.cells #[.int .u64 0, .int .u64 0, .int .u64 0, .int .u64 0] 25)) (w.heap.size + 1) #[.int .u64 0, .int .u64 0, .int .u64 0, .int .u64 0] 25 := boxes3 w _ _ _ 1 _ rfl
  have H2 : Holds (((w.alloc (.cells #[.int .u64 (t0 : Nat), .int .u64 (t1 : Nat), .int .u64 (t2 : Nat), .int .u64 (t3 : Nat)] 25)).alloc (.cells #[.int .u64 0, .int .u64 0, .int .u64 0, .int .u64 0] 25)).alloc (.cells #[.int .u64 0, .int .u64 0, .int .u64 0, .int .u64 0] 25)) (w.heap.size + 2) #[.int .u64 0, .int .u64 0, .int .u64 0, .int .u64 0] 25 := boxes3 w _ _ _ 2 _ rfl
  have xt : Box (((w.alloc (.cells #[.int .u64 (t0 : Nat), .int .u64 (t1 : Nat), .int .u64 (t2 : Nat), .int .u64 (t3 : Nat)] 25)).alloc (.cells #[.int .u64 0, .int .u64 0, .int .u64 0, .int .u64 0] 25)).alloc (.cells #[.int .u64 0, .int .u64 0, .int .u64 0, .int .u64 0] 25)) w.heap.size t0 t1 t2 t3 := ⟨H0.cell 0, H0.cell 1, H0.cell 2, H0.cell 3⟩
  have xz : Box (((w.alloc (.cells #[.int .u64 (t0 : Nat), .int .u64 (t1 : Nat), .int .u64 (t2 : Nat), .int .u64 (t3 : Nat)] 25)).alloc (.cells #[.int .u64 0, .int .u64 0, .int .u64 0, .int .u64 0] 25)).alloc (.cells #[.int .u64 0, .int .u64 0, .int .u64 0, .int .u64 0] 25)) (w.heap.size + 1 + 1) 0 0 0 0 := ⟨H2.cell 0, H2.cell 1, H2.cell 2, H2.cell 3⟩
  clear H0 H2
  generalize ((w.alloc (.cells #[.int .u64 (t0 : Nat), .int .u64 (t1 : Nat), .int .u64 (t2 : Nat), .int .u64 (t3 : Nat)] 25)).alloc (.cells #[.int .u64 0, .int .u64 0, .int .u64 0, .int .u64 0] 25)).alloc (.cells #[.int .u64 0, .int .u64 0, .int .u64 0, .int .u64 0] 25) = W1 at *
  refine (refof_one _).mono ?_
  rintro e w2 ⟨rfl, hc⟩
  replace xt := xt.later hc
  replace xz := xz.later hc
  replace HR := HR.later hc
  have PC := below_step PB hc
  clear PB hc
  have PB := PC
  clear PC
  have ct := xt
  obtain ⟨ct0, ct1, ct2, ct3⟩ := ct
  have lt := World.block_lt_of_cell? _ _ ct0
  simp only [] at lt
  have cz := xz
  obtain ⟨cz0, cz1, cz2, cz3⟩ := cz
  have lz := World.block_lt_of_cell? _ _ cz0
  simp only [] at lz
  have HPB := Lib.hid PB
  clear PB
  go_wp2_with fail
  have PB := HPB.out
  clear HPB
  clear ct0 ct1 ct2 ct3 cz0 cz1 cz2 cz3 lt lz
  replace xt := xt.alloc (.cells #[.int .u64 1, .int .u64 0, .int .u64 0, .int .u64 0] 25)
  replace xz := xz.alloc (.cells #[.int .u64 1, .int .u64 0, .int .u64 0, .int .u64 0] 25)
  replace HR := HR.later ((Below.refl _ _).alloc (Nat.le_refl _) (.cells #[.int .u64 1, .int .u64 0, .int .u64 0, .int .u64 0] 25))
  have xo := Box.new (w2) 1 0 0 0 25
  have PC := below_alloc PB (.cells #[.int .u64 1, .int .u64 0, .int .u64 0, .int .u64 0] 25)
  clear PB
  have PB := PC
  clear PC
  generalize (w2).alloc (.cells #[.int .u64 1, .int .u64 0, .int .u64 0, .int .u64 0] 25) = W3 at *
  generalize w2.heap.size = Bo at *
  refine (RA.out _).mono ?_
  rintro e w4 ⟨rfl, hc⟩
  replace xt := xt.later hc
  replace xz := xz.later hc
  replace xo := xo.later hc
  replace HR := HR.later hc
  have PC := below_step PB hc
  clear PB hc
  have PB := PC
  clear PC
  have cz := xz
  obtain ⟨cz0, cz1, cz2, cz3⟩ := cz
  have lz := World.block_lt_of_cell? _ _ cz0
  simp only [] at lz
  have HPB := Lib.hid PB
  clear PB
  go_wp2_with fail
  have PB := HPB.out
  clear HPB
  clear cz0 cz1 cz2 cz3 lz
  replace xt := xt.alloc (.cells #[.int .u64 (n0 : Nat), .int .u64 (n1 : Nat), .int .u64 (n2 : Nat), .int .u64 (n3 : Nat)] 25)
  replace xz := xz.alloc (.cells #[.int .u64 (n0 : Nat), .int .u64 (n1 : Nat), .int .u64 (n2 : Nat), .int .u64 (n3 : Nat)] 25)
  replace xo := xo.alloc (.cells #[.int .u64 (n0 : Nat), .int .u64 (n1 : Nat), .int .u64 (n2 : Nat), .int .u64 (n3 : Nat)] 25)
  replace HR := HR.later ((Below.refl _ _).alloc (Nat.le_refl _) (.cells #[.int .u64 (n0 : Nat), .int .u64 (n1 : Nat), .int .u64 (n2 : Nat), .int .u64 (n3 : Nat)] 25))
  have xn := Box.new (w4) (n0 : Nat) (n1 : Nat) (n2 : Nat) (n3 : Nat) 25
  have PC := below_alloc PB (.cells #[.int .u64 (n0 : Nat), .int .u64 (n1 : Nat), .int .u64 (n2 : Nat), .int .u64 (n3 : Nat)] 25)
  clear PB
  have PB := PC
  clear PC
  generalize (w4).alloc (.cells #[.int .u64 (n0 : Nat), .int .u64 (n1 : Nat), .int .u64 (n2 : Nat), .int .u64 (n3 : Nat)] 25) = W5 at *
  generalize w4.heap.size = Bn at *
  refine (RS.out _).mono ?_
  rintro e w6 ⟨rfl, hc⟩
  replace xt := xt.later hc
  replace xz := xz.later hc
  replace xo := xo.later hc
  replace xn := xn.later hc
  replace HR := HR.later hc
  have PC := below_step PB hc
  clear PB hc
  have PB := PC
  clear PC
  have cn := xn
  obtain ⟨cn0, cn1, cn2, cn3⟩ := cn
  have ln := World.block_lt_of_cell? _ _ cn0
  simp only [] at ln
  have HPB := Lib.hid PB
  clear PB
  go_wp2_with fail
  have PB := HPB.out
  clear HPB
  clear cn0 cn1 cn2 cn3 ln
  replace xt := xt.alloc (.cells #[.int .u64 (l0 : Nat), .int .u64 (l1 : Nat), .int .u64 (l2 : Nat), .int .u64 (l3 : Nat)] 25)
  replace xz := xz.alloc (.cells #[.int .u64 (l0 : Nat), .int .u64 (l1 : Nat), .int .u64 (l2 : Nat), .int .u64 (l3 : Nat)] 25)
  replace xo := xo.alloc (.cells #[.int .u64 (l0 : Nat), .int .u64 (l1 : Nat), .int .u64 (l2 : Nat), .int .u64 (l3 : Nat)] 25)
  replace xn := xn.alloc (.cells #[.int .u64 (l0 : Nat), .int .u64 (l1 : Nat), .int .u64 (l2 : Nat), .int .u64 (l3 : Nat)] 25)
  replace HR := HR.later ((Below.refl _ _).alloc (Nat.le_refl _) (.cells #[.int .u64 (l0 : Nat), .int .u64 (l1 : Nat), .int .u64 (l2 : Nat), .int .u64 (l3 : Nat)] 25))
  have xl := Box.new (w6) (l0 : Nat) (l1 : Nat) (l2 : Nat) (l3 : Nat) 25
  have PC := below_alloc PB (.cells #[.int .u64 (l0 : Nat), .int .u64 (l1 : Nat), .int .u64 (l2 : Nat), .int .u64 (l3 : Nat)] 25)
  clear PB
  have PB := PC
  clear PC
  generalize (w6).alloc (.cells #[.int .u64 (l0 : Nat), .int .u64 (l1 : Nat), .int .u64 (l2 : Nat), .int .u64 (l3 : Nat)] 25) = W7 at *
  generalize w6.heap.size = Bl at *
  refine (RD.out _).mono ?_
  rintro e w8 ⟨rfl, hc⟩
  replace xt := xt.later hc
  replace xz := xz.later hc
  replace xo := xo.later hc
  replace xn := xn.later hc
  replace xl := xl.later hc
  replace HR := HR.later hc
  have PC := below_step PB hc
  clear PB hc
  have PB := PC
  clear PC
  have co := xo
  obtain ⟨co0, co1, co2, co3⟩ := co
  have lo := World.block_lt_of_cell? _ _ co0
  simp only [] at lo
  have HPB := Lib.hid PB
  clear PB
  go_wp2_with fail
  have PB := HPB.out
  clear HPB
  clear co0 co1 co2 co3 lo
  replace xt := xt.alloc (.cells #[.int .u64 (q0 : Nat), .int .u64 (q1 : Nat), .int .u64 (q2 : Nat), .int .u64 (q3 : Nat)] 25)
  replace xz := xz.alloc (.cells #[.int .u64 (q0 : Nat), .int .u64 (q1 : Nat), .int .u64 (q2 : Nat), .int .u64 (q3 : Nat)] 25)
  replace xo := xo.alloc (.cells #[.int .u64 (q0 : Nat), .int .u64 (q1 : Nat), .int .u64 (q2 : Nat), .int .u64 (q3 : Nat)] 25)
  replace xn := xn.alloc (.cells #[.int .u64 (q0 : Nat), .int .u64 (q1 : Nat), .int .u64 (q2 : Nat), .int .u64 (q3 : Nat)] 25)
  replace xl := xl.alloc (.cells #[.int .u64 (q0 : Nat), .int .u64 (q1 : Nat), .int .u64 (q2 : Nat), .int .u64 (q3 : Nat)] 25)
  replace HR := HR.later ((Below.refl _ _).alloc (Nat.le_refl _) (.cells #[.int .u64 (q0 : Nat), .int .u64 (q1 : Nat), .int .u64 (q2 : Nat), .int .u64 (q3 : Nat)] 25))
  have xq := Box.new (w8) (q0 : Nat) (q1 : Nat) (q2 : Nat) (q3 : Nat) 25
  have PC := below_alloc PB (.cells #[.int .u64 (q0 : Nat), .int .u64 (q1 : Nat), .int .u64 (q2 : Nat), .int .u64 (q3 : Nat)] 25)
  clear PB
  have PB := PC
  clear PC
  replace xt := xt.alloc (.cells #[.int .u64 (r0 : Nat), .int .u64 (r1 : Nat), .int .u64 (r2 : Nat), .int .u64 (r3 : Nat)] 25)
  replace xz := xz.alloc (.cells #[.int .u64 (r0 : Nat), .int .u64 (r1 : Nat), .int .u64 (r2 : Nat), .int .u64 (r3 : Nat)] 25)
  replace xo := xo.alloc (.cells #[.int .u64 (r0 : Nat), .int .u64 (r1 : Nat), .int .u64 (r2 : Nat), .int .u64 (r3 : Nat)] 25)
  replace xn := xn.alloc (.cells #[.int .u64 (r0 : Nat), .int .u64 (r1 : Nat), .int .u64 (r2 : Nat), .int .u64 (r3 : Nat)] 25)
  replace xl := xl.alloc (.cells #[.int .u64 (r0 : Nat), .int .u64 (r1 : Nat), .int .u64 (r2 : Nat), .int .u64 (r3 : Nat)] 25)
  replace xq := xq.alloc (.cells #[.int .u64 (r0 : Nat), .int .u64 (r1 : Nat), .int .u64 (r2 : Nat), .int .u64 (r3 : Nat)] 25)
  replace HR := HR.later ((Below.refl _ _).alloc (Nat.le_refl _) (.cells #[.int .u64 (r0 : Nat), .int .u64 (r1 : Nat), .int .u64 (r2 : Nat), .int .u64 (r3 : Nat)] 25))
  have xr := Box.new ((w8).alloc (.cells #[.int .u64 (q0 : Nat), .int .u64 (q1 : Nat), .int .u64 (q2 : Nat), .int .u64 (q3 : Nat)] 25)) (r0 : Nat) (r1 : Nat) (r2 : Nat) (r3 : Nat) 25
  simp only [World.size_alloc] at xr
  have PC := below_alloc PB (.cells #[.int .u64 (r0 : Nat), .int .u64 (r1 : Nat), .int .u64 (r2 : Nat), .int .u64 (r3 : Nat)] 25)
  clear PB
  have PB := PC
  clear PC
  generalize ((w8).alloc (.cells #[.int .u64 (q0 : Nat), .int .u64 (q1 : Nat), .int .u64 (q2 : Nat), .int .u64 (q3 : Nat)] 25)).alloc (.cells #[.int .u64 (r0 : Nat), .int .u64 (r1 : Nat), .int .u64 (r2 : Nat), .int .u64 (r3 : Nat)] 25) = W9 at *
  generalize w8.heap.size + 1 = Br at *
  generalize w8.heap.size = Bq at *
  refine (RB.out _).mono ?_
  rintro e w10 ⟨rfl, hc⟩
  replace xt := xt.later hc
  replace xz := xz.later hc
  replace xo := xo.later hc
  replace xn := xn.later hc
  replace xl := xl.later hc
  replace xq := xq.later hc
  replace xr := xr.later hc
  replace HR := HR.later hc
  have PC := below_step PB hc
  clear PB hc
  have PB := PC
  clear PC
  have lr : w.heap.size + 1 < w10.heap.size := HR.lt
  have jc0 : w10.cell? ⟨w.heap.size + 1, 0, none⟩ = some (.int .u64 0) := HR.cell 0
  have jz0 : w10.frozen? ⟨w.heap.size + 1, 0, none⟩ = false := HR.free 0
  have jc1 : w10.cell? ⟨w.heap.size + 1, 1, none⟩ = some (.int .u64 0) := HR.cell 1
  have jz1 : w10.frozen? ⟨w.heap.size + 1, 1, none⟩ = false := HR.free 1
  have jc2 : w10.cell? ⟨w.heap.size + 1, 2, none⟩ = some (.int .u64 0) := HR.cell 2
  have jz2 : w10.frozen? ⟨w.heap.size + 1, 2, none⟩ = false := HR.free 2
  have jc3 : w10.cell? ⟨w.heap.size + 1, 3, none⟩ = some (.int .u64 0) := HR.cell 3
  have jz3 : w10.frozen? ⟨w.heap.size + 1, 3, none⟩ = false := HR.free 3
  have HPB := Lib.hid PB
  clear PB
  go_wp2_with fail
  have b := below_alloc ((((HPB.out.setCell (p := ⟨w.heap.size + 1, 0, none⟩) (by simp) (.int .u64 (k0 : Nat))).setCell (p := ⟨w.heap.size + 1, 1, none⟩) (by simp) (.int .u64 (k1 : Nat))).setCell (p := ⟨w.heap.size + 1, 2, none⟩) (by simp) (.int .u64 (k2 : Nat))).setCell (p := ⟨w.heap.size + 1, 3, none⟩) (by simp) (.int .u64 (k3 : Nat))) (.cells #[.int .u64 (k0 : Nat), .int .u64 (k1 : Nat), .int .u64 (k2 : Nat), .int .u64 (k3 : Nat)] 25)
  have HS : Holds (((((w10.setCell ⟨w.heap.size + 1, 0, none⟩ (.int .u64 (k0 : Nat))).setCell ⟨w.heap.size + 1, 1, none⟩ (.int .u64 (k1 : Nat))).setCell ⟨w.heap.size + 1, 2, none⟩ (.int .u64 (k2 : Nat))).setCell ⟨w.heap.size + 1, 3, none⟩ (.int .u64 (k3 : Nat))).alloc (.cells #[.int .u64 (k0 : Nat), .int .u64 (k1 : Nat), .int .u64 (k2 : Nat), .int .u64 (k3 : Nat)] 25)) (w.heap.size + 1) #[.int .u64 (k0 : Nat), .int .u64 (k1 : Nat), .int .u64 (k2 : Nat), .int .u64 (k3 : Nat)] 25 := ((((HR.set _).set _).set _).set _).later ((Below.refl _ _).alloc (Nat.le_refl _) (.cells #[.int .u64 (k0 : Nat), .int .u64 (k1 : Nat), .int .u64 (k2 : Nat), .int .u64 (k3 : Nat)] 25))
  have jg0 : (((((w10.setCell ⟨w.heap.size + 1, 0, none⟩ (.int .u64 (k0 : Nat))).setCell ⟨w.heap.size + 1, 1, none⟩ (.int .u64 (k1 : Nat))).setCell ⟨w.heap.size + 1, 2, none⟩ (.int .u64 (k2 : Nat))).setCell ⟨w.heap.size + 1, 3, none⟩ (.int .u64 (k3 : Nat))).alloc (.cells #[.int .u64 (k0 : Nat), .int .u64 (k1 : Nat), .int .u64 (k2 : Nat), .int .u64 (k3 : Nat)] 25)).cell? ⟨w.heap.size + 1, 0, none⟩ = some (.int .u64 (k0 : Nat)) := HS.cell 0
  have jg1 : (((((w10.setCell ⟨w.heap.size + 1, 0, none⟩ (.int .u64 (k0 : Nat))).setCell ⟨w.heap.size + 1, 1, none⟩ (.int .u64 (k1 : Nat))).setCell ⟨w.heap.size + 1, 2, none⟩ (.int .u64 (k2 : Nat))).setCell ⟨w.heap.size + 1, 3, none⟩ (.int .u64 (k3 : Nat))).alloc (.cells #[.int .u64 (k0 : Nat), .int .u64 (k1 : Nat), .int .u64 (k2 : Nat), .int .u64 (k3 : Nat)] 25)).cell? ⟨w.heap.size + 1, 1, none⟩ = some (.int .u64 (k1 : Nat)) := HS.cell 1
  have jg2 : (((((w10.setCell ⟨w.heap.size + 1, 0, none⟩ (.int .u64 (k0 : Nat))).setCell ⟨w.heap.size + 1, 1, none⟩ (.int .u64 (k1 : Nat))).setCell ⟨w.heap.size + 1, 2, none⟩ (.int .u64 (k2 : Nat))).setCell ⟨w.heap.size + 1, 3, none⟩ (.int .u64 (k3 : Nat))).alloc (.cells #[.int .u64 (k0 : Nat), .int .u64 (k1 : Nat), .int .u64 (k2 : Nat), .int .u64 (k3 : Nat)] 25)).cell? ⟨w.heap.size + 1, 2, none⟩ = some (.int .u64 (k2 : Nat)) := HS.cell 2
  have jg3 : (((((w10.setCell ⟨w.heap.size + 1, 0, none⟩ (.int .u64 (k0 : Nat))).setCell ⟨w.heap.size + 1, 1, none⟩ (.int .u64 (k1 : Nat))).setCell ⟨w.heap.size + 1, 2, none⟩ (.int .u64 (k2 : Nat))).setCell ⟨w.heap.size + 1, 3, none⟩ (.int .u64 (k3 : Nat))).alloc (.cells #[.int .u64 (k0 : Nat), .int .u64 (k1 : Nat), .int .u64 (k2 : Nat), .int .u64 (k3 : Nat)] 25)).cell? ⟨w.heap.size + 1, 3, none⟩ = some (.int .u64 (k3 : Nat)) := HS.cell 3
  refine bodyPost_ret (v := .agg #[.int .u64 (k0 : Nat), .int .u64 (k1 : Nat), .int .u64 (k2 : Nat), .int .u64 (k3 : Nat)]) (by simp [results, Try.results17, go_sem, jg0, jg1, jg2, jg3]) rfl ⟨rfl, b⟩

def RWorkIs (x0 x1 x2 x3 k0 k1 k2 k3 : Nat) : Prop := ∀ w : World, Calls Try.prog 17 #[.agg #[.int .u64 (x0 : Nat), .int .u64 (x1 : Nat), .int .u64 (x2 : Nat), .int .u64 (x3 : Nat)]] w fun e w' => e = .returned (.agg #[.int .u64 (k0 : Nat), .int .u64 (k1 : Nat), .int .u64 (k2 : Nat), .int .u64 (k3 : Nat)]) ∧ Below w.heap.size w w'
theorem rworkIs {t0 t1 t2 t3 k0 k1 k2 k3 : Nat} (ht : Words t0 t1 t2 t3) (hk : Words k0 k1 k2 k3) (h : val k0 k1 k2 k3 = workOf (val t0 t1 t2 t3)) : RWorkIs t0 t1 t2 t3 k0 k1 k2 k3 := by
  intro w
  have wm : Words 18446744073709551615 18446744073709551615 18446744073709551615 18446744073709551615 := ⟨by omega, by omega, by omega, by omega⟩
  have vm : val 18446744073709551615 18446744073709551615 18446744073709551615 18446744073709551615 = 115792089237316195423570985008687907853269984665640564039457584007913129639936 - 1 := by decide
  have lt := val_lt ht
  have w1 : Words 1 0 0 0 := ⟨by omega, by omega, by omega, by omega⟩
  have w0 : Words 0 0 0 0 := ⟨by omega, by omega, by omega, by omega⟩
  have v1 : val 1 0 0 0 = 1 := rfl
  have v0 : val 0 0 0 0 = 0 := rfl
  have radd : ∀ {x0 x1 x2 x3 s0 s1 s2 s3 : Nat} (o : Bool), Words x0 x1 x2 x3 → Words s0 s1 s2 s3 → val s0 s1 s2 s3 = (val x0 x1 x2 x3 + 1) % 115792089237316195423570985008687907853269984665640564039457584007913129639936 → o = decide (115792089237316195423570985008687907853269984665640564039457584007913129639936 ≤ val x0 x1 x2 x3 + 1) → ∀ w : World, Calls Try.prog 32 #[.agg #[.int .u64 (x0 : Nat), .int .u64 (x1 : Nat), .int .u64 (x2 : Nat), .int .u64 (x3 : Nat)], .agg #[.int .u64 1, .int .u64 0, .int .u64 0, .int .u64 0]] w fun e w' => e = .returned (.tuple #[.agg #[.int .u64 (s0 : Nat), .int .u64 (s1 : Nat), .int .u64 (s2 : Nat), .int .u64 (s3 : Nat)], .bool o]) ∧ Below w.heap.size w w' := fun {x0 x1 x2 x3 s0 s1 s2 s3} o hx hs he ho w =>
    (refadd_any hx w1 o (by rw [v1]; exact ho) w).mono fun e w' ⟨p0, p1, p2, p3, e1, wp, vp, hbl⟩ => by
      rw [v1, ← he] at vp
      obtain ⟨rfl, rfl, rfl, rfl⟩ := val_inj wp hs vp
      exact ⟨e1, hbl⟩
  unfold workOf at h
  by_cases z : val t0 t1 t2 t3 = 0
  · rw [if_pos z, ← vm] at h
    obtain ⟨rfl, rfl, rfl, rfl⟩ := val_inj hk wm h
    exact rwork_zero t0 t1 t2 t3 _ w (eqZ ht true (by symm; rw [decide_eq_true_iff]; exact z)) (rsubIs w0 w1 wm (by rw [vm, v0, v1]))
  · rw [if_neg z] at h
    have ez := eqZ ht false (by symm; rw [decide_eq_false_iff_not]; exact z)
    by_cases top : val t0 t1 t2 t3 = 115792089237316195423570985008687907853269984665640564039457584007913129639936 - 1
    · rw [top] at h
      rw [show (115792089237316195423570985008687907853269984665640564039457584007913129639936 - 1 - (115792089237316195423570985008687907853269984665640564039457584007913129639936 - 1)) / (115792089237316195423570985008687907853269984665640564039457584007913129639936 - 1 + 1) + 1 = 1 by decide] at h
      obtain ⟨rfl, rfl, rfl, rfl⟩ := val_inj hk w1 (h.trans v1.symm)
      exact rwork_over t0 t1 t2 t3 w ez (radd true ht w0 (by rw [top, v0]) (by rw [top]; rfl))
    · obtain ⟨n0, n1, n2, n3, wn, en⟩ := words_of (x := val t0 t1 t2 t3 + 1) (by omega)
      obtain ⟨l0, l1, l2, l3, wl, el⟩ := words_of (x := 115792089237316195423570985008687907853269984665640564039457584007913129639936 - 1 - val t0 t1 t2 t3) (by omega)
      obtain ⟨q0, q1, q2, q3, wq, eq⟩ := words_of (x := (115792089237316195423570985008687907853269984665640564039457584007913129639936 - 1 - val t0 t1 t2 t3) / (val t0 t1 t2 t3 + 1)) (Nat.lt_of_le_of_lt (Nat.div_le_self _ _) (by omega))
      obtain ⟨r0, r1, r2, r3, wr, er⟩ := words_of (x := (115792089237316195423570985008687907853269984665640564039457584007913129639936 - 1 - val t0 t1 t2 t3) % (val t0 t1 t2 t3 + 1)) (Nat.lt_of_le_of_lt (Nat.mod_le _ _) (by omega))
      have kl := val_lt hk
      have nz : val n0 n1 n2 n3 ≠ 0 := by omega
      refine rwork_all t0 t1 t2 t3 n0 n1 n2 n3 l0 l1 l2 l3 q0 q1 q2 q3 r0 r1 r2 r3 k0 k1 k2 k3 _ _ w ez (radd false ht wn (by rw [en, Nat.mod_eq_of_lt (by omega)]) (by symm; rw [decide_eq_false_iff_not]; omega)) (rsubIs w0 wn wl (by rw [v0, en, el]; omega)) (fun w => ?_) (radd _ wq hk (by rw [h, eq, Nat.mod_eq_of_lt (by rw [← h]; exact kl)]) rfl)
      refine (refdiv_any wl wn (by omega) (eqZ wn false (by symm; rw [decide_eq_false_iff_not]; exact nz)) w).mono fun e w' ⟨p0, p1, p2, p3, s0, s1, s2, s3, he, wp, ws, vp, vs, hbl⟩ => ?_
      obtain ⟨rfl, rfl, rfl, rfl⟩ := val_inj wp wq (by rw [vp, el, en, eq])
      obtain ⟨rfl, rfl, rfl, rfl⟩ := val_inj ws wr (by rw [vs, el, en, er])
      exact ⟨he, hbl⟩

end Go.Proofs.Ytnipajfglmahiaa
