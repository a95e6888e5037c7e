/- Meets of the package target: is a hash not above a target? At every hash and every target. No condition. -/
import Derived.Test.YtnipajfglmahiaaTWork
import Derived.Test.YtnipajfglmahiaaHash
namespace Go.Proofs.Ytnipajfglmahiaa
open Go.RowKit

/-- A whole array that is read in a region that leaves its order open. -/
theorem quiet_load_row {P : Program} {o : Oper} {a : Act} {C : World → Prop} {K : Act → Prop} (ty : TypeId) (x : Operand) (ho : o.op = .load ty x) (g : Nat) (hx : a.eval x = .pointer (some ⟨g, 0, none⟩)) (t : TypeId) (cs : Array Value) (d : TypeDesc)
    (hC : ∀ w, C w → Holds w g cs t) (hu : P.underlying ty = some d) (hd : (match d with | .struct _ | .array _ _ => true | _ => false) = true) (hi : (P.info? ty).map (·.size) = some cs.size) (hk : K (a.put o.dst (.agg cs))) : o.quiet P a C K :=
  ⟨.agg cs, fun w hw => by
    unfold Oper.quietAt execOp
    simp only [ho, hx, Instr.loadAt, Instr.sureAddr, Sem.run_bind, Sem.run_pure, Result.andThen_ok, run_loadVar_row w g t ty cs (0, 0) d (hC w hw) hu hd hi]
    exact ⟨rfl, rfl⟩, hk⟩

def MeetsIs (hb : Nat → Nat) (t0 t1 t2 t3 : Nat) (r : Bool) : Prop := ∀ w : World, Calls Try.prog 18 #[.agg #[.int .u8 (hb 0 : Nat), .int .u8 (hb 1 : Nat), .int .u8 (hb 2 : Nat), .int .u8 (hb 3 : Nat), .int .u8 (hb 4 : Nat), .int .u8 (hb 5 : Nat), .int .u8 (hb 6 : Nat), .int .u8 (hb 7 : Nat), .int .u8 (hb 8 : Nat), .int .u8 (hb 9 : Nat), .int .u8 (hb 10 : Nat), .int .u8 (hb 11 : Nat), .int .u8 (hb 12 : Nat), .int .u8 (hb 13 : Nat), .int .u8 (hb 14 : Nat), .int .u8 (hb 15 : Nat), .int .u8 (hb 16 : Nat), .int .u8 (hb 17 : Nat), .int .u8 (hb 18 : Nat), .int .u8 (hb 19 : Nat), .int .u8 (hb 20 : Nat), .int .u8 (hb 21 : Nat), .int .u8 (hb 22 : Nat), .int .u8 (hb 23 : Nat), .int .u8 (hb 24 : Nat), .int .u8 (hb 25 : Nat), .int .u8 (hb 26 : Nat), .int .u8 (hb 27 : Nat), .int .u8 (hb 28 : Nat), .int .u8 (hb 29 : Nat), .int .u8 (hb 30 : Nat), .int .u8 (hb 31 : Nat)], .agg #[.int .u64 (t0 : Nat), .int .u64 (t1 : Nat), .int .u64 (t2 : Nat), .int .u64 (t3 : Nat)]] w fun e w' => e = .returned (.bool r) ∧ Below w.heap.size w w'

set_option maxRecDepth 100000 in
set_option maxHeartbeats 8000000 in
theorem meets_zero (hb : Nat → Nat) (t0 t1 t2 t3 : Nat) (ez : EqZ t0 t1 t2 t3 true) : MeetsIs hb t0 t1 t2 t3 false := by
  intro w
  unfold EqZ at ez
  go_enter Try.func18, Try.ntmps18
  go_wp2_with fail
  have PB : Below w.heap.size w ((w.alloc (.cells #[.int .u8 (hb 0 : Nat), .int .u8 (hb 1 : Nat), .int .u8 (hb 2 : Nat), .int .u8 (hb 3 : Nat), .int .u8 (hb 4 : Nat), .int .u8 (hb 5 : Nat), .int .u8 (hb 6 : Nat), .int .u8 (hb 7 : Nat), .int .u8 (hb 8 : Nat), .int .u8 (hb 9 : Nat), .int .u8 (hb 10 : Nat), .int .u8 (hb 11 : Nat), .int .u8 (hb 12 : Nat), .int .u8 (hb 13 : Nat), .int .u8 (hb 14 : Nat), .int .u8 (hb 15 : Nat), .int .u8 (hb 16 : Nat), .int .u8 (hb 17 : Nat), .int .u8 (hb 18 : Nat), .int .u8 (hb 19 : Nat), .int .u8 (hb 20 : Nat), .int .u8 (hb 21 : Nat), .int .u8 (hb 22 : Nat), .int .u8 (hb 23 : Nat), .int .u8 (hb 24 : Nat), .int .u8 (hb 25 : Nat), .int .u8 (hb 26 : Nat), .int .u8 (hb 27 : Nat), .int .u8 (hb 28 : Nat), .int .u8 (hb 29 : Nat), .int .u8 (hb 30 : Nat), .int .u8 (hb 31 : Nat)] 32)).alloc (.cells #[.int .u64 (t0 : Nat), .int .u64 (t1 : Nat), .int .u64 (t2 : Nat), .int .u64 (t3 : Nat)] 25)) := ((Below.refl _ _).alloc (Nat.le_refl _) _).alloc (by simp) _
  have HH : Holds ((w.alloc (.cells #[.int .u8 (hb 0 : Nat), .int .u8 (hb 1 : Nat), .int .u8 (hb 2 : Nat), .int .u8 (hb 3 : Nat), .int .u8 (hb 4 : Nat), .int .u8 (hb 5 : Nat), .int .u8 (hb 6 : Nat), .int .u8 (hb 7 : Nat), .int .u8 (hb 8 : Nat), .int .u8 (hb 9 : Nat), .int .u8 (hb 10 : Nat), .int .u8 (hb 11 : Nat), .int .u8 (hb 12 : Nat), .int .u8 (hb 13 : Nat), .int .u8 (hb 14 : Nat), .int .u8 (hb 15 : Nat), .int .u8 (hb 16 : Nat), .int .u8 (hb 17 : Nat), .int .u8 (hb 18 : Nat), .int .u8 (hb 19 : Nat), .int .u8 (hb 20 : Nat), .int .u8 (hb 21 : Nat), .int .u8 (hb 22 : Nat), .int .u8 (hb 23 : Nat), .int .u8 (hb 24 : Nat), .int .u8 (hb 25 : Nat), .int .u8 (hb 26 : Nat), .int .u8 (hb 27 : Nat), .int .u8 (hb 28 : Nat), .int .u8 (hb 29 : Nat), .int .u8 (hb 30 : Nat), .int .u8 (hb 31 : Nat)] 32)).alloc (.cells #[.int .u64 (t0 : Nat), .int .u64 (t1 : Nat), .int .u64 (t2 : Nat), .int .u64 (t3 : Nat)] 25)) w.heap.size #[.int .u8 (hb 0 : Nat), .int .u8 (hb 1 : Nat), .int .u8 (hb 2 : Nat), .int .u8 (hb 3 : Nat), .int .u8 (hb 4 : Nat), .int .u8 (hb 5 : Nat), .int .u8 (hb 6 : Nat), .int .u8 (hb 7 : Nat), .int .u8 (hb 8 : Nat), .int .u8 (hb 9 : Nat), .int .u8 (hb 10 : Nat), .int .u8 (hb 11 : Nat), .int .u8 (hb 12 : Nat), .int .u8 (hb 13 : Nat), .int .u8 (hb 14 : Nat), .int .u8 (hb 15 : Nat), .int .u8 (hb 16 : Nat), .int .u8 (hb 17 : Nat), .int .u8 (hb 18 : Nat), .int .u8 (hb 19 : Nat), .int .u8 (hb 20 : Nat), .int .u8 (hb 21 : Nat), .int .u8 (hb 22 : Nat), .int .u8 (hb 23 : Nat), .int .u8 (hb 24 : Nat), .int .u8 (hb 25 : Nat), .int .u8 (hb 26 : Nat), .int .u8 (hb 27 : Nat), .int .u8 (hb 28 : Nat), .int .u8 (hb 29 : Nat), .int .u8 (hb 30 : Nat), .int .u8 (hb 31 : Nat)] 32 := (Holds.new _ _ _).later ((Below.refl _ _).alloc (Nat.le_refl _) _)
  have H1 : Holds ((w.alloc (.cells #[.int .u8 (hb 0 : Nat), .int .u8 (hb 1 : Nat), .int .u8 (hb 2 : Nat), .int .u8 (hb 3 : Nat), .int .u8 (hb 4 : Nat), .int .u8 (hb 5 : Nat), .int .u8 (hb 6 : Nat), .int .u8 (hb 7 : Nat), .int .u8 (hb 8 : Nat), .int .u8 (hb 9 : Nat), .int .u8 (hb 10 : Nat), .int .u8 (hb 11 : Nat), .int .u8 (hb 12 : Nat), .int .u8 (hb 13 : Nat), .int .u8 (hb 14 : Nat), .int .u8 (hb 15 : Nat), .int .u8 (hb 16 : Nat), .int .u8 (hb 17 : Nat), .int .u8 (hb 18 : Nat), .int .u8 (hb 19 : Nat), .int .u8 (hb 20 : Nat), .int .u8 (hb 21 : Nat), .int .u8 (hb 22 : Nat), .int .u8 (hb 23 : Nat), .int .u8 (hb 24 : Nat), .int .u8 (hb 25 : Nat), .int .u8 (hb 26 : Nat), .int .u8 (hb 27 : Nat), .int .u8 (hb 28 : Nat), .int .u8 (hb 29 : Nat), .int .u8 (hb 30 : Nat), .int .u8 (hb 31 : Nat)] 32)).alloc (.cells #[.int .u64 (t0 : Nat), .int .u64 (t1 : Nat), .int .u64 (t2 : Nat), .int .u64 (t3 : Nat)] 25)) (w.heap.size + 1) #[.int .u64 (t0 : Nat), .int .u64 (t1 : Nat), .int .u64 (t2 : Nat), .int .u64 (t3 : Nat)] 25 := by have := Holds.new (w.alloc (.cells #[.int .u8 (hb 0 : Nat), .int .u8 (hb 1 : Nat), .int .u8 (hb 2 : Nat), .int .u8 (hb 3 : Nat), .int .u8 (hb 4 : Nat), .int .u8 (hb 5 : Nat), .int .u8 (hb 6 : Nat), .int .u8 (hb 7 : Nat), .int .u8 (hb 8 : Nat), .int .u8 (hb 9 : Nat), .int .u8 (hb 10 : Nat), .int .u8 (hb 11 : Nat), .int .u8 (hb 12 : Nat), .int .u8 (hb 13 : Nat), .int .u8 (hb 14 : Nat), .int .u8 (hb 15 : Nat), .int .u8 (hb 16 : Nat), .int .u8 (hb 17 : Nat), .int .u8 (hb 18 : Nat), .int .u8 (hb 19 : Nat), .int .u8 (hb 20 : Nat), .int .u8 (hb 21 : Nat), .int .u8 (hb 22 : Nat), .int .u8 (hb 23 : Nat), .int .u8 (hb 24 : Nat), .int .u8 (hb 25 : Nat), .int .u8 (hb 26 : Nat), .int .u8 (hb 27 : Nat), .int .u8 (hb 28 : Nat), .int .u8 (hb 29 : Nat), .int .u8 (hb 30 : Nat), .int .u8 (hb 31 : Nat)] 32)) #[.int .u64 (t0 : Nat), .int .u64 (t1 : Nat), .int .u64 (t2 : Nat), .int .u64 (t3 : Nat)] 25; simpa using this
  generalize (w.alloc (.cells #[.int .u8 (hb 0 : Nat), .int .u8 (hb 1 : Nat), .int .u8 (hb 2 : Nat), .int .u8 (hb 3 : Nat), .int .u8 (hb 4 : Nat), .int .u8 (hb 5 : Nat), .int .u8 (hb 6 : Nat), .int .u8 (hb 7 : Nat), .int .u8 (hb 8 : Nat), .int .u8 (hb 9 : Nat), .int .u8 (hb 10 : Nat), .int .u8 (hb 11 : Nat), .int .u8 (hb 12 : Nat), .int .u8 (hb 13 : Nat), .int .u8 (hb 14 : Nat), .int .u8 (hb 15 : Nat), .int .u8 (hb 16 : Nat), .int .u8 (hb 17 : Nat), .int .u8 (hb 18 : Nat), .int .u8 (hb 19 : Nat), .int .u8 (hb 20 : Nat), .int .u8 (hb 21 : Nat), .int .u8 (hb 22 : Nat), .int .u8 (hb 23 : Nat), .int .u8 (hb 24 : Nat), .int .u8 (hb 25 : Nat), .int .u8 (hb 26 : Nat), .int .u8 (hb 27 : Nat), .int .u8 (hb 28 : Nat), .int .u8 (hb 29 : Nat), .int .u8 (hb 30 : Nat), .int .u8 (hb 31 : Nat)] 32)).alloc (.cells #[.int .u64 (t0 : Nat), .int .u64 (t1 : Nat), .int .u64 (t2 : Nat), .int .u64 (t3 : Nat)] 25) = W1 at *
  have u0 : ∀ u : After W1, u.w.cell? ⟨w.heap.size + 1, 0, none⟩ = some (.int .u64 (t0 : Nat)) := fun u => (H1.later u.below).cell 0
  have u1 : ∀ u : After W1, u.w.cell? ⟨w.heap.size + 1, 1, none⟩ = some (.int .u64 (t1 : Nat)) := fun u => (H1.later u.below).cell 1
  have u2 : ∀ u : After W1, u.w.cell? ⟨w.heap.size + 1, 2, none⟩ = some (.int .u64 (t2 : Nat)) := fun u => (H1.later u.below).cell 2
  have u3 : ∀ u : After W1, u.w.cell? ⟨w.heap.size + 1, 3, none⟩ = some (.int .u64 (t3 : Nat)) := fun u => (H1.later u.below).cell 3
  refine wp_region_after (by kernel_rfl) (by kernel_rfl) ?_
  repeat (go_big_quiet_step (fail))
  refine wpQuiet_nil ?_
  rintro _ ⟨u, rfl⟩
  have PC := below_step PB u.below
  clear PB H1 HH
  have PB := Lib.hid PC
  clear PC
  go_wp2_with fail
  go_ret
  exact ⟨rfl, PB.out⟩

set_option maxRecDepth 100000 in
set_option maxHeartbeats 8000000 in
theorem meets_some (hb : Nat → Nat) (t0 t1 t2 t3 s0 s1 s2 s3 : Nat) (r : Bool) (ez : EqZ t0 t1 t2 t3 false) (oh : OfHashIs hb s0 s1 s2 s3) (less : LessIs t0 t1 t2 t3 s0 s1 s2 s3 r) : MeetsIs hb t0 t1 t2 t3 (!r) := by
  intro w
  have OH := Lib.hid oh
  clear oh
  have LESSH := Lib.hid less
  clear less
  unfold EqZ at ez
  go_enter Try.func18, Try.ntmps18
  go_wp2_with fail
  have PB : Below w.heap.size w ((w.alloc (.cells #[.int .u8 (hb 0 : Nat), .int .u8 (hb 1 : Nat), .int .u8 (hb 2 : Nat), .int .u8 (hb 3 : Nat), .int .u8 (hb 4 : Nat), .int .u8 (hb 5 : Nat), .int .u8 (hb 6 : Nat), .int .u8 (hb 7 : Nat), .int .u8 (hb 8 : Nat), .int .u8 (hb 9 : Nat), .int .u8 (hb 10 : Nat), .int .u8 (hb 11 : Nat), .int .u8 (hb 12 : Nat), .int .u8 (hb 13 : Nat), .int .u8 (hb 14 : Nat), .int .u8 (hb 15 : Nat), .int .u8 (hb 16 : Nat), .int .u8 (hb 17 : Nat), .int .u8 (hb 18 : Nat), .int .u8 (hb 19 : Nat), .int .u8 (hb 20 : Nat), .int .u8 (hb 21 : Nat), .int .u8 (hb 22 : Nat), .int .u8 (hb 23 : Nat), .int .u8 (hb 24 : Nat), .int .u8 (hb 25 : Nat), .int .u8 (hb 26 : Nat), .int .u8 (hb 27 : Nat), .int .u8 (hb 28 : Nat), .int .u8 (hb 29 : Nat), .int .u8 (hb 30 : Nat), .int .u8 (hb 31 : Nat)] 32)).alloc (.cells #[.int .u64 (t0 : Nat), .int .u64 (t1 : Nat), .int .u64 (t2 : Nat), .int .u64 (t3 : Nat)] 25)) := ((Below.refl _ _).alloc (Nat.le_refl _) _).alloc (by simp) _
  have HH : Holds ((w.alloc (.cells #[.int .u8 (hb 0 : Nat), .int .u8 (hb 1 : Nat), .int .u8 (hb 2 : Nat), .int .u8 (hb 3 : Nat), .int .u8 (hb 4 : Nat), .int .u8 (hb 5 : Nat), .int .u8 (hb 6 : Nat), .int .u8 (hb 7 : Nat), .int .u8 (hb 8 : Nat), .int .u8 (hb 9 : Nat), .int .u8 (hb 10 : Nat), .int .u8 (hb 11 : Nat), .int .u8 (hb 12 : Nat), .int .u8 (hb 13 : Nat), .int .u8 (hb 14 : Nat), .int .u8 (hb 15 : Nat), .int .u8 (hb 16 : Nat), .int .u8 (hb 17 : Nat), .int .u8 (hb 18 : Nat), .int .u8 (hb 19 : Nat), .int .u8 (hb 20 : Nat), .int .u8 (hb 21 : Nat), .int .u8 (hb 22 : Nat), .int .u8 (hb 23 : Nat), .int .u8 (hb 24 : Nat), .int .u8 (hb 25 : Nat), .int .u8 (hb 26 : Nat), .int .u8 (hb 27 : Nat), .int .u8 (hb 28 : Nat), .int .u8 (hb 29 : Nat), .int .u8 (hb 30 : Nat), .int .u8 (hb 31 : Nat)] 32)).alloc (.cells #[.int .u64 (t0 : Nat), .int .u64 (t1 : Nat), .int .u64 (t2 : Nat), .int .u64 (t3 : Nat)] 25)) w.heap.size #[.int .u8 (hb 0 : Nat), .int .u8 (hb 1 : Nat), .int .u8 (hb 2 : Nat), .int .u8 (hb 3 : Nat), .int .u8 (hb 4 : Nat), .int .u8 (hb 5 : Nat), .int .u8 (hb 6 : Nat), .int .u8 (hb 7 : Nat), .int .u8 (hb 8 : Nat), .int .u8 (hb 9 : Nat), .int .u8 (hb 10 : Nat), .int .u8 (hb 11 : Nat), .int .u8 (hb 12 : Nat), .int .u8 (hb 13 : Nat), .int .u8 (hb 14 : Nat), .int .u8 (hb 15 : Nat), .int .u8 (hb 16 : Nat), .int .u8 (hb 17 : Nat), .int .u8 (hb 18 : Nat), .int .u8 (hb 19 : Nat), .int .u8 (hb 20 : Nat), .int .u8 (hb 21 : Nat), .int .u8 (hb 22 : Nat), .int .u8 (hb 23 : Nat), .int .u8 (hb 24 : Nat), .int .u8 (hb 25 : Nat), .int .u8 (hb 26 : Nat), .int .u8 (hb 27 : Nat), .int .u8 (hb 28 : Nat), .int .u8 (hb 29 : Nat), .int .u8 (hb 30 : Nat), .int .u8 (hb 31 : Nat)] 32 := (Holds.new _ _ _).later ((Below.refl _ _).alloc (Nat.le_refl _) _)
  have H1 : Holds ((w.alloc (.cells #[.int .u8 (hb 0 : Nat), .int .u8 (hb 1 : Nat), .int .u8 (hb 2 : Nat), .int .u8 (hb 3 : Nat), .int .u8 (hb 4 : Nat), .int .u8 (hb 5 : Nat), .int .u8 (hb 6 : Nat), .int .u8 (hb 7 : Nat), .int .u8 (hb 8 : Nat), .int .u8 (hb 9 : Nat), .int .u8 (hb 10 : Nat), .int .u8 (hb 11 : Nat), .int .u8 (hb 12 : Nat), .int .u8 (hb 13 : Nat), .int .u8 (hb 14 : Nat), .int .u8 (hb 15 : Nat), .int .u8 (hb 16 : Nat), .int .u8 (hb 17 : Nat), .int .u8 (hb 18 : Nat), .int .u8 (hb 19 : Nat), .int .u8 (hb 20 : Nat), .int .u8 (hb 21 : Nat), .int .u8 (hb 22 : Nat), .int .u8 (hb 23 : Nat), .int .u8 (hb 24 : Nat), .int .u8 (hb 25 : Nat), .int .u8 (hb 26 : Nat), .int .u8 (hb 27 : Nat), .int .u8 (hb 28 : Nat), .int .u8 (hb 29 : Nat), .int .u8 (hb 30 : Nat), .int .u8 (hb 31 : Nat)] 32)).alloc (.cells #[.int .u64 (t0 : Nat), .int .u64 (t1 : Nat), .int .u64 (t2 : Nat), .int .u64 (t3 : Nat)] 25)) (w.heap.size + 1) #[.int .u64 (t0 : Nat), .int .u64 (t1 : Nat), .int .u64 (t2 : Nat), .int .u64 (t3 : Nat)] 25 := by have := Holds.new (w.alloc (.cells #[.int .u8 (hb 0 : Nat), .int .u8 (hb 1 : Nat), .int .u8 (hb 2 : Nat), .int .u8 (hb 3 : Nat), .int .u8 (hb 4 : Nat), .int .u8 (hb 5 : Nat), .int .u8 (hb 6 : Nat), .int .u8 (hb 7 : Nat), .int .u8 (hb 8 : Nat), .int .u8 (hb 9 : Nat), .int .u8 (hb 10 : Nat), .int .u8 (hb 11 : Nat), .int .u8 (hb 12 : Nat), .int .u8 (hb 13 : Nat), .int .u8 (hb 14 : Nat), .int .u8 (hb 15 : Nat), .int .u8 (hb 16 : Nat), .int .u8 (hb 17 : Nat), .int .u8 (hb 18 : Nat), .int .u8 (hb 19 : Nat), .int .u8 (hb 20 : Nat), .int .u8 (hb 21 : Nat), .int .u8 (hb 22 : Nat), .int .u8 (hb 23 : Nat), .int .u8 (hb 24 : Nat), .int .u8 (hb 25 : Nat), .int .u8 (hb 26 : Nat), .int .u8 (hb 27 : Nat), .int .u8 (hb 28 : Nat), .int .u8 (hb 29 : Nat), .int .u8 (hb 30 : Nat), .int .u8 (hb 31 : Nat)] 32)) #[.int .u64 (t0 : Nat), .int .u64 (t1 : Nat), .int .u64 (t2 : Nat), .int .u64 (t3 : Nat)] 25; simpa using this
  generalize (w.alloc (.cells #[.int .u8 (hb 0 : Nat), .int .u8 (hb 1 : Nat), .int .u8 (hb 2 : Nat), .int .u8 (hb 3 : Nat), .int .u8 (hb 4 : Nat), .int .u8 (hb 5 : Nat), .int .u8 (hb 6 : Nat), .int .u8 (hb 7 : Nat), .int .u8 (hb 8 : Nat), .int .u8 (hb 9 : Nat), .int .u8 (hb 10 : Nat), .int .u8 (hb 11 : Nat), .int .u8 (hb 12 : Nat), .int .u8 (hb 13 : Nat), .int .u8 (hb 14 : Nat), .int .u8 (hb 15 : Nat), .int .u8 (hb 16 : Nat), .int .u8 (hb 17 : Nat), .int .u8 (hb 18 : Nat), .int .u8 (hb 19 : Nat), .int .u8 (hb 20 : Nat), .int .u8 (hb 21 : Nat), .int .u8 (hb 22 : Nat), .int .u8 (hb 23 : Nat), .int .u8 (hb 24 : Nat), .int .u8 (hb 25 : Nat), .int .u8 (hb 26 : Nat), .int .u8 (hb 27 : Nat), .int .u8 (hb 28 : Nat), .int .u8 (hb 29 : Nat), .int .u8 (hb 30 : Nat), .int .u8 (hb 31 : Nat)] 32)).alloc (.cells #[.int .u64 (t0 : Nat), .int .u64 (t1 : Nat), .int .u64 (t2 : Nat), .int .u64 (t3 : Nat)] 25) = W1 at *
  have u0 : ∀ u : After W1, u.w.cell? ⟨w.heap.size + 1, 0, none⟩ = some (.int .u64 (t0 : Nat)) := fun u => (H1.later u.below).cell 0
  have u1 : ∀ u : After W1, u.w.cell? ⟨w.heap.size + 1, 1, none⟩ = some (.int .u64 (t1 : Nat)) := fun u => (H1.later u.below).cell 1
  have u2 : ∀ u : After W1, u.w.cell? ⟨w.heap.size + 1, 2, none⟩ = some (.int .u64 (t2 : Nat)) := fun u => (H1.later u.below).cell 2
  have u3 : ∀ u : After W1, u.w.cell? ⟨w.heap.size + 1, 3, none⟩ = some (.int .u64 (t3 : Nat)) := fun u => (H1.later u.below).cell 3
  refine wp_region_after (by kernel_rfl) (by kernel_rfl) ?_
  repeat (go_big_quiet_step ((first | (go_at_call 36; exact after_call (OH.out _)) | (go_at_call 20; exact after_call (LESSH.out _)))))
  go_big_quiet_want
  refine quiet_load_row 32 (.tmp 2) rfl w.heap.size rfl 32 #[.int .u8 (hb 0 : Nat), .int .u8 (hb 1 : Nat), .int .u8 (hb 2 : Nat), .int .u8 (hb 3 : Nat), .int .u8 (hb 4 : Nat), .int .u8 (hb 5 : Nat), .int .u8 (hb 6 : Nat), .int .u8 (hb 7 : Nat), .int .u8 (hb 8 : Nat), .int .u8 (hb 9 : Nat), .int .u8 (hb 10 : Nat), .int .u8 (hb 11 : Nat), .int .u8 (hb 12 : Nat), .int .u8 (hb 13 : Nat), .int .u8 (hb 14 : Nat), .int .u8 (hb 15 : Nat), .int .u8 (hb 16 : Nat), .int .u8 (hb 17 : Nat), .int .u8 (hb 18 : Nat), .int .u8 (hb 19 : Nat), .int .u8 (hb 20 : Nat), .int .u8 (hb 21 : Nat), .int .u8 (hb 22 : Nat), .int .u8 (hb 23 : Nat), .int .u8 (hb 24 : Nat), .int .u8 (hb 25 : Nat), .int .u8 (hb 26 : Nat), .int .u8 (hb 27 : Nat), .int .u8 (hb 28 : Nat), .int .u8 (hb 29 : Nat), .int .u8 (hb 30 : Nat), .int .u8 (hb 31 : Nat)] _ (by rintro _ ⟨u, rfl⟩; exact HH.later u.below) Try.underlying32 rfl (by kernel_rfl) ?_
  go_big_quiet_on
  simp only [Act.put, List.setIfInBounds_toArray, List.set_cons_succ, List.set_cons_zero]
  repeat (go_big_quiet_step ((first | (go_at_call 36; exact after_call (OH.out _)) | (go_at_call 20; exact after_call (LESSH.out _)))))
  refine wpQuiet_nil ?_
  rintro _ ⟨u, rfl⟩
  have PC := below_step PB u.below
  clear PB H1 HH
  have PB := Lib.hid PC
  clear PC
  go_wp2_with fail
  go_ret
  exact ⟨rfl, PB.out⟩

theorem meetsIs {hb : Nat → Nat} {t0 t1 t2 t3 : Nat} (h : Bytes hb) (ht : Words t0 t1 t2 t3) (r : Bool) (hr : r = decide (val t0 t1 t2 t3 ≠ 0 ∧ hashNum hb 32 ≤ val t0 t1 t2 t3)) : MeetsIs hb t0 t1 t2 t3 r := by
  obtain ⟨s0, s1, s2, s3, ws, es⟩ := words_of (hash_lt h)
  by_cases z : val t0 t1 t2 t3 = 0
  · rw [hr, decide_eq_false (fun k => k.1 z)]
    exact meets_zero hb t0 t1 t2 t3 (eqZ ht true (by symm; rw [decide_eq_true_iff]; exact z))
  · have m := meets_some hb t0 t1 t2 t3 s0 s1 s2 s3 _ (eqZ ht false (by symm; rw [decide_eq_false_iff_not]; exact z)) (ofHashIs h ws es) (lessIs ht ws _ rfl)
    have e : r = (!decide (val t0 t1 t2 t3 < val s0 s1 s2 s3)) := by
      rw [hr, es, Bool.eq_iff_iff, decide_eq_true_iff, Bool.not_eq_true', decide_eq_false_iff_not]
      omega
    rw [e]; exact m

end Go.Proofs.Ytnipajfglmahiaa
