/- TargetBits returns true for every compact bits and every target, and each argument reads afterwards as it read before. No condition. -/
import Derived.Test.YtimjmmiajgfblaaGreatDoorRows
import Derived.Test.YtimjmmiajgfblaaGreatDoorQRef03c
import Derived.Test.YtimjmmiajgfblaaGreatDoorGav
import Derived.Test.YtimjmmiajgfblaaGreatDoorQHash

namespace Go.Proofs.YtimjmmiajgfblaaGreatDoor.Bg
set_option maxRecDepth 100000
open Go.ChangeShapes Go.WideShapes Go.ChangeAt Go.RowKit

def RCompIs (x0 x1 x2 x3 c : Nat) : Prop := ∀ w : World, Calls Tryz.prog 24 #[.agg #[.int .u64 (x0 : Nat), .int .u64 (x1 : Nat), .int .u64 (x2 : Nat), .int .u64 (x3 : Nat)]] w fun e w' => e = .returned (.int .u32 (c : Nat)) ∧ Below w.heap.size w w'
theorem rcompIs {a0 a1 a2 a3 nb c : Nat} (ha : Words a0 a1 a2 a3) (hn : BitsOf (val a0 a1 a2 a3) nb) (hc : c = compOf (val a0 a1 a2 a3) nb) : RCompIs a0 a1 a2 a3 c := by
  intro w
  have e256 : (2 : Nat) ^ 256 = 115792089237316195423570985008687907853269984665640564039457584007913129639936 := by decide
  have n256 := hn.le (m := 256) (by rw [e256]; exact val_lt ha)
  have pl := partOf_lt hn
  by_cases z : val a0 a1 a2 a3 = 0
  · have n0 := hn.1 z
    rw [z, n0] at hc
    have c0 : c = 0 := hc.trans (by decide)
    subst c0
    exact rcom_zero a0 a1 a2 a3 w (eqZ ha true (by symm; rw [decide_eq_true_iff]; exact z))
  · have ez := eqZ ha false (by symm; rw [decide_eq_false_iff_not]; exact z)
    have bt := rbitsAt ha hn
    obtain ⟨sz, hsz⟩ : ∃ sz, sz = (nb + 7) / 8 := ⟨_, rfl⟩
    unfold compOf at hc
    rw [← hsz] at hc pl
    obtain ⟨r0, r1, r2, r3, wr, er⟩ := words_of (x := partOf (val a0 a1 a2 a3) sz) (by omega)
    have hr0 : r0 = partOf (val a0 a1 a2 a3) sz := by
      rw [← er] at pl ⊢
      obtain ⟨_, _, _, _⟩ := wr
      unfold val at pl ⊢
      omega
    rw [← hr0] at hc
    have pr : r0 < 16777216 := by omega
    obtain ⟨v0, v1, v2, v3, wv, ev⟩ := words_of (x := partOf (val a0 a1 a2 a3) sz / 256) (by omega)
    have hv0 : v0 = r0 / 256 := by
      have hl : val v0 v1 v2 v3 < 16777216 := by omega
      rw [hr0, ← ev]
      obtain ⟨_, _, _, _⟩ := wv
      unfold val at hl ⊢
      omega
    have c2 : RDownZ r0 r1 r2 r3 8 v0 v1 v2 v3 := rdownZ wr 8 (by omega) wv (by rw [ev, er]; rfl)
    have orb := or_part (sz + 1) v0 (by omega) (by omega)
    have ors := or_part sz r0 (by omega) pr
    by_cases small : sz < 3
    · obtain ⟨u, hu⟩ : ∃ u : Int, u = 8 * (3 - (sz : Int)) := ⟨_, rfl⟩
      have c1 : RUpZ a0 a1 a2 a3 u r0 r1 r2 r3 := rupZ ha u (by omega) wr (by
        have p2 := pl
        rw [er]
        unfold partOf at *
        rw [if_pos small] at p2 ⊢
        rw [show u.toNat = 8 * (3 - sz) by omega, Nat.mod_eq_of_lt (by omega)])
      have h3 : decide ((sz : Int) < 3) = true := decide_eq_true (by omega)
      by_cases big : 8388608 ≤ r0
      · rw [if_pos big] at hc
        exact rcom_s_t a0 a1 a2 a3 r0 r1 r2 r3 v0 v1 v2 v3 nb sz c u w n256 (by omega) (by omega) (by omega) pr (by omega) (by omega) ez bt c1 h3 hu.symm (decide_eq_true (by omega)) c2 (by rw [show ((sz : Int) + 1) * 16777216 = ((sz + 1 : Nat) : Int) * 16777216 by omega, orb, hc, hv0])
      · rw [if_neg big] at hc
        exact rcom_s_f a0 a1 a2 a3 r0 r1 r2 r3 nb sz c u w n256 (by omega) (by omega) (by omega) pr (by omega) ez bt c1 h3 hu.symm (decide_eq_false (by omega)) (by rw [ors, hc])
    · obtain ⟨u, hu⟩ : ∃ u : Int, u = 8 * ((sz : Int) - 3) := ⟨_, rfl⟩
      have c1 : RDownZ a0 a1 a2 a3 u r0 r1 r2 r3 := rdownZ ha u (by omega) wr (by
        rw [er]
        unfold partOf
        rw [if_neg small, show u.toNat = 8 * (sz - 3) by omega])
      have h3 : decide ((sz : Int) < 3) = false := decide_eq_false (by omega)
      by_cases big : 8388608 ≤ r0
      · rw [if_pos big] at hc
        exact rcom_b_t a0 a1 a2 a3 r0 r1 r2 r3 v0 v1 v2 v3 nb sz c u w n256 (by omega) (by omega) (by omega) pr (by omega) (by omega) ez bt c1 h3 hu.symm (decide_eq_true (by omega)) c2 (by rw [show ((sz : Int) + 1) * 16777216 = ((sz + 1 : Nat) : Int) * 16777216 by omega, orb, hc, hv0])
      · rw [if_neg big] at hc
        exact rcom_b_f a0 a1 a2 a3 r0 r1 r2 r3 nb sz c u w n256 (by omega) (by omega) (by omega) pr (by omega) ez bt c1 h3 hu.symm (decide_eq_false (by omega)) (by rw [ors, hc])

end Go.Proofs.YtimjmmiajgfblaaGreatDoor.Bg

/- Meets of the package target: is a hash not above a target? At every hash and every target. No condition. -/
namespace Go.Proofs.YtimjmmiajgfblaaGreatDoor.Bg
set_option maxRecDepth 100000
open Go.RowKit

/-- A whole array that is read in a region that leaves its order open. -/
theorem quiet_load_row {P : Program} {o : Oper} {a : Act} {C : World → Prop} {K : Act → Prop} (ty : TypeId) (x : Operand) (ho : o.op = .load ty x) (g : Nat) (hx : a.eval x = .pointer (some ⟨g, 0, none⟩)) (t : TypeId) (cs : Array Value) (d : TypeDesc)
    (hC : ∀ w, C w → Holds w g cs t) (hu : P.underlying ty = some d) (hd : (match d with | .struct _ | .array _ _ => true | _ => false) = true) (hi : (P.info? ty).map (·.size) = some cs.size) (hk : K (a.put o.dst (.agg cs))) : o.quiet P a C K :=
  ⟨.agg cs, fun w hw => by
    unfold Oper.quietAt execOp
    simp only [ho, hx, Instr.loadAt, Instr.sureAddr, Sem.run_bind, Sem.run_pure, Result.andThen_ok, run_loadVar_row w g t ty cs (0, 0) d (hC w hw) hu hd hi]
    exact ⟨rfl, rfl⟩, hk⟩

def MeetsIs (hb : Nat → Nat) (t0 t1 t2 t3 : Nat) (r : Bool) : Prop := ∀ w : World, Calls Tryz.prog 69 #[.agg #[.int .u8 (hb 0 : Nat), .int .u8 (hb 1 : Nat), .int .u8 (hb 2 : Nat), .int .u8 (hb 3 : Nat), .int .u8 (hb 4 : Nat), .int .u8 (hb 5 : Nat), .int .u8 (hb 6 : Nat), .int .u8 (hb 7 : Nat), .int .u8 (hb 8 : Nat), .int .u8 (hb 9 : Nat), .int .u8 (hb 10 : Nat), .int .u8 (hb 11 : Nat), .int .u8 (hb 12 : Nat), .int .u8 (hb 13 : Nat), .int .u8 (hb 14 : Nat), .int .u8 (hb 15 : Nat), .int .u8 (hb 16 : Nat), .int .u8 (hb 17 : Nat), .int .u8 (hb 18 : Nat), .int .u8 (hb 19 : Nat), .int .u8 (hb 20 : Nat), .int .u8 (hb 21 : Nat), .int .u8 (hb 22 : Nat), .int .u8 (hb 23 : Nat), .int .u8 (hb 24 : Nat), .int .u8 (hb 25 : Nat), .int .u8 (hb 26 : Nat), .int .u8 (hb 27 : Nat), .int .u8 (hb 28 : Nat), .int .u8 (hb 29 : Nat), .int .u8 (hb 30 : Nat), .int .u8 (hb 31 : Nat)], .agg #[.int .u64 (t0 : Nat), .int .u64 (t1 : Nat), .int .u64 (t2 : Nat), .int .u64 (t3 : Nat)]] w fun e w' => e = .returned (.bool r) ∧ Below w.heap.size w w'

set_option maxRecDepth 100000 in
set_option maxHeartbeats 8000000 in
theorem meets_zero (hb : Nat → Nat) (t0 t1 t2 t3 : Nat) (ez : EqZ t0 t1 t2 t3 true) : MeetsIs hb t0 t1 t2 t3 false := by
  intro w
  unfold EqZ at ez
  go_enter Tryz.func69, Tryz.ntmps69
  go_wp2_with fail
  have PB : Below w.heap.size w ((w.alloc (.cells #[.int .u8 (hb 0 : Nat), .int .u8 (hb 1 : Nat), .int .u8 (hb 2 : Nat), .int .u8 (hb 3 : Nat), .int .u8 (hb 4 : Nat), .int .u8 (hb 5 : Nat), .int .u8 (hb 6 : Nat), .int .u8 (hb 7 : Nat), .int .u8 (hb 8 : Nat), .int .u8 (hb 9 : Nat), .int .u8 (hb 10 : Nat), .int .u8 (hb 11 : Nat), .int .u8 (hb 12 : Nat), .int .u8 (hb 13 : Nat), .int .u8 (hb 14 : Nat), .int .u8 (hb 15 : Nat), .int .u8 (hb 16 : Nat), .int .u8 (hb 17 : Nat), .int .u8 (hb 18 : Nat), .int .u8 (hb 19 : Nat), .int .u8 (hb 20 : Nat), .int .u8 (hb 21 : Nat), .int .u8 (hb 22 : Nat), .int .u8 (hb 23 : Nat), .int .u8 (hb 24 : Nat), .int .u8 (hb 25 : Nat), .int .u8 (hb 26 : Nat), .int .u8 (hb 27 : Nat), .int .u8 (hb 28 : Nat), .int .u8 (hb 29 : Nat), .int .u8 (hb 30 : Nat), .int .u8 (hb 31 : Nat)] 25)).alloc (.cells #[.int .u64 (t0 : Nat), .int .u64 (t1 : Nat), .int .u64 (t2 : Nat), .int .u64 (t3 : Nat)] 51)) := ((Below.refl _ _).alloc (Nat.le_refl _) _).alloc (by simp) _
  have HH : Holds ((w.alloc (.cells #[.int .u8 (hb 0 : Nat), .int .u8 (hb 1 : Nat), .int .u8 (hb 2 : Nat), .int .u8 (hb 3 : Nat), .int .u8 (hb 4 : Nat), .int .u8 (hb 5 : Nat), .int .u8 (hb 6 : Nat), .int .u8 (hb 7 : Nat), .int .u8 (hb 8 : Nat), .int .u8 (hb 9 : Nat), .int .u8 (hb 10 : Nat), .int .u8 (hb 11 : Nat), .int .u8 (hb 12 : Nat), .int .u8 (hb 13 : Nat), .int .u8 (hb 14 : Nat), .int .u8 (hb 15 : Nat), .int .u8 (hb 16 : Nat), .int .u8 (hb 17 : Nat), .int .u8 (hb 18 : Nat), .int .u8 (hb 19 : Nat), .int .u8 (hb 20 : Nat), .int .u8 (hb 21 : Nat), .int .u8 (hb 22 : Nat), .int .u8 (hb 23 : Nat), .int .u8 (hb 24 : Nat), .int .u8 (hb 25 : Nat), .int .u8 (hb 26 : Nat), .int .u8 (hb 27 : Nat), .int .u8 (hb 28 : Nat), .int .u8 (hb 29 : Nat), .int .u8 (hb 30 : Nat), .int .u8 (hb 31 : Nat)] 25)).alloc (.cells #[.int .u64 (t0 : Nat), .int .u64 (t1 : Nat), .int .u64 (t2 : Nat), .int .u64 (t3 : Nat)] 51)) w.heap.size #[.int .u8 (hb 0 : Nat), .int .u8 (hb 1 : Nat), .int .u8 (hb 2 : Nat), .int .u8 (hb 3 : Nat), .int .u8 (hb 4 : Nat), .int .u8 (hb 5 : Nat), .int .u8 (hb 6 : Nat), .int .u8 (hb 7 : Nat), .int .u8 (hb 8 : Nat), .int .u8 (hb 9 : Nat), .int .u8 (hb 10 : Nat), .int .u8 (hb 11 : Nat), .int .u8 (hb 12 : Nat), .int .u8 (hb 13 : Nat), .int .u8 (hb 14 : Nat), .int .u8 (hb 15 : Nat), .int .u8 (hb 16 : Nat), .int .u8 (hb 17 : Nat), .int .u8 (hb 18 : Nat), .int .u8 (hb 19 : Nat), .int .u8 (hb 20 : Nat), .int .u8 (hb 21 : Nat), .int .u8 (hb 22 : Nat), .int .u8 (hb 23 : Nat), .int .u8 (hb 24 : Nat), .int .u8 (hb 25 : Nat), .int .u8 (hb 26 : Nat), .int .u8 (hb 27 : Nat), .int .u8 (hb 28 : Nat), .int .u8 (hb 29 : Nat), .int .u8 (hb 30 : Nat), .int .u8 (hb 31 : Nat)] 25 := (Holds.new _ _ _).later ((Below.refl _ _).alloc (Nat.le_refl _) _)
  have H1 : Holds ((w.alloc (.cells #[.int .u8 (hb 0 : Nat), .int .u8 (hb 1 : Nat), .int .u8 (hb 2 : Nat), .int .u8 (hb 3 : Nat), .int .u8 (hb 4 : Nat), .int .u8 (hb 5 : Nat), .int .u8 (hb 6 : Nat), .int .u8 (hb 7 : Nat), .int .u8 (hb 8 : Nat), .int .u8 (hb 9 : Nat), .int .u8 (hb 10 : Nat), .int .u8 (hb 11 : Nat), .int .u8 (hb 12 : Nat), .int .u8 (hb 13 : Nat), .int .u8 (hb 14 : Nat), .int .u8 (hb 15 : Nat), .int .u8 (hb 16 : Nat), .int .u8 (hb 17 : Nat), .int .u8 (hb 18 : Nat), .int .u8 (hb 19 : Nat), .int .u8 (hb 20 : Nat), .int .u8 (hb 21 : Nat), .int .u8 (hb 22 : Nat), .int .u8 (hb 23 : Nat), .int .u8 (hb 24 : Nat), .int .u8 (hb 25 : Nat), .int .u8 (hb 26 : Nat), .int .u8 (hb 27 : Nat), .int .u8 (hb 28 : Nat), .int .u8 (hb 29 : Nat), .int .u8 (hb 30 : Nat), .int .u8 (hb 31 : Nat)] 25)).alloc (.cells #[.int .u64 (t0 : Nat), .int .u64 (t1 : Nat), .int .u64 (t2 : Nat), .int .u64 (t3 : Nat)] 51)) (w.heap.size + 1) #[.int .u64 (t0 : Nat), .int .u64 (t1 : Nat), .int .u64 (t2 : Nat), .int .u64 (t3 : Nat)] 51 := by have := Holds.new (w.alloc (.cells #[.int .u8 (hb 0 : Nat), .int .u8 (hb 1 : Nat), .int .u8 (hb 2 : Nat), .int .u8 (hb 3 : Nat), .int .u8 (hb 4 : Nat), .int .u8 (hb 5 : Nat), .int .u8 (hb 6 : Nat), .int .u8 (hb 7 : Nat), .int .u8 (hb 8 : Nat), .int .u8 (hb 9 : Nat), .int .u8 (hb 10 : Nat), .int .u8 (hb 11 : Nat), .int .u8 (hb 12 : Nat), .int .u8 (hb 13 : Nat), .int .u8 (hb 14 : Nat), .int .u8 (hb 15 : Nat), .int .u8 (hb 16 : Nat), .int .u8 (hb 17 : Nat), .int .u8 (hb 18 : Nat), .int .u8 (hb 19 : Nat), .int .u8 (hb 20 : Nat), .int .u8 (hb 21 : Nat), .int .u8 (hb 22 : Nat), .int .u8 (hb 23 : Nat), .int .u8 (hb 24 : Nat), .int .u8 (hb 25 : Nat), .int .u8 (hb 26 : Nat), .int .u8 (hb 27 : Nat), .int .u8 (hb 28 : Nat), .int .u8 (hb 29 : Nat), .int .u8 (hb 30 : Nat), .int .u8 (hb 31 : Nat)] 25)) #[.int .u64 (t0 : Nat), .int .u64 (t1 : Nat), .int .u64 (t2 : Nat), .int .u64 (t3 : Nat)] 51; simpa using this
  generalize (w.alloc (.cells #[.int .u8 (hb 0 : Nat), .int .u8 (hb 1 : Nat), .int .u8 (hb 2 : Nat), .int .u8 (hb 3 : Nat), .int .u8 (hb 4 : Nat), .int .u8 (hb 5 : Nat), .int .u8 (hb 6 : Nat), .int .u8 (hb 7 : Nat), .int .u8 (hb 8 : Nat), .int .u8 (hb 9 : Nat), .int .u8 (hb 10 : Nat), .int .u8 (hb 11 : Nat), .int .u8 (hb 12 : Nat), .int .u8 (hb 13 : Nat), .int .u8 (hb 14 : Nat), .int .u8 (hb 15 : Nat), .int .u8 (hb 16 : Nat), .int .u8 (hb 17 : Nat), .int .u8 (hb 18 : Nat), .int .u8 (hb 19 : Nat), .int .u8 (hb 20 : Nat), .int .u8 (hb 21 : Nat), .int .u8 (hb 22 : Nat), .int .u8 (hb 23 : Nat), .int .u8 (hb 24 : Nat), .int .u8 (hb 25 : Nat), .int .u8 (hb 26 : Nat), .int .u8 (hb 27 : Nat), .int .u8 (hb 28 : Nat), .int .u8 (hb 29 : Nat), .int .u8 (hb 30 : Nat), .int .u8 (hb 31 : Nat)] 25)).alloc (.cells #[.int .u64 (t0 : Nat), .int .u64 (t1 : Nat), .int .u64 (t2 : Nat), .int .u64 (t3 : Nat)] 51) = W1 at *
  have u0 : ∀ u : After W1, u.w.cell? ⟨w.heap.size + 1, 0, none⟩ = some (.int .u64 (t0 : Nat)) := fun u => (H1.later u.below).cell 0
  have u1 : ∀ u : After W1, u.w.cell? ⟨w.heap.size + 1, 1, none⟩ = some (.int .u64 (t1 : Nat)) := fun u => (H1.later u.below).cell 1
  have u2 : ∀ u : After W1, u.w.cell? ⟨w.heap.size + 1, 2, none⟩ = some (.int .u64 (t2 : Nat)) := fun u => (H1.later u.below).cell 2
  have u3 : ∀ u : After W1, u.w.cell? ⟨w.heap.size + 1, 3, none⟩ = some (.int .u64 (t3 : Nat)) := fun u => (H1.later u.below).cell 3
  refine wp_region_after (by kernel_rfl) (by kernel_rfl) ?_
  repeat (go_big_quiet_step (fail))
  refine wpQuiet_nil ?_
  rintro _ ⟨u, rfl⟩
  have PC := below_step PB u.below
  clear PB H1 HH
  have PB := Lib.hid PC
  clear PC
  go_wp2_with fail
  go_ret
  exact ⟨rfl, PB.out⟩

set_option maxRecDepth 100000 in
set_option maxHeartbeats 8000000 in
theorem meets_some (hb : Nat → Nat) (t0 t1 t2 t3 s0 s1 s2 s3 : Nat) (r : Bool) (ez : EqZ t0 t1 t2 t3 false) (oh : OfHashIs hb s0 s1 s2 s3) (less : LessIs t0 t1 t2 t3 s0 s1 s2 s3 r) : MeetsIs hb t0 t1 t2 t3 (!r) := by
  intro w
  have OH := Lib.hid oh
  clear oh
  have LESSH := Lib.hid less
  clear less
  unfold EqZ at ez
  go_enter Tryz.func69, Tryz.ntmps69
  go_wp2_with fail
  have PB : Below w.heap.size w ((w.alloc (.cells #[.int .u8 (hb 0 : Nat), .int .u8 (hb 1 : Nat), .int .u8 (hb 2 : Nat), .int .u8 (hb 3 : Nat), .int .u8 (hb 4 : Nat), .int .u8 (hb 5 : Nat), .int .u8 (hb 6 : Nat), .int .u8 (hb 7 : Nat), .int .u8 (hb 8 : Nat), .int .u8 (hb 9 : Nat), .int .u8 (hb 10 : Nat), .int .u8 (hb 11 : Nat), .int .u8 (hb 12 : Nat), .int .u8 (hb 13 : Nat), .int .u8 (hb 14 : Nat), .int .u8 (hb 15 : Nat), .int .u8 (hb 16 : Nat), .int .u8 (hb 17 : Nat), .int .u8 (hb 18 : Nat), .int .u8 (hb 19 : Nat), .int .u8 (hb 20 : Nat), .int .u8 (hb 21 : Nat), .int .u8 (hb 22 : Nat), .int .u8 (hb 23 : Nat), .int .u8 (hb 24 : Nat), .int .u8 (hb 25 : Nat), .int .u8 (hb 26 : Nat), .int .u8 (hb 27 : Nat), .int .u8 (hb 28 : Nat), .int .u8 (hb 29 : Nat), .int .u8 (hb 30 : Nat), .int .u8 (hb 31 : Nat)] 25)).alloc (.cells #[.int .u64 (t0 : Nat), .int .u64 (t1 : Nat), .int .u64 (t2 : Nat), .int .u64 (t3 : Nat)] 51)) := ((Below.refl _ _).alloc (Nat.le_refl _) _).alloc (by simp) _
  have HH : Holds ((w.alloc (.cells #[.int .u8 (hb 0 : Nat), .int .u8 (hb 1 : Nat), .int .u8 (hb 2 : Nat), .int .u8 (hb 3 : Nat), .int .u8 (hb 4 : Nat), .int .u8 (hb 5 : Nat), .int .u8 (hb 6 : Nat), .int .u8 (hb 7 : Nat), .int .u8 (hb 8 : Nat), .int .u8 (hb 9 : Nat), .int .u8 (hb 10 : Nat), .int .u8 (hb 11 : Nat), .int .u8 (hb 12 : Nat), .int .u8 (hb 13 : Nat), .int .u8 (hb 14 : Nat), .int .u8 (hb 15 : Nat), .int .u8 (hb 16 : Nat), .int .u8 (hb 17 : Nat), .int .u8 (hb 18 : Nat), .int .u8 (hb 19 : Nat), .int .u8 (hb 20 : Nat), .int .u8 (hb 21 : Nat), .int .u8 (hb 22 : Nat), .int .u8 (hb 23 : Nat), .int .u8 (hb 24 : Nat), .int .u8 (hb 25 : Nat), .int .u8 (hb 26 : Nat), .int .u8 (hb 27 : Nat), .int .u8 (hb 28 : Nat), .int .u8 (hb 29 : Nat), .int .u8 (hb 30 : Nat), .int .u8 (hb 31 : Nat)] 25)).alloc (.cells #[.int .u64 (t0 : Nat), .int .u64 (t1 : Nat), .int .u64 (t2 : Nat), .int .u64 (t3 : Nat)] 51)) w.heap.size #[.int .u8 (hb 0 : Nat), .int .u8 (hb 1 : Nat), .int .u8 (hb 2 : Nat), .int .u8 (hb 3 : Nat), .int .u8 (hb 4 : Nat), .int .u8 (hb 5 : Nat), .int .u8 (hb 6 : Nat), .int .u8 (hb 7 : Nat), .int .u8 (hb 8 : Nat), .int .u8 (hb 9 : Nat), .int .u8 (hb 10 : Nat), .int .u8 (hb 11 : Nat), .int .u8 (hb 12 : Nat), .int .u8 (hb 13 : Nat), .int .u8 (hb 14 : Nat), .int .u8 (hb 15 : Nat), .int .u8 (hb 16 : Nat), .int .u8 (hb 17 : Nat), .int .u8 (hb 18 : Nat), .int .u8 (hb 19 : Nat), .int .u8 (hb 20 : Nat), .int .u8 (hb 21 : Nat), .int .u8 (hb 22 : Nat), .int .u8 (hb 23 : Nat), .int .u8 (hb 24 : Nat), .int .u8 (hb 25 : Nat), .int .u8 (hb 26 : Nat), .int .u8 (hb 27 : Nat), .int .u8 (hb 28 : Nat), .int .u8 (hb 29 : Nat), .int .u8 (hb 30 : Nat), .int .u8 (hb 31 : Nat)] 25 := (Holds.new _ _ _).later ((Below.refl _ _).alloc (Nat.le_refl _) _)
  have H1 : Holds ((w.alloc (.cells #[.int .u8 (hb 0 : Nat), .int .u8 (hb 1 : Nat), .int .u8 (hb 2 : Nat), .int .u8 (hb 3 : Nat), .int .u8 (hb 4 : Nat), .int .u8 (hb 5 : Nat), .int .u8 (hb 6 : Nat), .int .u8 (hb 7 : Nat), .int .u8 (hb 8 : Nat), .int .u8 (hb 9 : Nat), .int .u8 (hb 10 : Nat), .int .u8 (hb 11 : Nat), .int .u8 (hb 12 : Nat), .int .u8 (hb 13 : Nat), .int .u8 (hb 14 : Nat), .int .u8 (hb 15 : Nat), .int .u8 (hb 16 : Nat), .int .u8 (hb 17 : Nat), .int .u8 (hb 18 : Nat), .int .u8 (hb 19 : Nat), .int .u8 (hb 20 : Nat), .int .u8 (hb 21 : Nat), .int .u8 (hb 22 : Nat), .int .u8 (hb 23 : Nat), .int .u8 (hb 24 : Nat), .int .u8 (hb 25 : Nat), .int .u8 (hb 26 : Nat), .int .u8 (hb 27 : Nat), .int .u8 (hb 28 : Nat), .int .u8 (hb 29 : Nat), .int .u8 (hb 30 : Nat), .int .u8 (hb 31 : Nat)] 25)).alloc (.cells #[.int .u64 (t0 : Nat), .int .u64 (t1 : Nat), .int .u64 (t2 : Nat), .int .u64 (t3 : Nat)] 51)) (w.heap.size + 1) #[.int .u64 (t0 : Nat), .int .u64 (t1 : Nat), .int .u64 (t2 : Nat), .int .u64 (t3 : Nat)] 51 := by have := Holds.new (w.alloc (.cells #[.int .u8 (hb 0 : Nat), .int .u8 (hb 1 : Nat), .int .u8 (hb 2 : Nat), .int .u8 (hb 3 : Nat), .int .u8 (hb 4 : Nat), .int .u8 (hb 5 : Nat), .int .u8 (hb 6 : Nat), .int .u8 (hb 7 : Nat), .int .u8 (hb 8 : Nat), .int .u8 (hb 9 : Nat), .int .u8 (hb 10 : Nat), .int .u8 (hb 11 : Nat), .int .u8 (hb 12 : Nat), .int .u8 (hb 13 : Nat), .int .u8 (hb 14 : Nat), .int .u8 (hb 15 : Nat), .int .u8 (hb 16 : Nat), .int .u8 (hb 17 : Nat), .int .u8 (hb 18 : Nat), .int .u8 (hb 19 : Nat), .int .u8 (hb 20 : Nat), .int .u8 (hb 21 : Nat), .int .u8 (hb 22 : Nat), .int .u8 (hb 23 : Nat), .int .u8 (hb 24 : Nat), .int .u8 (hb 25 : Nat), .int .u8 (hb 26 : Nat), .int .u8 (hb 27 : Nat), .int .u8 (hb 28 : Nat), .int .u8 (hb 29 : Nat), .int .u8 (hb 30 : Nat), .int .u8 (hb 31 : Nat)] 25)) #[.int .u64 (t0 : Nat), .int .u64 (t1 : Nat), .int .u64 (t2 : Nat), .int .u64 (t3 : Nat)] 51; simpa using this
  generalize (w.alloc (.cells #[.int .u8 (hb 0 : Nat), .int .u8 (hb 1 : Nat), .int .u8 (hb 2 : Nat), .int .u8 (hb 3 : Nat), .int .u8 (hb 4 : Nat), .int .u8 (hb 5 : Nat), .int .u8 (hb 6 : Nat), .int .u8 (hb 7 : Nat), .int .u8 (hb 8 : Nat), .int .u8 (hb 9 : Nat), .int .u8 (hb 10 : Nat), .int .u8 (hb 11 : Nat), .int .u8 (hb 12 : Nat), .int .u8 (hb 13 : Nat), .int .u8 (hb 14 : Nat), .int .u8 (hb 15 : Nat), .int .u8 (hb 16 : Nat), .int .u8 (hb 17 : Nat), .int .u8 (hb 18 : Nat), .int .u8 (hb 19 : Nat), .int .u8 (hb 20 : Nat), .int .u8 (hb 21 : Nat), .int .u8 (hb 22 : Nat), .int .u8 (hb 23 : Nat), .int .u8 (hb 24 : Nat), .int .u8 (hb 25 : Nat), .int .u8 (hb 26 : Nat), .int .u8 (hb 27 : Nat), .int .u8 (hb 28 : Nat), .int .u8 (hb 29 : Nat), .int .u8 (hb 30 : Nat), .int .u8 (hb 31 : Nat)] 25)).alloc (.cells #[.int .u64 (t0 : Nat), .int .u64 (t1 : Nat), .int .u64 (t2 : Nat), .int .u64 (t3 : Nat)] 51) = W1 at *
  have u0 : ∀ u : After W1, u.w.cell? ⟨w.heap.size + 1, 0, none⟩ = some (.int .u64 (t0 : Nat)) := fun u => (H1.later u.below).cell 0
  have u1 : ∀ u : After W1, u.w.cell? ⟨w.heap.size + 1, 1, none⟩ = some (.int .u64 (t1 : Nat)) := fun u => (H1.later u.below).cell 1
  have u2 : ∀ u : After W1, u.w.cell? ⟨w.heap.size + 1, 2, none⟩ = some (.int .u64 (t2 : Nat)) := fun u => (H1.later u.below).cell 2
  have u3 : ∀ u : After W1, u.w.cell? ⟨w.heap.size + 1, 3, none⟩ = some (.int .u64 (t3 : Nat)) := fun u => (H1.later u.below).cell 3
  refine wp_region_after (by kernel_rfl) (by kernel_rfl) ?_
  repeat (go_big_quiet_step ((first | (go_at_call 92; exact after_call (OH.out _)) | (go_at_call 63; exact after_call (LESSH.out _)))))
  go_big_quiet_want
  refine quiet_load_row 25 (.tmp 2) rfl w.heap.size rfl 25 #[.int .u8 (hb 0 : Nat), .int .u8 (hb 1 : Nat), .int .u8 (hb 2 : Nat), .int .u8 (hb 3 : Nat), .int .u8 (hb 4 : Nat), .int .u8 (hb 5 : Nat), .int .u8 (hb 6 : Nat), .int .u8 (hb 7 : Nat), .int .u8 (hb 8 : Nat), .int .u8 (hb 9 : Nat), .int .u8 (hb 10 : Nat), .int .u8 (hb 11 : Nat), .int .u8 (hb 12 : Nat), .int .u8 (hb 13 : Nat), .int .u8 (hb 14 : Nat), .int .u8 (hb 15 : Nat), .int .u8 (hb 16 : Nat), .int .u8 (hb 17 : Nat), .int .u8 (hb 18 : Nat), .int .u8 (hb 19 : Nat), .int .u8 (hb 20 : Nat), .int .u8 (hb 21 : Nat), .int .u8 (hb 22 : Nat), .int .u8 (hb 23 : Nat), .int .u8 (hb 24 : Nat), .int .u8 (hb 25 : Nat), .int .u8 (hb 26 : Nat), .int .u8 (hb 27 : Nat), .int .u8 (hb 28 : Nat), .int .u8 (hb 29 : Nat), .int .u8 (hb 30 : Nat), .int .u8 (hb 31 : Nat)] _ (by rintro _ ⟨u, rfl⟩; exact HH.later u.below) Tryz.underlying25 rfl (by kernel_rfl) ?_
  go_big_quiet_on
  simp only [Act.put, List.setIfInBounds_toArray, List.set_cons_succ, List.set_cons_zero]
  repeat (go_big_quiet_step ((first | (go_at_call 92; exact after_call (OH.out _)) | (go_at_call 63; exact after_call (LESSH.out _)))))
  refine wpQuiet_nil ?_
  rintro _ ⟨u, rfl⟩
  have PC := below_step PB u.below
  clear PB H1 HH
  have PB := Lib.hid PC
  clear PC
  go_wp2_with fail
  go_ret
  exact ⟨rfl, PB.out⟩

theorem meetsIs {hb : Nat → Nat} {t0 t1 t2 t3 : Nat} (h : Bytes hb) (ht : Words t0 t1 t2 t3) (r : Bool) (hr : r = decide (val t0 t1 t2 t3 ≠ 0 ∧ hashNum hb 32 ≤ val t0 t1 t2 t3)) : MeetsIs hb t0 t1 t2 t3 r := by
  obtain ⟨s0, s1, s2, s3, ws, es⟩ := words_of (hash_lt h)
  by_cases z : val t0 t1 t2 t3 = 0
  · rw [hr, decide_eq_false (fun k => k.1 z)]
    exact meets_zero hb t0 t1 t2 t3 (eqZ ht true (by symm; rw [decide_eq_true_iff]; exact z))
  · have m := meets_some hb t0 t1 t2 t3 s0 s1 s2 s3 _ (eqZ ht false (by symm; rw [decide_eq_false_iff_not]; exact z)) (ofHashIs h ws es) (lessIs ht ws _ rfl)
    have e : r = (!decide (val t0 t1 t2 t3 < val s0 s1 s2 s3)) := by
      rw [hr, es, Bool.eq_iff_iff, decide_eq_true_iff, Bool.not_eq_true', decide_eq_false_iff_not]
      omega
    rw [e]; exact m

end Go.Proofs.YtimjmmiajgfblaaGreatDoor.Bg
