/- BigMoves returns true for every number and every shift, and each argument reads afterwards as it read before. No condition. -/
import Derived.Test.YtcjggdoopehkpaaRows
import Derived.Test.YtcjggdoopehkpaaMoves
import Derived.Test.YtcjggdoopehkpaaOpen
namespace Go.Proofs.Ytcjggdoopehkpaa
open Go.ChangeShapes Go.WideShapes Go.ChangeAt Go.RowKit

theorem BitsOf.down {x n k : Nat} (h : BitsOf x n) : BitsOf (x / 2 ^ k) (n - k) := by
  have hp : 0 < 2 ^ k := Nat.two_pow_pos k
  by_cases h0 : x = 0
  · rw [h.1 h0, h0]; simp [BitsOf]
  · obtain ⟨a, b, c⟩ := h.2 h0
    by_cases hk : n ≤ k
    · have hx : x < 2 ^ k := Nat.lt_of_lt_of_le c (Nat.pow_le_pow_right (by omega) hk)
      rw [Nat.div_eq_of_lt hx, show n - k = 0 by omega]; simp [BitsOf]
    · have h1 : 2 ^ (n - k - 1) ≤ x / 2 ^ k := by
        rw [Nat.le_div_iff_mul_le hp, ← Nat.pow_add, show n - k - 1 + k = n - 1 by omega]; exact b
      have h2 : x / 2 ^ k < 2 ^ (n - k) := by
        rw [Nat.div_lt_iff_lt_mul hp, ← Nat.pow_add, show n - k + k = n by omega]; exact c
      exact ⟨fun e => by have := Nat.two_pow_pos (n - k - 1); omega, fun _ => ⟨by omega, h1, h2⟩⟩
theorem BitsOf.le {x n m : Nat} (h : BitsOf x n) (hx : x < 2 ^ m) : n ≤ m := by
  by_cases h0 : x = 0
  · rw [h.1 h0]; omega
  · obtain ⟨a, b, c⟩ := h.2 h0
    rcases Nat.lt_or_ge m n with hlt | hge
    · have : 2 ^ m ≤ 2 ^ (n - 1) := Nat.pow_le_pow_right (by omega) (by omega)
      omega
    · exact hge
theorem BitsOf.lt {x n : Nat} (h : BitsOf x n) : x < 2 ^ n := by
  by_cases h0 : x = 0
  · rw [h0]; exact Nat.two_pow_pos n
  · exact (h.2 h0).2.2

theorem moves_any (a0 a1 a2 a3 k : Nat) (ha : Words a0 a1 a2 a3) (hk : k < 256) (w : World) :
    Calls Try.prog 7 #[.agg #[.int .u64 (a0 : Nat), .int .u64 (a1 : Nat), .int .u64 (a2 : Nat), .int .u64 (a3 : Nat)], .int .u8 (k : Nat)] w fun e w' => e = .returned (.bool true) ∧ Below w.heap.size w w' := by
  have lA := val_lt ha
  have e256 : (2 : Nat) ^ 256 = 115792089237316195423570985008687907853269984665640564039457584007913129639936 := by decide
  have e255 : (2 : Nat) ^ 255 = 57896044618658097711785492504343953926634992332820282019728792003956564819968 := by decide
  have hp : 0 < 2 ^ k := Nat.two_pow_pos k
  have hpM : 2 ^ k < 115792089237316195423570985008687907853269984665640564039457584007913129639936 := by rw [← e256]; exact Nat.pow_lt_pow_right (by omega) hk
  have nA := bits4_of ha
  obtain ⟨t0, t1, t2, t3, wt, et⟩ := words_of (x := (val a0 a1 a2 a3 + val a0 a1 a2 a3) % 115792089237316195423570985008687907853269984665640564039457584007913129639936) (Nat.mod_lt _ (by decide))
  obtain ⟨p0, p1, p2, p3, wp, ep⟩ := words_of (x := 2 ^ k) hpM
  obtain ⟨q0, q1, q2, q3, wq, eq⟩ := words_of (x := val a0 a1 a2 a3 / 2 ^ k) (Nat.lt_of_le_of_lt (Nat.div_le_self _ _) lA)
  obtain ⟨r0, r1, r2, r3, wr, er⟩ := words_of (x := val a0 a1 a2 a3 % 2 ^ k) (Nat.lt_of_le_of_lt (Nat.mod_le _ _) lA)
  obtain ⟨s0, s1, s2, s3, ws, es⟩ := words_of (x := val a0 a1 a2 a3 * 2 ^ k % 115792089237316195423570985008687907853269984665640564039457584007913129639936) (Nat.mod_lt _ (by decide))
  have dm := Nat.div_add_mod (val a0 a1 a2 a3) (2 ^ k)
  rw [Nat.mul_comm] at dm
  obtain ⟨v0, v1, v2, v3, wv, ev⟩ := words_of (x := val a0 a1 a2 a3 / 2 ^ k * 2 ^ k) (by omega)
  have one : Words 1 0 0 0 := ⟨by omega, by omega, by omega, by omega⟩
  have nQ := bits4_of wq
  have dnA := nA.down (k := k)
  rw [← eq] at dnA
  have uq := nQ.uniq dnA
  have bA := bitsIs ha
  have bQ := bitsIs wq
  have na256 := nA.le (m := 256) (by rw [e256]; exact lA)
  have nb : BitsOf (val a0 a1 a2 a3) 256 ↔ 115792089237316195423570985008687907853269984665640564039457584007913129639936 ≤ val a0 a1 a2 a3 + val a0 a1 a2 a3 := by
    constructor
    · intro h
      by_cases h0 : val a0 a1 a2 a3 = 0
      · have := h.1 h0; omega
      · have := (h.2 h0).2.1
        rw [show 256 - 1 = 255 from rfl, e255] at this
        omega
    · intro h
      refine ⟨fun h0 => by omega, fun _ => ⟨by omega, ?_, by rw [e256]; exact lA⟩⟩
      rw [show 256 - 1 = 255 from rfl, e255]
      omega
  generalize bits4 (Lib.bitLen a0) (Lib.bitLen a1) (Lib.bitLen a2) (Lib.bitLen a3) a0 a1 a2 a3 = na at *
  generalize bits4 (Lib.bitLen q0) (Lib.bitLen q1) (Lib.bitLen q2) (Lib.bitLen q3) q0 q1 q2 q3 = nq at *
  have add := addIs ha ha wt (decide (115792089237316195423570985008687907853269984665640564039457584007913129639936 ≤ val a0 a1 a2 a3 + val a0 a1 a2 a3)) et rfl
  have up1 := upIs ha (n := 1) (by omega) wt (by rw [et, Nat.pow_one, Nat.mul_two])
  have upk := upIs one hk wp (by rw [ep, show val 1 0 0 0 = 1 from rfl, Nat.one_mul, Nat.mod_eq_of_lt hpM])
  have div := divIs ha wp wq wr (by rw [ep]; exact hp) (by rw [ep]; exact eq) (by rw [ep]; exact er)
  have down := downIs ha hk wq eq
  have upq := upIs wq hk wv (by rw [ev, eq, Nat.mod_eq_of_lt (by omega)])
  have sub := subIs ha wv wr false (by rw [er, ev, if_neg (by omega)]; omega) (by rw [ev]; symm; rw [decide_eq_false_iff_not]; omega)
  have upa := upIs ha hk ws es
  refine moves_walk a0 a1 a2 a3 k na nq t0 t1 t2 t3 p0 p1 p2 p3 q0 q1 q2 q3 r0 r1 r2 r3 v0 v1 v2 v3 s0 s1 s2 s3 _ _ w hk na256 (by omega) add up1 bA ?_ upk div down upq sub bQ uq upa ?_ rfl
  · rw [Bool.eq_iff_iff, beq_iff_eq, decide_eq_true_iff, ← nb]
    constructor
    · intro h
      have : na = 256 := by omega
      rw [← this]; exact nA
    · intro h
      have := nA.uniq h
      omega
  · intro hz
    have hz' : na + k ≤ 256 := by
      have := of_decide_eq_false hz
      omega
    have hs : val a0 a1 a2 a3 * 2 ^ k < 115792089237316195423570985008687907853269984665640564039457584007913129639936 := by
      have h1 : val a0 a1 a2 a3 * 2 ^ k < 2 ^ na * 2 ^ k := Nat.mul_lt_mul_of_pos_right nA.lt hp
      rw [← Nat.pow_add] at h1
      have h2 : 2 ^ (na + k) ≤ 2 ^ 256 := Nat.pow_le_pow_right (by omega) hz'
      omega
    refine downIs ws hk ha ?_
    rw [es, Nat.mod_eq_of_lt hs, Nat.mul_div_cancel _ hp]

set_option maxRecDepth 100000 in
theorem bigMoves_lifted (os : Os) (started : os.Started) (H : Type) (enc : TypeId × Value → H) :
    ReturnsInHanded {} Try.checked os 7 .any (Rows.bigMovesSpec.pre6 enc Try.prog Try.f7 Rows.bigMovesRow.domain false) (Rows.bigMovesSpec.post enc Try.prog Try.f7 false true false false) := by
  refine returnsInHanded_of_change (C := Try.checked) Try.own started (by kernel_rfl) Try.func7
    (ChangeSpec.witness6 (enc := enc) (C := Try.checked) false ⟨#[], #[.agg #[.int .u64 0, .int .u64 0, .int .u64 0, .int .u64 0], .int .u8 0], []⟩ 8 (by kernel_rfl) (by kernel_rfl) (by kernel_rfl) (by kernel_rfl)) ?_
  intro W base args ds gs before hval0 hW hcnd _
  have hval : ∀ (j : Nat) t v, Try.f7.params[j]? = some t → args[j]? = some v → Value.okWide Try.prog W .any base t v := hval0
  have hW' := hW
  obtain ⟨p, q, hA0, hV, rfl, hfz, hnd⟩ := hW
  have hA : DataW.TrodAll enc Try.prog W 0 (fun _ => true) true Try.f7.params.toList args.toList ds p := hA0
  rw [Try.params7] at hA hval
  obtain ⟨v0, vs0, d0, ds0, p0, q0, hargs, rfl, rfl, h0, r0⟩ := trodAll_cons hA
  obtain ⟨v1, vs1, d1, ds1, p1, q1, rfl, rfl, rfl, h1, r1⟩ := trodAll_cons r0
  obtain ⟨rfl, rfl, rfl⟩ := trodAll_nil r1
  obtain rfl : args = #[v0, v1] := by cases args; simp_all
  obtain ⟨rfl, rfl⟩ := trodVars_none hV
  have lt0 : ∀ x ∈ p0, x.block < W.heap.size := by obtain ⟨m, hm⟩ := h0; exact DataW.trod_lt m _ _ _ hm
  have lt1 : ∀ x ∈ p1, x.block < W.heap.size := by obtain ⟨m, hm⟩ := h1; exact DataW.trod_lt m _ _ _ hm
  obtain ⟨a0, a1, a2, a3, wa, rfl⟩ := open_big (hval 0 24 v0 rfl rfl) h0
  obtain ⟨b, wb, rfl⟩ := open_u8 (hval 1 5 v1 rfl rfl) h1
  clear hA0 hval0
  refine (moves_any a0 a1 a2 a3 b wa wb W).mono fun e W' ⟨he, bel⟩ => ?_
  subst he
  exact ⟨_, rfl, _, _, _, [], _, [], hW', trodAll_mk1 (shut_bool Try.underlying4 _), (trodAll_cons_mk (Below.trod Try.laidOut (by kernel_rfl) (of_decide_eq_true (by kernel_rfl)) h0 bel lt0) (trodAll_cons_mk (Below.trod Try.laidOut (by kernel_rfl) (of_decide_eq_true (by kernel_rfl)) h1 bel lt1) trodAll_mk0)), rfl, bel.frame _, fun h => by cases h⟩

theorem bigMoves_holds : Rows.BigMovesSaid :=
  OpenClaim.holds_of_wide 7 Try.f7 rfl rfl rfl rfl rfl rfl rfl ⟨rfl, rfl, rfl, rfl, rfl⟩ rfl rfl rfl rfl rfl (by kernel_rfl) Try.func7 (by kernel_rfl)
    (of_decide_eq_true (by kernel_rfl)) (by unfold Func.isWrapper; rw [if_neg (of_decide_eq_false (by kernel_rfl))]; exact ⟨rfl, rfl⟩)
    (fun os started H enc _ => bigMoves_lifted os started H enc)

end Go.Proofs.Ytcjggdoopehkpaa
