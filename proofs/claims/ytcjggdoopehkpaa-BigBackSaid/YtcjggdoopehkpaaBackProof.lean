/- BigBack returns true for every two numbers and every word, and each argument reads afterwards as it read before. No condition. -/
import Derived.Test.YtcjggdoopehkpaaRows
import Derived.Test.YtcjggdoopehkpaaBackb0
import Derived.Test.YtcjggdoopehkpaaBackall
import Derived.Test.YtcjggdoopehkpaaOpen
namespace Go.Proofs.Ytcjggdoopehkpaa
open Go.ChangeShapes Go.WideShapes Go.ChangeAt Go.RowKit

theorem eqZ {x0 x1 x2 x3 : Nat} (h : Words x0 x1 x2 x3) (r : Bool) (hr : r = decide (val x0 x1 x2 x3 = 0)) : EqZ x0 x1 x2 x3 r := eqz h (c := 0) (by omega) r hr

theorem back_any (a0 a1 a2 a3 b0 b1 b2 b3 n : Nat) (ha : Words a0 a1 a2 a3) (hb : Words b0 b1 b2 b3) (hn : n < 18446744073709551616) (w : World) :
    Calls Try.prog 6 #[.agg #[.int .u64 (a0 : Nat), .int .u64 (a1 : Nat), .int .u64 (a2 : Nat), .int .u64 (a3 : Nat)], .agg #[.int .u64 (b0 : Nat), .int .u64 (b1 : Nat), .int .u64 (b2 : Nat), .int .u64 (b3 : Nat)], .int .u64 (n : Nat)] w fun e w' => e = .returned (.bool true) ∧ Below w.heap.size w w' := by
  have lA := val_lt ha
  have lB := val_lt hb
  obtain ⟨s0, s1, s2, s3, ws, es⟩ := words_of (x := (val a0 a1 a2 a3 + val b0 b1 b2 b3) % 115792089237316195423570985008687907853269984665640564039457584007913129639936) (Nat.mod_lt _ (by decide))
  obtain ⟨t0, t1, t2, t3, wt, et⟩ := words_of (x := if val a0 a1 a2 a3 < val b0 b1 b2 b3 then val a0 a1 a2 a3 + 115792089237316195423570985008687907853269984665640564039457584007913129639936 - val b0 b1 b2 b3 else val a0 a1 a2 a3 - val b0 b1 b2 b3) (by split <;> omega)
  have add1 := addIs ha hb ws (decide (115792089237316195423570985008687907853269984665640564039457584007913129639936 ≤ val a0 a1 a2 a3 + val b0 b1 b2 b3)) es rfl
  have over : val s0 s1 s2 s3 < val b0 b1 b2 b3 ↔ 115792089237316195423570985008687907853269984665640564039457584007913129639936 ≤ val a0 a1 a2 a3 + val b0 b1 b2 b3 := by rw [es]; omega
  have over2 : val s0 s1 s2 s3 < val a0 a1 a2 a3 ↔ 115792089237316195423570985008687907853269984665640564039457584007913129639936 ≤ val a0 a1 a2 a3 + val b0 b1 b2 b3 := by rw [es]; omega
  have sub1 := subIs ws hb ha (decide (115792089237316195423570985008687907853269984665640564039457584007913129639936 ≤ val a0 a1 a2 a3 + val b0 b1 b2 b3)) (by
    by_cases h : 115792089237316195423570985008687907853269984665640564039457584007913129639936 ≤ val a0 a1 a2 a3 + val b0 b1 b2 b3
    · rw [if_pos (over.2 h), es]; omega
    · rw [if_neg (fun k => h (over.1 k)), es]; omega) (by rw [decide_eq_decide]; exact over.symm)
  have less1 := lessIs ws ha (decide (115792089237316195423570985008687907853269984665640564039457584007913129639936 ≤ val a0 a1 a2 a3 + val b0 b1 b2 b3)) (by rw [decide_eq_decide]; exact over2.symm)
  have sub2 := subIs ha hb wt (decide (val a0 a1 a2 a3 < val b0 b1 b2 b3)) et rfl
  have add2 := addIs wt hb ha (decide (val a0 a1 a2 a3 < val b0 b1 b2 b3)) (by rw [et]; split <;> omega) (by rw [decide_eq_decide, et]; split <;> omega)
  have less2 := lessIs ha hb _ rfl
  have ea := eqIs ha ha true (by symm; rw [decide_eq_true_iff])
  by_cases n0 : n = 0
  · exact back_n0 a0 a1 a2 a3 b0 b1 b2 b3 s0 s1 s2 s3 t0 t1 t2 t3 n _ _ w add1 sub1 ea less1 sub2 add2 less2 (beq_iff_eq.2 (by omega))
  · have hn0 : ((n : Int) == 0) = false := beq_eq_false_iff_ne.2 (by omega)
    have wn : Words n 0 0 0 := ⟨hn, by omega, by omega, by omega⟩
    have vn : val n 0 0 0 = n := by unfold val; omega
    obtain ⟨q0, q1, q2, q3, wq, eq⟩ := words_of (x := val a0 a1 a2 a3 / n) (Nat.lt_of_le_of_lt (Nat.div_le_self _ _) lA)
    obtain ⟨r0, r1, r2, r3, wr, er⟩ := words_of (x := val a0 a1 a2 a3 % n) (Nat.lt_of_le_of_lt (Nat.mod_le _ _) lA)
    have dm := Nat.div_add_mod (val a0 a1 a2 a3) n
    rw [Nat.mul_comm] at dm
    have rlt := Nat.mod_lt (val a0 a1 a2 a3) (show 0 < n by omega)
    obtain ⟨m0, m1, m2, m3, wm, em⟩ := words_of (x := val a0 a1 a2 a3 / n * n) (by omega)
    have divw := divIs ha wn wq wr (by rw [vn]; omega) (by rw [vn]; exact eq) (by rw [vn]; exact er)
    have mul := mulIs wq hn wm (m := 0) (by rw [em, eq, Nat.mul_zero, Nat.add_zero])
    have add3 := addIs wm wr ha false (by rw [em, er, dm, Nat.mod_eq_of_lt lA]) (by symm; rw [decide_eq_false_iff_not, em, er, dm]; omega)
    have lessw := lessIs wr wn true (by symm; rw [decide_eq_true_iff, er, vn]; exact rlt)
    by_cases b0' : val b0 b1 b2 b3 = 0
    · exact back_b0 a0 a1 a2 a3 b0 b1 b2 b3 s0 s1 s2 s3 t0 t1 t2 t3 q0 q1 q2 q3 r0 r1 r2 r3 m0 m1 m2 m3 n _ _ w add1 sub1 ea less1 sub2 add2 less2 hn0 divw mul add3 lessw (eqZ hb true (by symm; rw [decide_eq_true_iff]; exact b0'))
    · have pos : 0 < val b0 b1 b2 b3 := by omega
      obtain ⟨k0, k1, k2, k3, wk, ek⟩ := words_of (x := val a0 a1 a2 a3 / val b0 b1 b2 b3) (Nat.lt_of_le_of_lt (Nat.div_le_self _ _) lA)
      obtain ⟨l0, l1, l2, l3, wl, el⟩ := words_of (x := val a0 a1 a2 a3 % val b0 b1 b2 b3) (Nat.lt_of_le_of_lt (Nat.mod_le _ _) lA)
      obtain ⟨z0, z1, z2, z3, wz, ez⟩ := words_of (x := 0) (by decide)
      have dm2 := Nat.div_add_mod (val a0 a1 a2 a3) (val b0 b1 b2 b3)
      rw [Nat.mul_comm] at dm2
      have rlt2 := Nat.mod_lt (val a0 a1 a2 a3) pos
      obtain ⟨x0, x1, x2, x3, wx, ex⟩ := words_of (x := val a0 a1 a2 a3 / val b0 b1 b2 b3 * val b0 b1 b2 b3) (by omega)
      have divb := divIs ha hb wk wl pos ek el
      have divl := divIs wl hb wz wl pos (by rw [ez, el, Nat.div_eq_of_lt rlt2]) (by rw [el, Nat.mod_eq_of_lt rlt2])
      have lessl := lessIs wl hb true (by symm; rw [decide_eq_true_iff, el]; exact rlt2)
      have subl := subIs ha wl wx false (by rw [ex, el, if_neg (by omega)]; omega) (by symm; rw [decide_eq_false_iff_not, el]; omega)
      have divx := divIs wx hb wk wz pos (by rw [ex, ek, Nat.mul_div_cancel _ pos]) (by rw [ex, ez, Nat.mul_mod_left])
      exact back_all a0 a1 a2 a3 b0 b1 b2 b3 s0 s1 s2 s3 t0 t1 t2 t3 q0 q1 q2 q3 r0 r1 r2 r3 m0 m1 m2 m3 k0 k1 k2 k3 l0 l1 l2 l3 z0 z1 z2 z3 x0 x1 x2 x3 n _ _ w add1 sub1 ea less1 sub2 add2 less2 hn0 divw mul add3 lessw
        (eqZ hb false (by symm; rw [decide_eq_false_iff_not]; exact b0')) divb divl (eqZ wz true (by symm; rw [decide_eq_true_iff]; exact ez)) lessl subl divx (eqIs wk wk true (by symm; rw [decide_eq_true_iff]))

set_option maxRecDepth 100000 in
theorem bigBack_lifted (os : Os) (started : os.Started) (H : Type) (enc : TypeId × Value → H) :
    ReturnsInHanded {} Try.checked os 6 .any (Rows.bigBackSpec.pre6 enc Try.prog Try.f6 Rows.bigBackRow.domain false) (Rows.bigBackSpec.post enc Try.prog Try.f6 false true false false) := by
  refine returnsInHanded_of_change (C := Try.checked) Try.own started (by kernel_rfl) Try.func6
    (ChangeSpec.witness6 (enc := enc) (C := Try.checked) false ⟨#[], #[.agg #[.int .u64 0, .int .u64 0, .int .u64 0, .int .u64 0], .agg #[.int .u64 0, .int .u64 0, .int .u64 0, .int .u64 0], .int .u64 0], []⟩ 8 (by kernel_rfl) (by kernel_rfl) (by kernel_rfl) (by kernel_rfl)) ?_
  intro W base args ds gs before hval0 hW hcnd _
  have hval : ∀ (j : Nat) t v, Try.f6.params[j]? = some t → args[j]? = some v → Value.okWide Try.prog W .any base t v := hval0
  have hW' := hW
  obtain ⟨p, q, hA0, hV, rfl, hfz, hnd⟩ := hW
  have hA : DataW.TrodAll enc Try.prog W 0 (fun _ => true) true Try.f6.params.toList args.toList ds p := hA0
  rw [Try.params6] at hA hval
  obtain ⟨v0, vs0, d0, ds0, p0, q0, hargs, rfl, rfl, h0, r0⟩ := trodAll_cons hA
  obtain ⟨v1, vs1, d1, ds1, p1, q1, rfl, rfl, rfl, h1, r1⟩ := trodAll_cons r0
  obtain ⟨v2, vs2, d2, ds2, p2, q2, rfl, rfl, rfl, h2, r2⟩ := trodAll_cons r1
  obtain ⟨rfl, rfl, rfl⟩ := trodAll_nil r2
  obtain rfl : args = #[v0, v1, v2] := by cases args; simp_all
  obtain ⟨rfl, rfl⟩ := trodVars_none hV
  have lt0 : ∀ x ∈ p0, x.block < W.heap.size := by obtain ⟨m, hm⟩ := h0; exact DataW.trod_lt m _ _ _ hm
  have lt1 : ∀ x ∈ p1, x.block < W.heap.size := by obtain ⟨m, hm⟩ := h1; exact DataW.trod_lt m _ _ _ hm
  have lt2 : ∀ x ∈ p2, x.block < W.heap.size := by obtain ⟨m, hm⟩ := h2; exact DataW.trod_lt m _ _ _ hm
  obtain ⟨a0, a1, a2, a3, wa, rfl⟩ := open_big (hval 0 24 v0 rfl rfl) h0
  obtain ⟨b0, b1, b2, b3, wb, rfl⟩ := open_big (hval 1 24 v1 rfl rfl) h1
  obtain ⟨c, wc, rfl⟩ := open_u64 (hval 2 22 v2 rfl rfl) h2
  clear hA0 hval0
  refine (back_any a0 a1 a2 a3 b0 b1 b2 b3 c wa wb wc W).mono fun e W' ⟨he, bel⟩ => ?_
  subst he
  exact ⟨_, rfl, _, _, _, [], _, [], hW', trodAll_mk1 (shut_bool Try.underlying4 _), (trodAll_cons_mk (Below.trod Try.laidOut (by kernel_rfl) (of_decide_eq_true (by kernel_rfl)) h0 bel lt0) (trodAll_cons_mk (Below.trod Try.laidOut (by kernel_rfl) (of_decide_eq_true (by kernel_rfl)) h1 bel lt1) (trodAll_cons_mk (Below.trod Try.laidOut (by kernel_rfl) (of_decide_eq_true (by kernel_rfl)) h2 bel lt2) trodAll_mk0))), rfl, bel.frame _, fun h => by cases h⟩

theorem bigBack_holds : Rows.BigBackSaid :=
  OpenClaim.holds_of_wide 6 Try.f6 rfl rfl rfl rfl rfl rfl rfl ⟨rfl, rfl, rfl, rfl, rfl⟩ rfl rfl rfl rfl rfl (by kernel_rfl) Try.func6 (by kernel_rfl)
    (of_decide_eq_true (by kernel_rfl)) (by unfold Func.isWrapper; rw [if_neg (of_decide_eq_false (by kernel_rfl))]; exact ⟨rfl, rfl⟩)
    (fun os started H enc _ => bigBack_lifted os started H enc)

end Go.Proofs.Ytcjggdoopehkpaa
