/- TargetOrder returns true for every two targets and every hash, and each argument reads afterwards as it read before. No condition. -/
import Derived.Test.YtnipajfglmahiaaRows
import Derived.Test.YtnipajfglmahiaaOrder2
namespace Go.Proofs.Ytnipajfglmahiaa
open Go.ChangeShapes Go.WideShapes Go.ChangeAt Go.RowKit

theorem work_lt {v : Nat} (h : v < 115792089237316195423570985008687907853269984665640564039457584007913129639936) : workOf v < 115792089237316195423570985008687907853269984665640564039457584007913129639936 := by
  unfold workOf
  split
  · omega
  · have : (115792089237316195423570985008687907853269984665640564039457584007913129639936 - 1 - v) / (v + 1) ≤ 115792089237316195423570985008687907853269984665640564039457584007913129639936 - 1 - v := Nat.div_le_self _ _
    omega
theorem work_mono {u v : Nat} (h : u ≤ v) (hv : v < 115792089237316195423570985008687907853269984665640564039457584007913129639936) : workOf v ≤ workOf u := by
  by_cases u0 : u = 0
  · have := work_lt hv
    rw [show workOf u = 115792089237316195423570985008687907853269984665640564039457584007913129639936 - 1 by unfold workOf; rw [if_pos u0]]
    omega
  · unfold workOf
    rw [if_neg u0, if_neg (by omega)]
    have : (115792089237316195423570985008687907853269984665640564039457584007913129639936 - 1 - v) / (v + 1) ≤ (115792089237316195423570985008687907853269984665640564039457584007913129639936 - 1 - u) / (u + 1) := Nat.div_le_div (by omega) (by omega) (by omega)
    omega

theorem order_any (a0 a1 a2 a3 b0 b1 b2 b3 : Nat) (hb : Nat → Nat) (ha : Words a0 a1 a2 a3) (hb' : Words b0 b1 b2 b3) (hh : Bytes hb) (w : World) :
    Calls Try.prog 6 #[.agg #[.int .u64 (a0 : Nat), .int .u64 (a1 : Nat), .int .u64 (a2 : Nat), .int .u64 (a3 : Nat)], .agg #[.int .u64 (b0 : Nat), .int .u64 (b1 : Nat), .int .u64 (b2 : Nat), .int .u64 (b3 : Nat)], .agg #[.int .u8 (hb 0 : Nat), .int .u8 (hb 1 : Nat), .int .u8 (hb 2 : Nat), .int .u8 (hb 3 : Nat), .int .u8 (hb 4 : Nat), .int .u8 (hb 5 : Nat), .int .u8 (hb 6 : Nat), .int .u8 (hb 7 : Nat), .int .u8 (hb 8 : Nat), .int .u8 (hb 9 : Nat), .int .u8 (hb 10 : Nat), .int .u8 (hb 11 : Nat), .int .u8 (hb 12 : Nat), .int .u8 (hb 13 : Nat), .int .u8 (hb 14 : Nat), .int .u8 (hb 15 : Nat), .int .u8 (hb 16 : Nat), .int .u8 (hb 17 : Nat), .int .u8 (hb 18 : Nat), .int .u8 (hb 19 : Nat), .int .u8 (hb 20 : Nat), .int .u8 (hb 21 : Nat), .int .u8 (hb 22 : Nat), .int .u8 (hb 23 : Nat), .int .u8 (hb 24 : Nat), .int .u8 (hb 25 : Nat), .int .u8 (hb 26 : Nat), .int .u8 (hb 27 : Nat), .int .u8 (hb 28 : Nat), .int .u8 (hb 29 : Nat), .int .u8 (hb 30 : Nat), .int .u8 (hb 31 : Nat)]] w fun e w' => e = .returned (.bool true) ∧ Below w.heap.size w w' := by
  have lA := val_lt ha
  have lB := val_lt hb'
  obtain ⟨k0, k1, k2, k3, wk, ek⟩ := words_of (work_lt lA)
  obtain ⟨j0, j1, j2, j3, wj, ej⟩ := words_of (work_lt lB)
  obtain ⟨d0, d1, d2, d3, wd, ed⟩ := words_of (x := (val a0 a1 a2 a3 + 1) % 115792089237316195423570985008687907853269984665640564039457584007913129639936) (Nat.mod_lt _ (by decide))
  have w1 : Words 1 0 0 0 := ⟨by omega, by omega, by omega, by omega⟩
  have wz : Words 0 0 0 0 := ⟨by omega, by omega, by omega, by omega⟩
  have v1 : val 1 0 0 0 = 1 := rfl
  have v0 : val 0 0 0 0 = 0 := rfl
  have wa := workIs ha wk ek
  have wb := workIs hb' wj ej
  have less2 : val a0 a1 a2 a3 < val b0 b1 b2 b3 → LessIs k0 k1 k2 k3 j0 j1 j2 j3 false := fun h => lessIs wk wj false (by
    have := work_mono (Nat.le_of_lt h) lB
    symm; rw [decide_eq_false_iff_not, ek, ej]; omega)
  by_cases za : val a0 a1 a2 a3 = 0
  · have ea := eqZ ha true (by symm; rw [decide_eq_true_iff]; exact za)
    have add := addIs ha w1 wd false (by rw [v1]; exact ed) (by symm; rw [decide_eq_false_iff_not, v1]; omega)
    by_cases lt : val a0 a1 a2 a3 < val b0 b1 b2 b3
    · exact order_t_t_n_f hb a0 a1 a2 a3 b0 b1 b2 b3 k0 k1 k2 k3 j0 j1 j2 j3 d0 d1 d2 d3 w wa wb (lessIs ha hb' true (decide_eq_true lt).symm) (less2 lt) ea add
    · exact order_t_f_n_f hb a0 a1 a2 a3 b0 b1 b2 b3 k0 k1 k2 k3 j0 j1 j2 j3 d0 d1 d2 d3 w wa wb (lessIs ha hb' false (decide_eq_false lt).symm) ea add
  · have ea := eqZ ha false (by symm; rw [decide_eq_false_iff_not]; exact za)
    have ekn : workOf (val a0 a1 a2 a3) = (115792089237316195423570985008687907853269984665640564039457584007913129639936 - 1 - val a0 a1 a2 a3) / (val a0 a1 a2 a3 + 1) + 1 := by unfold workOf; rw [if_neg za]
    by_cases top : val a0 a1 a2 a3 = 115792089237316195423570985008687907853269984665640564039457584007913129639936 - 1
    · have add := addIs ha w1 wd true (by rw [v1]; exact ed) (by symm; rw [decide_eq_true_iff, v1]; omega)
      have k1' : val k0 k1 k2 k3 = val 1 0 0 0 := by rw [ek, ekn, top, v1]
      have eo : EqO k0 k1 k2 k3 true := eqIs wk w1 true (by symm; rw [decide_eq_true_iff]; exact k1')
      exact order_f_f_n_t hb a0 a1 a2 a3 b0 b1 b2 b3 k0 k1 k2 k3 j0 j1 j2 j3 d0 d1 d2 d3 w wa wb (lessIs ha hb' false (by symm; rw [decide_eq_false_iff_not]; omega)) ea add eo
    · have add := addIs ha w1 wd false (by rw [v1]; exact ed) (by symm; rw [decide_eq_false_iff_not, v1]; omega)
      rw [Nat.mod_eq_of_lt (by omega)] at ed
      obtain ⟨r0, r1, r2, r3, wr, er⟩ := words_of (x := 115792089237316195423570985008687907853269984665640564039457584007913129639936 - (val a0 a1 a2 a3 + 1)) (by omega)
      have hq : (115792089237316195423570985008687907853269984665640564039457584007913129639936 - 1 - val a0 a1 a2 a3) / (val a0 a1 a2 a3 + 1) < 115792089237316195423570985008687907853269984665640564039457584007913129639936 := Nat.lt_of_le_of_lt (Nat.div_le_self _ _) (by omega)
      obtain ⟨l0, l1, l2, l3, wl, el⟩ := words_of hq
      obtain ⟨x0, x1, x2, x3, wx, ex⟩ := words_of (x := (115792089237316195423570985008687907853269984665640564039457584007913129639936 - 1 - val a0 a1 a2 a3) % (val a0 a1 a2 a3 + 1)) (Nat.lt_of_le_of_lt (Nat.mod_le _ _) (by omega))
      have sub1 := subIs wz wd wr true (by rw [v0, ed, er, if_pos (by omega)]) (by symm; rw [decide_eq_true_iff, v0, ed]; omega)
      have sub2 := subIs wk w1 wl false (by rw [ek, ekn, v1, el, if_neg (by omega)]; omega) (by symm; rw [decide_eq_false_iff_not, ek, ekn, v1]; omega)
      have div := divIs wr wd wl wx (by rw [ed]; omega) (by rw [el, er, ed, show 115792089237316195423570985008687907853269984665640564039457584007913129639936 - (val a0 a1 a2 a3 + 1) = 115792089237316195423570985008687907853269984665640564039457584007913129639936 - 1 - val a0 a1 a2 a3 by omega]) (by rw [ex, er, ed, show 115792089237316195423570985008687907853269984665640564039457584007913129639936 - (val a0 a1 a2 a3 + 1) = 115792089237316195423570985008687907853269984665640564039457584007913129639936 - 1 - val a0 a1 a2 a3 by omega])
      have ell := eqIs wl wl true (by symm; rw [decide_eq_true_iff])
      have ekz := eqZ wk false (by symm; rw [decide_eq_false_iff_not, ek, ekn]; omega)
      by_cases lt : val a0 a1 a2 a3 < val b0 b1 b2 b3
      · have l1' := lessIs ha hb' true (decide_eq_true lt).symm
        by_cases m : hashNum hb 32 ≤ val a0 a1 a2 a3
        · exact order_f_t_t_f hb a0 a1 a2 a3 b0 b1 b2 b3 k0 k1 k2 k3 j0 j1 j2 j3 d0 d1 d2 d3 r0 r1 r2 r3 l0 l1 l2 l3 x0 x1 x2 x3 _ w wa wb l1' (less2 lt) ea (meetsIs hh ha true (decide_eq_true ⟨za, m⟩).symm) (meetsIs hh hb' true (decide_eq_true ⟨by omega, by omega⟩).symm) add sub1 sub2 div ell ekz
        · exact order_f_t_f_f hb a0 a1 a2 a3 b0 b1 b2 b3 k0 k1 k2 k3 j0 j1 j2 j3 d0 d1 d2 d3 r0 r1 r2 r3 l0 l1 l2 l3 x0 x1 x2 x3 _ w wa wb l1' (less2 lt) ea (meetsIs hh ha false (decide_eq_false fun k => m k.2).symm) add sub1 sub2 div ell ekz
      · exact order_f_f_n_f hb a0 a1 a2 a3 b0 b1 b2 b3 k0 k1 k2 k3 j0 j1 j2 j3 d0 d1 d2 d3 r0 r1 r2 r3 l0 l1 l2 l3 x0 x1 x2 x3 _ w wa wb (lessIs ha hb' false (decide_eq_false lt).symm) ea add sub1 sub2 div ell ekz

set_option maxRecDepth 100000 in
theorem targetOrder_lifted (os : Os) (started : os.Started) (H : Type) (enc : TypeId × Value → H) :
    ReturnsInHanded {} Try.checked os 6 .any (Rows.targetOrderSpec.pre6 enc Try.prog Try.f6 Rows.targetOrderRow.domain false) (Rows.targetOrderSpec.post enc Try.prog Try.f6 false true false false) := by
  refine returnsInHanded_of_change (C := Try.checked) Try.own started (by kernel_rfl) Try.func6
    (ChangeSpec.witness6 (enc := enc) (C := Try.checked) false ⟨#[], #[.agg #[.int .u64 0, .int .u64 0, .int .u64 0, .int .u64 0], .agg #[.int .u64 0, .int .u64 0, .int .u64 0, .int .u64 0], .agg #[.int .u8 0, .int .u8 0, .int .u8 0, .int .u8 0, .int .u8 0, .int .u8 0, .int .u8 0, .int .u8 0, .int .u8 0, .int .u8 0, .int .u8 0, .int .u8 0, .int .u8 0, .int .u8 0, .int .u8 0, .int .u8 0, .int .u8 0, .int .u8 0, .int .u8 0, .int .u8 0, .int .u8 0, .int .u8 0, .int .u8 0, .int .u8 0, .int .u8 0, .int .u8 0, .int .u8 0, .int .u8 0, .int .u8 0, .int .u8 0, .int .u8 0, .int .u8 0]], []⟩ 8 (by kernel_rfl) (by kernel_rfl) (by kernel_rfl) (by kernel_rfl)) ?_
  intro W base args ds gs before hval0 hW hcnd _
  have hval : ∀ (j : Nat) t v, Try.f6.params[j]? = some t → args[j]? = some v → Value.okWide Try.prog W .any base t v := hval0
  have hW' := hW
  obtain ⟨p, q, hA0, hV, rfl, hfz, hnd⟩ := hW
  have hA : DataW.TrodAll enc Try.prog W 0 (fun _ => true) true Try.f6.params.toList args.toList ds p := hA0
  rw [Try.params6] at hA hval
  obtain ⟨v0, vs0, d0, ds0, p0, q0, hargs, rfl, rfl, h0, r0⟩ := trodAll_cons hA
  obtain ⟨v1, vs1, d1, ds1, p1, q1, rfl, rfl, rfl, h1, r1⟩ := trodAll_cons r0
  obtain ⟨v2, vs2, d2, ds2, p2, q2, rfl, rfl, rfl, h2, r2⟩ := trodAll_cons r1
  obtain ⟨rfl, rfl, rfl⟩ := trodAll_nil r2
  obtain rfl : args = #[v0, v1, v2] := by cases args; simp_all
  obtain ⟨rfl, rfl⟩ := trodVars_none hV
  have lt0 : ∀ x ∈ p0, x.block < W.heap.size := by obtain ⟨m, hm⟩ := h0; exact DataW.trod_lt m _ _ _ hm
  have lt1 : ∀ x ∈ p1, x.block < W.heap.size := by obtain ⟨m, hm⟩ := h1; exact DataW.trod_lt m _ _ _ hm
  have lt2 : ∀ x ∈ p2, x.block < W.heap.size := by obtain ⟨m, hm⟩ := h2; exact DataW.trod_lt m _ _ _ hm
  obtain ⟨a0, a1, a2, a3, wa, rfl⟩ := open_big (hval 0 25 v0 rfl rfl) h0
  obtain ⟨b0, b1, b2, b3, wb, rfl⟩ := open_big (hval 1 25 v1 rfl rfl) h1
  obtain ⟨c, wc, rfl⟩ := open_hash (hval 2 32 v2 rfl rfl) h2
  clear hA0 hval0
  refine (order_any a0 a1 a2 a3 b0 b1 b2 b3 c wa wb wc W).mono fun e W' ⟨he, bel⟩ => ?_
  subst he
  exact ⟨_, rfl, _, _, _, [], _, [], hW', trodAll_mk1 (shut_bool Try.underlying4 _), (trodAll_cons_mk (Below.trod Try.laidOut (by kernel_rfl) (of_decide_eq_true (by kernel_rfl)) h0 bel lt0) (trodAll_cons_mk (Below.trod Try.laidOut (by kernel_rfl) (of_decide_eq_true (by kernel_rfl)) h1 bel lt1) (trodAll_cons_mk (Below.trod Try.laidOut (by kernel_rfl) (of_decide_eq_true (by kernel_rfl)) h2 bel lt2) trodAll_mk0))), rfl, bel.frame _, fun h => by cases h⟩

theorem targetOrder_holds : Rows.TargetOrderSaid :=
  OpenClaim.holds_of_wide 6 Try.f6 rfl rfl rfl rfl rfl rfl rfl ⟨rfl, rfl, rfl, rfl, rfl⟩ rfl rfl rfl rfl rfl (by kernel_rfl) Try.func6 (by kernel_rfl)
    (of_decide_eq_true (by kernel_rfl)) (by unfold Func.isWrapper; rw [if_neg (of_decide_eq_false (by kernel_rfl))]; exact ⟨rfl, rfl⟩)
    (fun os started H enc _ => targetOrder_lifted os started H enc)

end Go.Proofs.Ytnipajfglmahiaa
