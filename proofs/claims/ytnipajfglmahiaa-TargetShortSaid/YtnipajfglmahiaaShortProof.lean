/- TargetShort returns true for every two targets, and each argument reads afterwards as it read before. No condition. -/
import Derived.Test.YtnipajfglmahiaaRows
import Derived.Test.YtnipajfglmahiaaShort
import Derived.Test.YtnipajfglmahiaaOpen
namespace Go.Proofs.Ytnipajfglmahiaa
open Go.ChangeShapes Go.WideShapes Go.ChangeAt Go.RowKit

theorem bitsAt {a0 a1 a2 a3 nb : Nat} (ha : Words a0 a1 a2 a3) (hn : BitsOf (val a0 a1 a2 a3) nb) : BitsIs a0 a1 a2 a3 nb := by
  have := bitsIs ha
  rw [(bits4_of ha).uniq hn] at this
  exact this
theorem bits_some {a0 a1 a2 a3 : Nat} (ha : Words a0 a1 a2 a3) : ∃ nb, BitsOf (val a0 a1 a2 a3) nb ∧ nb ≤ 256 :=
  ⟨_, bits4_of ha, (bits4_of ha).le (m := 256) (by rw [show (2 : Nat) ^ 256 = 115792089237316195423570985008687907853269984665640564039457584007913129639936 by decide]; exact val_lt ha)⟩

theorem short_any (a0 a1 a2 a3 b0 b1 b2 b3 : Nat) (ha : Words a0 a1 a2 a3) (hb : Words b0 b1 b2 b3) (w : World) :
    Calls Try.prog 5 #[.agg #[.int .u64 (a0 : Nat), .int .u64 (a1 : Nat), .int .u64 (a2 : Nat), .int .u64 (a3 : Nat)], .agg #[.int .u64 (b0 : Nat), .int .u64 (b1 : Nat), .int .u64 (b2 : Nat), .int .u64 (b3 : Nat)]] w fun e w' => e = .returned (.bool true) ∧ Below w.heap.size w w' := by
  by_cases za : val a0 a1 a2 a3 = 0
  · exact short_az a0 a1 a2 a3 b0 b1 b2 b3 w (eqZ ha true (by symm; rw [decide_eq_true_iff]; exact za))
  · have ea := eqZ ha false (by symm; rw [decide_eq_false_iff_not]; exact za)
    by_cases zb : val b0 b1 b2 b3 = 0
    · exact short_bz a0 a1 a2 a3 b0 b1 b2 b3 w ea (eqZ hb true (by symm; rw [decide_eq_true_iff]; exact zb))
    · have eb := eqZ hb false (by symm; rw [decide_eq_false_iff_not]; exact zb)
      obtain ⟨na, hna, la⟩ := bits_some ha
      obtain ⟨nb, hnb, lb⟩ := bits_some hb
      have lA := val_lt ha
      have lB := val_lt hb
      obtain ⟨oa, fa, ca32⟩ := of_comp hna za la lA
      obtain ⟨ob, fb, cb32⟩ := of_comp hnb zb lb lB
      have lea := floor_le (val a0 a1 a2 a3) na
      have leb := floor_le (val b0 b1 b2 b3) nb
      obtain ⟨s0, s1, s2, s3, ws, es⟩ := words_of (x := floorOf (val a0 a1 a2 a3) na) (by omega)
      obtain ⟨d0, d1, d2, d3, wd, ed⟩ := words_of (x := val a0 a1 a2 a3 - floorOf (val a0 a1 a2 a3) na) (by omega)
      obtain ⟨nd, hnd, ld⟩ := bits_some wd
      have lost := lost_bits (nb := na) (v := val a0 a1 a2 a3) (by rw [← ed]; exact hnd)
      have hs := floor_bits hna za
      have ca := compIs ha hna rfl
      have cs : CompIs s0 s1 s2 s3 (compOf (val a0 a1 a2 a3) na) := compIs ws (nb := na) (by rw [es]; exact hs) (by rw [es, comp_floor hna za])
      have of1 := tofIs ca32 ws true (decide_eq_true oa).symm (by rw [if_pos oa, fa, es])
      have less1 := lessIs ha ws false (by symm; rw [decide_eq_false_iff_not, es]; omega)
      have sub := subIs ha ws wd false (by rw [ed, es, if_neg (by omega)]) (by symm; rw [decide_eq_false_iff_not, es]; omega)
      have hmx : decide (max 0 ((na : Int) - 15) < (nd : Int)) = false := decide_eq_false (by omega)
      by_cases lt : val b0 b1 b2 b3 < val a0 a1 a2 a3
      · obtain ⟨x0, x1, x2, x3, wx, ex⟩ := words_of (x := floorOf (val b0 b1 b2 b3) nb) (by omega)
        have of2 := tofIs cb32 wx true (decide_eq_true ob).symm (by rw [if_pos ob, fb, ex])
        have mono := floor_mono hnb hna za (by omega)
        exact short_lt a0 a1 a2 a3 b0 b1 b2 b3 s0 s1 s2 s3 d0 d1 d2 d3 x0 x1 x2 x3 _ na nd _ w la ld ea eb ca of1 less1 cs sub (bitsAt wd hnd) (bitsAt ha hna) hmx (lessIs hb ha true (decide_eq_true lt).symm) (compIs hb hnb rfl) of2
          (lessIs ws wx false (by symm; rw [decide_eq_false_iff_not, es, ex]; omega))
      · exact short_ge a0 a1 a2 a3 b0 b1 b2 b3 s0 s1 s2 s3 d0 d1 d2 d3 _ na nd w la ld ea eb ca of1 less1 cs sub (bitsAt wd hnd) (bitsAt ha hna) hmx (lessIs hb ha false (decide_eq_false lt).symm)

set_option maxRecDepth 100000 in
theorem targetShort_lifted (os : Os) (started : os.Started) (H : Type) (enc : TypeId × Value → H) :
    ReturnsInHanded {} Try.checked os 5 .any (Rows.targetShortSpec.pre6 enc Try.prog Try.f5 Rows.targetShortRow.domain false) (Rows.targetShortSpec.post enc Try.prog Try.f5 false true false false) := by
  refine returnsInHanded_of_change (C := Try.checked) Try.own started (by kernel_rfl) Try.func5
    (ChangeSpec.witness6 (enc := enc) (C := Try.checked) false ⟨#[], #[.agg #[.int .u64 0, .int .u64 0, .int .u64 0, .int .u64 0], .agg #[.int .u64 0, .int .u64 0, .int .u64 0, .int .u64 0]], []⟩ 8 (by kernel_rfl) (by kernel_rfl) (by kernel_rfl) (by kernel_rfl)) ?_
  intro W base args ds gs before hval0 hW hcnd _
  have hval : ∀ (j : Nat) t v, Try.f5.params[j]? = some t → args[j]? = some v → Value.okWide Try.prog W .any base t v := hval0
  have hW' := hW
  obtain ⟨p, q, hA0, hV, rfl, hfz, hnd⟩ := hW
  have hA : DataW.TrodAll enc Try.prog W 0 (fun _ => true) true Try.f5.params.toList args.toList ds p := hA0
  rw [Try.params5] at hA hval
  obtain ⟨v0, vs0, d0, ds0, p0, q0, hargs, rfl, rfl, h0, r0⟩ := trodAll_cons hA
  obtain ⟨v1, vs1, d1, ds1, p1, q1, rfl, rfl, rfl, h1, r1⟩ := trodAll_cons r0
  obtain ⟨rfl, rfl, rfl⟩ := trodAll_nil r1
  obtain rfl : args = #[v0, v1] := by cases args; simp_all
  obtain ⟨rfl, rfl⟩ := trodVars_none hV
  have lt0 : ∀ x ∈ p0, x.block < W.heap.size := by obtain ⟨m, hm⟩ := h0; exact DataW.trod_lt m _ _ _ hm
  have lt1 : ∀ x ∈ p1, x.block < W.heap.size := by obtain ⟨m, hm⟩ := h1; exact DataW.trod_lt m _ _ _ hm
  obtain ⟨a0, a1, a2, a3, wa, rfl⟩ := open_big (hval 0 25 v0 rfl rfl) h0
  obtain ⟨b0, b1, b2, b3, wb, rfl⟩ := open_big (hval 1 25 v1 rfl rfl) h1
  clear hA0 hval0
  refine (short_any a0 a1 a2 a3 b0 b1 b2 b3 wa wb W).mono fun e W' ⟨he, bel⟩ => ?_
  subst he
  exact ⟨_, rfl, _, _, _, [], _, [], hW', trodAll_mk1 (shut_bool Try.underlying4 _), (trodAll_cons_mk (Below.trod Try.laidOut (by kernel_rfl) (of_decide_eq_true (by kernel_rfl)) h0 bel lt0) (trodAll_cons_mk (Below.trod Try.laidOut (by kernel_rfl) (of_decide_eq_true (by kernel_rfl)) h1 bel lt1) trodAll_mk0)), rfl, bel.frame _, fun h => by cases h⟩

theorem targetShort_holds : Rows.TargetShortSaid :=
  OpenClaim.holds_of_wide 5 Try.f5 rfl rfl rfl rfl rfl rfl rfl ⟨rfl, rfl, rfl, rfl, rfl⟩ rfl rfl rfl rfl rfl (by kernel_rfl) Try.func5 (by kernel_rfl)
    (of_decide_eq_true (by kernel_rfl)) (by unfold Func.isWrapper; rw [if_neg (of_decide_eq_false (by kernel_rfl))]; exact ⟨rfl, rfl⟩)
    (fun os started H enc _ => targetShort_lifted os started H enc)

end Go.Proofs.Ytnipajfglmahiaa
