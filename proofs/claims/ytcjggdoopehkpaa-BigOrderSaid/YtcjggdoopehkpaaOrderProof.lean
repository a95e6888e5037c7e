/- BigOrder returns true for every three numbers, and each argument reads afterwards as it read before. No condition. -/
import Derived.Test.YtcjggdoopehkpaaRows
import Derived.Test.YtcjggdoopehkpaaOrder
import Derived.ProofKit
import Derived.Laws.IdiomArrays
import Derived.OpenShut
import Derived.ChangeOld
import Derived.Below
namespace Go.Proofs.Ytcjggdoopehkpaa
open Go.ChangeShapes Go.WideShapes Go.ChangeAt Go.RowKit

theorem Try.own : ownKnob Try.prog.godebug = none := by kernel_rfl
theorem Try.cells24 : Try.prog.cellsOf 24 = 4 := by kernel_rfl

theorem list4 {α : Type} (l : List α) (h : (⟨l⟩ : Array α).size = 4) : ∃ a b c d, l = [a, b, c, d] := by
  match l, h with
  | [a, b, c, d], _ => exact ⟨a, b, c, d, rfl⟩

/-- A number of four words that came in. -/
theorem open_big {H : Type} {enc : TypeId × Value → H} {W : World} {base : Nat} {v : Value} {d : DataW H} {p : List MemPlace}
    (hv : Value.okWide Try.prog W .any base 24 v) (h : DataW.Trod enc Try.prog W 0 (fun _ => true) true 24 v d p) :
    ∃ x0 x1 x2 x3 : Nat, Words x0 x1 x2 x3 ∧ v = .agg #[.int .u64 (x0 : Nat), .int .u64 (x1 : Nat), .int .u64 (x2 : Nat), .int .u64 (x3 : Nat)] := by
  obtain ⟨cs, rfl, hsz, _⟩ : ∃ cs, v = .agg cs ∧ cs.size = Try.prog.cellsOf 24 ∧ Row.okWide Try.prog W .any base 24 cs := by
    simpa [Value.okWide, Try.underlying24] using hv
  rw [Try.cells24] at hsz
  obtain ⟨l⟩ := cs
  obtain ⟨c0, c1, c2, c3, rfl⟩ := list4 l hsz
  obtain ⟨fuel, hf⟩ := h
  obtain ⟨y0, y1, y2, y3, m, hx, hy0, hy1, hy2, hy3⟩ := trod_array4 Try.underlying24 (by kernel_rfl) hf
  obtain ⟨x0, e0, rfl, w0⟩ := DataW.trod_int Try.underlying22 hy0
  obtain ⟨x1, e1, rfl, w1⟩ := DataW.trod_int Try.underlying22 hy1
  obtain ⟨x2, e2, rfl, w2⟩ := DataW.trod_int Try.underlying22 hy2
  obtain ⟨x3, e3, rfl, w3⟩ := DataW.trod_int Try.underlying22 hy3
  simp at e0 e1 e2 e3
  subst e0 e1 e2 e3
  have b0 := bounds_u64 w0
  have b1 := bounds_u64 w1
  have b2 := bounds_u64 w2
  have b3 := bounds_u64 w3
  refine ⟨x0.toNat, x1.toNat, x2.toNat, x3.toNat, ⟨by omega, by omega, by omega, by omega⟩, ?_⟩
  rw [Int.toNat_of_nonneg b0.1, Int.toNat_of_nonneg b1.1, Int.toNat_of_nonneg b2.1, Int.toNat_of_nonneg b3.1]

theorem order_any (a0 a1 a2 a3 b0 b1 b2 b3 c0 c1 c2 c3 : Nat) (ha : Words a0 a1 a2 a3) (hb : Words b0 b1 b2 b3) (hc : Words c0 c1 c2 c3) (w : World) :
    Calls Try.prog 8 #[.agg #[.int .u64 (a0 : Nat), .int .u64 (a1 : Nat), .int .u64 (a2 : Nat), .int .u64 (a3 : Nat)], .agg #[.int .u64 (b0 : Nat), .int .u64 (b1 : Nat), .int .u64 (b2 : Nat), .int .u64 (b3 : Nat)], .agg #[.int .u64 (c0 : Nat), .int .u64 (c1 : Nat), .int .u64 (c2 : Nat), .int .u64 (c3 : Nat)]] w fun e w' => e = .returned (.bool true) ∧ Below w.heap.size w w' := by
  have na := bits4_of ha
  have nb := bits4_of hb
  rcases Nat.lt_trichotomy (val a0 a1 a2 a3) (val b0 b1 b2 b3) with h | h | h
  · have l1 := lessIs ha hb true (by simp [h])
    have l2 := lessIs hb ha false (by simp; omega)
    have e := eqIs ha hb false (by simp; omega)
    by_cases hbc : val b0 b1 b2 b3 < val c0 c1 c2 c3
    · have l3 := lessIs hb hc true (by simp [hbc])
      have l4 := lessIs ha hc true (by simp; omega)
      cases hd : decide (bits4 (Lib.bitLen b0) (Lib.bitLen b1) (Lib.bitLen b2) (Lib.bitLen b3) b0 b1 b2 b3 ≤ bits4 (Lib.bitLen a0) (Lib.bitLen a1) (Lib.bitLen a2) (Lib.bitLen a3) a0 a1 a2 a3) with
      | false => exact order_lt_t0 a0 a1 a2 a3 b0 b1 b2 b3 c0 c1 c2 c3 w l1 l2 e l3 l4 _ _ (bitsIs ha) (bitsIs hb) hd
      | true => exact order_lt_t1 a0 a1 a2 a3 b0 b1 b2 b3 c0 c1 c2 c3 w l1 l2 e l3 l4 _ _ (bitsIs ha) (bitsIs hb) hd
    · have l3 := lessIs hb hc false (by simp; omega)
      cases hd : decide (bits4 (Lib.bitLen b0) (Lib.bitLen b1) (Lib.bitLen b2) (Lib.bitLen b3) b0 b1 b2 b3 ≤ bits4 (Lib.bitLen a0) (Lib.bitLen a1) (Lib.bitLen a2) (Lib.bitLen a3) a0 a1 a2 a3) with
      | false => exact order_lt_f0 a0 a1 a2 a3 b0 b1 b2 b3 c0 c1 c2 c3 w l1 l2 e l3 _ _ (bitsIs ha) (bitsIs hb) hd
      | true => exact order_lt_f1 a0 a1 a2 a3 b0 b1 b2 b3 c0 c1 c2 c3 w l1 l2 e l3 _ _ (bitsIs ha) (bitsIs hb) hd
  · exact order_eq a0 a1 a2 a3 b0 b1 b2 b3 c0 c1 c2 c3 w (lessIs ha hb false (by simp; omega)) (lessIs hb ha false (by simp; omega)) (eqIs ha hb true (by simp [h])) _ _ (bitsIs ha) (bitsIs hb) (decide_eq_true (nb.mono na (by omega)))
  · exact order_gt a0 a1 a2 a3 b0 b1 b2 b3 c0 c1 c2 c3 w (lessIs ha hb false (by simp; omega)) (lessIs hb ha true (by simp [h])) (eqIs ha hb false (by simp; omega)) _ _ (bitsIs ha) (bitsIs hb) (decide_eq_true (nb.mono na (by omega)))

theorem Try.laidOut : laidOutB Try.prog = true := by kernel_rfl

set_option maxRecDepth 100000 in
theorem order_lifted (os : Os) (started : os.Started) (H : Type) (enc : TypeId × Value → H) :
    ReturnsInHanded {} Try.checked os 8 .any (Rows.bigOrderSpec.pre6 enc Try.prog Try.f8 Rows.bigOrderRow.domain false) (Rows.bigOrderSpec.post enc Try.prog Try.f8 false true false false) := by
  refine returnsInHanded_of_change (C := Try.checked) Try.own started (by kernel_rfl) Try.func8
    (ChangeSpec.witness6 (enc := enc) (C := Try.checked) false ⟨#[], #[.agg #[.int .u64 0, .int .u64 0, .int .u64 0, .int .u64 0], .agg #[.int .u64 0, .int .u64 0, .int .u64 0, .int .u64 0], .agg #[.int .u64 0, .int .u64 0, .int .u64 0, .int .u64 0]], []⟩ 8 (by kernel_rfl) (by kernel_rfl) (by kernel_rfl) (by kernel_rfl)) ?_
  intro W base args ds gs before hval0 hW hcnd _
  have hval : ∀ (j : Nat) t v, Try.f8.params[j]? = some t → args[j]? = some v → Value.okWide Try.prog W .any base t v := hval0
  have hW' := hW
  obtain ⟨p, q, hA0, hV, rfl, hfz, hnd⟩ := hW
  have hA : DataW.TrodAll enc Try.prog W 0 (fun _ => true) true Try.f8.params.toList args.toList ds p := hA0
  rw [Try.params8] at hA hval
  obtain ⟨v0, vs0, d0, ds0, p0, q0, hargs, rfl, rfl, h0, r0⟩ := trodAll_cons hA
  obtain ⟨v1, vs1, d1, ds1, p1, q1, rfl, rfl, rfl, h1, r1⟩ := trodAll_cons r0
  obtain ⟨v2, vs2, d2, ds2, p2, q2, rfl, rfl, rfl, h2, r2⟩ := trodAll_cons r1
  obtain ⟨rfl, rfl, rfl⟩ := trodAll_nil r2
  obtain rfl : args = #[v0, v1, v2] := by cases args; simp_all
  obtain ⟨rfl, rfl⟩ := trodVars_none hV
  have lt0 : ∀ x ∈ p0, x.block < W.heap.size := by obtain ⟨m, hm⟩ := h0; exact DataW.trod_lt m _ _ _ hm
  have lt1 : ∀ x ∈ p1, x.block < W.heap.size := by obtain ⟨m, hm⟩ := h1; exact DataW.trod_lt m _ _ _ hm
  have lt2 : ∀ x ∈ p2, x.block < W.heap.size := by obtain ⟨m, hm⟩ := h2; exact DataW.trod_lt m _ _ _ hm
  obtain ⟨a0, a1, a2, a3, wa, rfl⟩ := open_big (hval 0 24 v0 rfl rfl) h0
  obtain ⟨b0, b1, b2, b3, wb, rfl⟩ := open_big (hval 1 24 v1 rfl rfl) h1
  obtain ⟨c0, c1, c2, c3, wc, rfl⟩ := open_big (hval 2 24 v2 rfl rfl) h2
  clear hA0 hval0
  refine (order_any a0 a1 a2 a3 b0 b1 b2 b3 c0 c1 c2 c3 wa wb wc W).mono fun e W' ⟨he, bel⟩ => ?_
  subst he
  exact ⟨_, rfl, _, _, _, [], _, [], hW', trodAll_mk1 (shut_bool Try.underlying4 _), (trodAll_cons_mk (Below.trod Try.laidOut (by kernel_rfl) (of_decide_eq_true (by kernel_rfl)) h0 bel lt0) (trodAll_cons_mk (Below.trod Try.laidOut (by kernel_rfl) (of_decide_eq_true (by kernel_rfl)) h1 bel lt1) (trodAll_cons_mk (Below.trod Try.laidOut (by kernel_rfl) (of_decide_eq_true (by kernel_rfl)) h2 bel lt2) trodAll_mk0))), rfl, bel.frame _, fun h => by cases h⟩

theorem bigOrder_holds : Rows.BigOrderSaid :=
  OpenClaim.holds_of_wide 8 Try.f8 rfl rfl rfl rfl rfl rfl rfl ⟨rfl, rfl, rfl, rfl, rfl⟩ rfl rfl rfl rfl rfl (by kernel_rfl) Try.func8 (by kernel_rfl)
    (of_decide_eq_true (by kernel_rfl)) (by unfold Func.isWrapper; rw [if_neg (of_decide_eq_false (by kernel_rfl))]; exact ⟨rfl, rfl⟩)
    (fun os started H enc _ => order_lifted os started H enc)

end Go.Proofs.Ytcjggdoopehkpaa
