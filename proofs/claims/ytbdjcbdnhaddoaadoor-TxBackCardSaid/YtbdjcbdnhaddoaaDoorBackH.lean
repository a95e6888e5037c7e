/- TxBack returns true for every two transactions and all bytes and leaves them as they were. The two tables lie as the text of the program lays them (tied). -/
import Derived.Test.YtbdjcbdnhaddoaaDoorBackL
import Derived.Test.YtbdjcbdnhaddoaaDoorOpenA
import Derived.Test.YtbdjcbdnhaddoaaDoorCards
import Derived.SevenTiedAt
namespace Go.Proofs.YtbdjcbdnhaddoaaDoor
open Go.ChangeShapes Go.WideShapes Go.ChangeAt Go.WideMaps Go.WideElems Go.RowKit

set_option maxRecDepth 100000 in
theorem txBack_lifted (os : Os) (started : os.Started) (H : Type) (enc : TypeId × Value → H) :
    ReturnsInHanded {} Tryd.checked os 6 .any (fun w args => (Rows.txBackSpec.pre enc Tryd.prog Tryd.f6 [] false w args ∧ laidMetH Tryd.prog laidL w) ∧ sizedMet enc Tryd.prog Tryd.f6 (OpenSpec.ofChange Rows.txBackSpec) false w args) (Rows.txBackSpec.post enc Tryd.prog Tryd.f6 false true false false) := by
  refine returnsInHanded_of_change_and (C := Tryd.checked) (X := fun w _ => laidMetH Tryd.prog laidL w) (fun _ _ _ hh h => h.of_heap hh) Tryd.own started (by kernel_rfl) Tryd.func6
    (ChangeSpec.witness_shaped (enc := enc) (C := Tryd.checked) (os := os) (X := fun w _ => laidMetH Tryd.prog laidL w) false (World.doorLaid Tryd.prog 65 os) #[.agg zTx.toArray, .agg zTx.toArray, .slice none 0 0] 8 rfl (World.shaped_of_RefB (by kernel_rfl) (by kernel_rfl)) (by kernel_rfl) (by kernel_rfl) (by kernel_rfl) (door_met os _)) ?_
  intro W base args ds gs before hval0 hW _ hreach hLaid _
  have hLd := of_laid hLaid
  have hval : ∀ (j : Nat) t v, Tryd.f6.params[j]? = some t → args[j]? = some v → Value.okWide Tryd.prog W .any base t v := hval0
  have hW' := hW
  obtain ⟨p, q, hA0, hV, rfl, hfz, hnd⟩ := hW
  have hA : DataW.TrodAll enc Tryd.prog W 0 (fun _ => true) true Tryd.f6.params.toList args.toList ds p := hA0
  rw [Tryd.params6] at hA hval
  obtain ⟨v0, vs0, d0, ds0, p0, q0, hargs, rfl, rfl, h0, r0⟩ := trodAll_cons hA
  obtain ⟨v1, vs1, d1, ds1, p1, q1, rfl, rfl, rfl, h1, r1⟩ := trodAll_cons r0
  obtain ⟨v2, vs2, d2, ds2, p2, q2, rfl, rfl, rfl, h2, r2⟩ := trodAll_cons r1
  obtain ⟨rfl, rfl, rfl⟩ := trodAll_nil r2
  obtain rfl : args = #[v0, v1, v2] := by cases args; simp_all
  obtain ⟨rfl, rfl⟩ := trodVars_none hV
  have lt0 : ∀ x ∈ p0, x.block < W.heap.size := by obtain ⟨m, hm⟩ := h0; exact DataW.trod_lt m _ _ _ hm
  have lt1 : ∀ x ∈ p1, x.block < W.heap.size := by obtain ⟨m, hm⟩ := h1; exact DataW.trod_lt m _ _ _ hm
  have lt2 : ∀ x ∈ p2, x.block < W.heap.size := by obtain ⟨m, hm⟩ := h2; exact DataW.trod_lt m _ _ _ hm
  obtain ⟨a, aAi, ani, aci, aAo, ano, aco, a1, rfl⟩ := open_tx (hval 0 26 v0 rfl rfl) h0 (fun y hy => by
    have hz := List.all_eq_true.1 hreach y (by
      rw [Tryd.params6]
      show y ∈ DataW.weightsEach _ (26 :: _) (d0 :: _)
      simp only [DataW.weightsEach]
      exact List.mem_append_left _ hy)
    simpa using hz)
  obtain ⟨b, bAi, bni, bci, bAo, bno, bco, b1, rfl⟩ := open_tx (hval 1 26 v1 rfl rfl) h1 (fun y hy => by
    have hz := List.all_eq_true.1 hreach y (by
      rw [Tryd.params6]
      show y ∈ DataW.weightsEach _ (26 :: 26 :: _) (d0 :: d1 :: _)
      simp only [DataW.weightsEach]
      exact List.mem_append_right _ (List.mem_append_left _ hy))
    simpa using hz)
  obtain ⟨cA, cn, cc, cL, ⟨c1, c2, c3⟩, rfl⟩ := open_bytes (hval 2 29 v2 rfl rfl) h2 (fun y hy => by
    have hz := List.all_eq_true.1 hreach y (by
      rw [Tryd.params6]
      show y ∈ DataW.weightsEach _ (26 :: 26 :: 29 :: _) (d0 :: d1 :: d2 :: _)
      simp only [DataW.weightsEach]
      exact List.mem_append_right _ (List.mem_append_right _ (List.mem_append_left _ hy)))
    simpa using hz)
  clear hA0 hval0
  refine (back_law (w := W) a1 b1 c1 c2 c3 hLd).mono fun e W' ⟨he, bel⟩ => ?_
  subst he
  exact ⟨_, rfl, _, _, _, [], _, [], hW', trodAll_mk1 (shut_bool Tryd.underlying4 _), (trodAll_cons_mk (Below.trod Tryd.laidOut (by kernel_rfl) (of_decide_eq_true (by kernel_rfl)) h0 bel lt0) (trodAll_cons_mk (Below.trod Tryd.laidOut (by kernel_rfl) (of_decide_eq_true (by kernel_rfl)) h1 bel lt1) (trodAll_cons_mk (Below.trod Tryd.laidOut (by kernel_rfl) (of_decide_eq_true (by kernel_rfl)) h2 bel lt2) trodAll_mk0))), rfl, bel.frame _, fun h => by cases h⟩

theorem txBack_holds : Rows.TxBackSaid :=
  OpenClaim.holds_of_wide 6 Tryd.f6 rfl rfl rfl rfl rfl rfl rfl ⟨rfl, rfl, rfl, rfl, rfl⟩ rfl rfl rfl rfl rfl (by kernel_rfl) Tryd.func6 (by kernel_rfl)
    (of_decide_eq_true (by kernel_rfl)) (by unfold Func.isWrapper; rw [if_neg (of_decide_eq_false (by kernel_rfl))]; exact ⟨rfl, rfl⟩)
    (fun os started H enc _ => txBack_lifted os started H enc)
theorem txBack_card : Rows.TxBackCardSaid :=
  Claim7.holds_tied_plain_at .later [] [.data, .data] true (true, "1541d76b2f04500e125627db85aa47ed78fd76f8f65def87564b55f6445242bc") false
    txBack_holds (fun _ h => by cases h) (by kernel_rfl) (fun _ h => by cases h) txBack_row_tie rfl ⟨rfl, rfl⟩ (by kernel_rfl) rfl
    (fun f fn hf hfn => by
      obtain rfl : f = 6 := Option.some.inj ((show Tryd.prog.funcNamed "scantling/scantlinglaw09.TxBack" = some 6 by kernel_rfl).symm.trans hf) |>.symm
      obtain rfl : fn = Tryd.f6 := (Option.some.inj (Tryd.func6.symm.trans hfn)).symm
      exact ⟨by kernel_rfl, fun j t ht => by
        rw [Tryd.params6] at ht
        have hm : t ∈ [26, 26, 29] := by simpa using Array.mem_of_getElem? ht
        have hall : ([26, 26, 29].all fun u => !Tryd.prog.wantsStandIn u) = true := by kernel_rfl
        exact (show Tryd.prog.wantsStandIn t = false by simpa using List.all_eq_true.1 hall t hm)⟩)
    (by kernel_rfl)

end Go.Proofs.YtbdjcbdnhaddoaaDoor
