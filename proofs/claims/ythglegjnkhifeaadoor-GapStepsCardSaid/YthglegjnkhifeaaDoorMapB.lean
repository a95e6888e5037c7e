/- A map of bools by ints that the call made: the set of its keys. No condition. -/
import Derived.Test.YthglegjnkhifeaaDoorInts
import Derived.MapKept
import Derived.Maps.OwnOps
namespace Go.Proofs.YthglegjnkhifeaaDoor
open Go.RowKit

/-- Block b is a map whose keys are those of S, each with true. -/
def MB (w : World) (b : Nat) (S : List Int) : Prop :=
  ∃ es clock, w.heap[b]? = some (.map es clock) ∧ (∀ x ∈ es.toList, ∃ k, x.key = .int .i64 k ∧ x.val = .bool true ∧ k ∈ S) ∧ (∀ k ∈ S, ∃ x ∈ es.toList, x.key = .int .i64 k)
section
variable {w w1 : World} {b : Nat} {S : List Int} {k : Int}
theorem MB.lt (h : MB w b S) : b < w.heap.size := by
  obtain ⟨es, clock, hb, _⟩ := h
  exact (Array.getElem?_eq_some_iff.1 hb).1
theorem MB.later (h : MB w b S) (g : Below w.heap.size w w1) : MB w1 b S := by
  have hlt := h.lt
  obtain ⟨es, clock, hb, h1, h2⟩ := h
  exact ⟨es, clock, (g.block b hlt).trans hb, h1, h2⟩
theorem MB.made (w : World) : MB (w.alloc (.map #[] 0)) w.heap.size [] :=
  ⟨#[], 0, heap_alloc_new w _, (fun x hx => by cases hx), (fun k hk => by cases hk)⟩
theorem MB.look (h : MB w b S) (k : Int) : (Instr.lookup 40 (.map (some b)) (.int .i64 k) false).run Tryd.prog w = .ok (.bool (decide (k ∈ S))) w := by
  obtain ⟨es, clock, hb, h1, h2⟩ := h
  have hks : ∀ x ∈ es.toList, Go.MapKept.IsKey (.int .i64) x.key := fun x hx => by
    obtain ⟨q, e, _⟩ := h1 x hx
    rw [e]; rfl
  have hk : Go.MapKept.IsKey (.int .i64) (.int .i64 k) := rfl
  have hz : (zeroValue 4).run Tryd.prog w = .ok (.bool false) w := by kernel_rfl
  rcases Go.MapKept.findNow_spec hk es.toList 0 hks with ⟨e1, e2⟩ | ⟨j, e, e1, e2, e3⟩
  · have hn : ¬ k ∈ S := fun hm => by
      obtain ⟨x, hx, ex⟩ := h2 k hm
      exact e2 x hx ex
    rw [decide_eq_false hn]
    simp [Instr.lookup, run_underlying Tryd.underlying40, Go.MapKept.run_getObj_map hb, Go.MapKept.run_checkKey Tryd.underlying3 hk, Go.MapKept.run_findKey Tryd.underlying3 e1, hz, Result.andThen]
  · have hm : e ∈ es.toList := List.mem_of_getElem? e2
    obtain ⟨q, f1, f2, f3⟩ := h1 e hm
    rw [f1] at e3
    injection e3 with _ e3
    subst e3
    rw [decide_eq_true f3]
    simp [Instr.lookup, run_underlying Tryd.underlying40, Go.MapKept.run_getObj_map hb, Go.MapKept.run_checkKey Tryd.underlying3 hk, Go.MapKept.run_findKey Tryd.underlying3 e1, f2, Result.andThen]
theorem MB.put (h : MB w b S) (k : Int) : ∃ w', (Instr.mapUpdate 40 (.map (some b)) (.int .i64 k) (.bool true)).run Tryd.prog w = .ok () w' ∧ MB w' b (S ++ [k]) ∧ w.grownBy w' (some b) := by
  have hlt := h.lt
  obtain ⟨es, clock, hb, h1, h2⟩ := h
  have hks : ∀ x ∈ es.toList, Go.MapKept.IsKey (.int .i64) x.key := fun x hx => by
    obtain ⟨q, e, _⟩ := h1 x hx
    rw [e]; rfl
  have hk : Go.MapKept.IsKey (.int .i64) (.int .i64 k) := rfl
  have gr : ∀ o, w.grownBy { w with heap := w.heap.setIfInBounds b o } (some b) := fun o => ⟨rfl, rfl, rfl, by simp, fun q hq hne => by
    have hne' : q ≠ b := fun e => hne (by rw [e])
    simp [Ne.symm hne']⟩
  rcases Go.MapKept.findNow_spec hk es.toList 0 hks with ⟨e1, e2⟩ | ⟨j, e, e1, e2, e3⟩
  · refine ⟨{ w with heap := w.heap.setIfInBounds b (.map (es.push { key := .int .i64 k, val := .bool true, born := clock }) (clock + 1)) }, by simp [Instr.mapUpdate, run_underlying Tryd.underlying40, Go.MapKept.run_getObj_map hb, Go.MapKept.run_checkKey Tryd.underlying3 hk, Go.MapKept.run_findKey Tryd.underlying3 e1, Go.MapKept.run_setObj_map _ hb, Result.andThen], ⟨_, _, (Go.MapKept.heap_set hb).1, ?_, ?_⟩, gr _⟩
    · intro x hx
      simp only [Array.toList_push, List.mem_append, List.mem_singleton] at hx
      rcases hx with hx | rfl
      · obtain ⟨q, f1, f2, f3⟩ := h1 x hx
        exact ⟨q, f1, f2, List.mem_append_left _ f3⟩
      · exact ⟨k, rfl, rfl, by simp⟩
    · intro q hq
      rcases List.mem_append.1 hq with hq | hq
      · obtain ⟨x, hx, ex⟩ := h2 q hq
        exact ⟨x, by simp [hx], ex⟩
      · rw [List.mem_singleton] at hq
        subst hq
        exact ⟨{ key := .int .i64 q, val := .bool true, born := clock }, by simp, rfl⟩
  · have hj : es[j]? = some e := by simpa using e2
    have hm : e ∈ es.toList := List.mem_of_getElem? e2
    obtain ⟨q, f1, f2, f3⟩ := h1 e hm
    have eqk : q = k := by
      rw [f1] at e3
      injection e3
    subst eqk
    have same : es.modify j (fun x => { x with key := .int .i64 q, val := .bool true }) = es := by
      apply Array.ext_getElem?
      intro i
      rw [Array.getElem?_modify]
      by_cases hij : j = i
      · subst hij
        rw [if_pos rfl, hj]
        obtain ⟨ek, ev, eb⟩ := e
        simp only at f1 f2
        rw [f1, f2]
        rfl
      · rw [if_neg hij]
    refine ⟨{ w with heap := w.heap.setIfInBounds b (.map (es.modify j (fun x => { x with key := .int .i64 q, val := .bool true })) clock) }, by simp [Instr.mapUpdate, run_underlying Tryd.underlying40, Go.MapKept.run_getObj_map hb, Go.MapKept.run_checkKey Tryd.underlying3 hk, Go.MapKept.run_findKey Tryd.underlying3 e1, hj, e3, Go.MapKept.run_keyThatStays hk, Go.MapKept.run_setObj_map _ hb, Result.andThen], ?_, gr _⟩
    rw [same]
    refine ⟨es, clock, (Go.MapKept.heap_set hb).1, fun x hx => ?_, fun y hy => ?_⟩
    · obtain ⟨z, g1, g2, g3⟩ := h1 x hx
      exact ⟨z, g1, g2, List.mem_append_left _ g3⟩
    · rcases List.mem_append.1 hy with hy | hy
      · exact h2 y hy
      · rw [List.mem_singleton] at hy
        subst hy
        exact ⟨e, hm, f1⟩
end
section
variable {w : World} {ops : Array Oper} {rest : List Oper} {o : Oper} {a : Act} {Q : Exit → Act → World → Prop} {b : Nat} {S : List Int} {k : Int}
theorem wpList_lookB (hgd : o.guard = none) (m x : Operand) (ho : o.op = .lookup 40 m x false) (hm : a.eval m = .map (some b)) (hx : a.eval x = .int .i64 k) (h : MB w b S) {v : Bool} (hv : decide (k ∈ S) = v)
    (hw : wpList Tryd.prog ops Q rest (a.put o.dst (.bool v)) w) : wpList Tryd.prog ops Q (o :: rest) a w := by
  refine wpList_plain hgd fun K hK => ?_
  subst hv
  have e := hK _ _ hw
  unfold Oper.wp execOp
  simp only [ho, hm, hx, Sem.run_bind, h.look k, Result.andThen_ok]
  exact e
theorem wpList_putB (hgd : o.guard = none) (m x : Operand) (ho : o.op = .mapUpdate 40 m x (.const (.bool true))) (hm : a.eval m = .map (some b)) (hx : a.eval x = .int .i64 k) (h : MB w b S)
    (hw : ∀ w', MB w' b (S ++ [k]) → w.grownBy w' (some b) → wpList Tryd.prog ops Q rest (a.put o.dst undef) w') : wpList Tryd.prog ops Q (o :: rest) a w := by
  refine wpList_plain hgd fun K hK => ?_
  obtain ⟨w', h1, h2, h3⟩ := h.put k
  have e := hK _ _ (hw w' h2 h3)
  unfold Oper.wp execOp
  have hc : a.eval (.const (.bool true)) = .bool true := rfl
  simp only [ho, hm, hx, hc, Sem.run_bind, h1, Result.andThen_ok]
  exact e
end
end Go.Proofs.YthglegjnkhifeaaDoor
