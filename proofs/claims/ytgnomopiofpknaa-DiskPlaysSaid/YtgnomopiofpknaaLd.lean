/- Structs and arrays loaded and stored whole. No condition. -/
import Derived.Test.YtgnomopiofpknaaDp
import Derived.Deep.MidRow
import Derived.Deep.WholeRow
namespace Go.Proofs.Ytgnomopiofpknaa
open Go.RowKit

theorem all_one {vs : List Value} (h : ∀ u ∈ vs, u.oneCell' = true) : vs.toArray.all (·.oneCell') = true := by
  rw [Array.all_eq_true_iff_forall_mem]
  intro x hx
  exact h x (by simpa using hx)
theorem grownBy_setRow (w : World) (g : Nat) (cs : Array Value) : w.grownBy (w.setRow g cs) (some g) :=
  ⟨rfl, rfl, rfl, by simp, fun k _ hne => by
    simp only [World.setRow, Array.getElem?_modify]
    rw [if_neg (by intro e; exact hne (by rw [e]))]⟩

/-- A type of an array or a struct of n cells. -/
structure IsRow (T : TypeId) (n : Nat) : Prop where
  und : (∃ f, Try.prog.underlying T = some (.struct f)) ∨ ∃ k e, Try.prog.underlying T = some (.array k e)
  info : (Try.prog.info? T).map (·.size) = some n
theorem rowStep : IsRow 36 5 := ⟨.inl ⟨_, Try.underlying36⟩, by kernel_rfl⟩
theorem rowTwo : IsRow 41 2 := ⟨.inr ⟨_, _, Try.underlying41⟩, by kernel_rfl⟩
section
variable {w : World} {ops : Array Oper} {rest : List Oper} {o : Oper} {a : Act} {Q : Exit → Act → World → Prop} {K : Act → World → Prop} {T S : TypeId} {n b : Nat} {vs zs : List Value}
theorem wp_load_ro (x : Operand) (ho : o.op = .load T x) (hx : a.eval x = .pointer (some ⟨b, 0, none⟩)) (hT : IsRow T n) (hr : Ro w b S vs) (hl : vs.length = n) (h : K (a.put o.dst (.agg vs.toArray)) w) : o.wp Try.prog a w K Q := by
  obtain ⟨⟨f, h1⟩ | ⟨k, e, h1⟩, h3⟩ := hT
  · exact wp_load_row T x ho b hx S vs.toArray (0, 0) _ hr h1 rfl (by rw [h3]; simp [hl]) h
  · exact wp_load_row T x ho b hx S vs.toArray (0, 0) _ hr h1 rfl (by rw [h3]; simp [hl]) h
theorem wpList_load_ro (hgd : o.guard = none) (x : Operand) (ho : o.op = .load T x) (hx : a.eval x = .pointer (some ⟨b, 0, none⟩)) (hT : IsRow T n) (hr : Ro w b S vs) (hl : vs.length = n)
    (h : wpList Try.prog ops Q rest (a.put o.dst (.agg vs.toArray)) w) : wpList Try.prog ops Q (o :: rest) a w :=
  wpList_plain hgd fun _ hK => wp_load_ro x ho hx hT hr hl (hK _ _ h)
theorem wpList_store_ro (hgd : o.guard = none) (x y : Operand) (ho : o.op = .store T x y) (hx : a.eval x = .pointer (some ⟨b, 0, none⟩)) (hy : a.eval y = .agg vs.toArray) (hT : IsRow T n) (hr : Ro w b S zs) (hz : zs.length = n) (hl : vs.length = n) (h1 : ∀ u ∈ vs, u.oneCell' = true)
    (h : ∀ w', Ro w' b S vs → w.grownBy w' (some b) → wpList Try.prog ops Q rest (a.put o.dst undef) w') : wpList Try.prog ops Q (o :: rest) a w :=
  wpList_store_row hgd T x y ho b vs.toArray hx hy S zs.toArray hr (by rw [hT.info]; simp [hl]) (by simp [hz, hl]) (all_one h1) (h _ (setRow_heap w b _ _ _ _ hr) (grownBy_setRow w b _))
end
section
variable {w0 w : World} {ops : Array Oper} {rest : List Oper} {o : Oper} {a : Act} {Q : Exit → Act → World → Prop} {K : Act → World → Prop} {T : TypeId} {n b k : Nat} {vs : List Value} {d : Option Tmp}
theorem wp_load_part (hd : o.dst = d) (x : Operand) (ho : o.op = .load T x) (hx : a.eval x = .pointer (some ⟨b, k, none⟩)) (hT : IsRow T n) (hr : w.rangeAt b k vs) (hl : vs.length = n) (h : K (a.put d (.agg vs.toArray)) w) : o.wp Try.prog a w K Q := by
  subst hd
  unfold Oper.wp execOp
  obtain ⟨⟨f, h1⟩ | ⟨j, e, h1⟩, h3⟩ := hT
  · simp only [ho, hx, Instr.loadAt, Instr.sureAddr, Sem.run_bind, Sem.run_pure, Result.andThen_ok, run_loadVar_mid w b k T vs _ hr h1 rfl (by rw [h3]; simp [hl])]
    exact h
  · simp only [ho, hx, Instr.loadAt, Instr.sureAddr, Sem.run_bind, Sem.run_pure, Result.andThen_ok, run_loadVar_mid w b k T vs _ hr h1 rfl (by rw [h3]; simp [hl])]
    exact h
end
/-- A step, whole, in its slice. -/
theorem step_whole {w : World} {b o n : Nat} {l : List StepD} (h : Rows w anyP 5 StepR (some ⟨b, o, none⟩) n l) {k : Nat} (hk : k < l.length) : ∃ B cb Q cq, w.rangeAt b (o + k * 5) (stepV l[k].k l[k].f l[k].n B l[k].b.length cb Q l[k].p.length cq) ∧ l[k].Ok ∧ l[k].b.length ≤ cb ∧ cb ≤ 9223372036854775807 ∧ Bs w B l[k].b.length l[k].b ∧ l[k].p.length ≤ cq ∧ cq ≤ 9223372036854775807 ∧ Zs w Q l[k].p.length l[k].p := by
  obtain ⟨_, _, V, _, hr, B, cb, Q, cq, rfl, h1, h2, h3, h4, h5, h6, h7⟩ := h.at_ hk
  exact ⟨B, cb, Q, cq, hr, h1, h2.1, h3, h4.bs, h5.1, h6, h7.zs⟩
end Go.Proofs.Ytgnomopiofpknaa
