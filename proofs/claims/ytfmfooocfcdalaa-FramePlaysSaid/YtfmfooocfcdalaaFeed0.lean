import Derived.Test.YtfmfooocfcdalaaParts
import Derived.Scope
namespace Go.Proofs.Ytfmfooocfcdalaa
open Go.RowKit Go.Shelf
attribute [local go_sem] Oper.semAt_some

/-- A scope through which the run goes without a jump, at the widest fence. -/
theorem wpIn_scope_wide {n : Nat} {P : Program} {c : Code} {Q : Exit → Act → World → Prop} {a : Act} {w : World} (h : c.wpIn Fence.wide n P (Exit.noGoto Q) a w) : (Code.scope c).wpIn Fence.wide n P Q a w :=
  wpIn_wide.2 (wp_scope_straight (wpIn_wide.1 h))

theorem parts_in (A : Option Addr) (len cap : Nat) (w : World) : CallsIn Fence.wide 2 Try.prog 18 #[.slice A len cap] w fun e w' => e = .returned (.func (.func 20) #[] #[.pointer (some ⟨w.heap.size, 0, none⟩)]) ∧ w' = w.alloc (.cells #[.slice A len cap] 27) := by
  refine callsIn_of_wp Try.func18 rfl trivial ?_ rfl
  simp only [Try.ntmps18, List.size_toArray, List.length_cons, List.length_nil, Nat.reduceAdd, Nat.reduceSub, Array.replicate_succ, Array.replicate_zero, List.push_toArray, List.append_toArray, List.nil_append, List.cons_append]
  gi_wp2
  go_ret
  exact ⟨rfl, rfl⟩

/-- A framer in memory: its two cells. -/
def FrB (W : World) (f : Nat) (v : Value) (ov : Bool) : Prop := W.heap[f]? = some (.cells #[v, .bool ov] 48 (0, 0))
theorem FrB.lt {W : World} {f : Nat} {v : Value} {ov : Bool} (h : FrB W f v ov) : f < W.heap.size := (Array.getElem?_eq_some_iff.1 h).1
theorem FrB.c0 {W : World} {f : Nat} {v : Value} {ov : Bool} (h : FrB W f v ov) : W.cell? ⟨f, 0, none⟩ = some v := by simp [World.cell?, show W.heap[f]? = _ from h]
theorem FrB.c1 {W : World} {f : Nat} {v : Value} {ov : Bool} (h : FrB W f v ov) : W.cell? ⟨f, 1, none⟩ = some (.bool ov) := by simp [World.cell?, show W.heap[f]? = _ from h]
theorem FrB.z0 {W : World} {f : Nat} {v : Value} {ov : Bool} (h : FrB W f v ov) : W.frozen? ⟨f, 0, none⟩ = false := by simp [World.frozen?, show W.heap[f]? = _ from h]
theorem FrB.z1 {W : World} {f : Nat} {v : Value} {ov : Bool} (h : FrB W f v ov) : W.frozen? ⟨f, 1, none⟩ = false := by simp [World.frozen?, show W.heap[f]? = _ from h]
theorem FrB.kept {W W' : World} {row : Option Nat} {f : Nat} {v : Value} {ov : Bool} (h : FrB W f v ov) (hg : W.grownBy W' row) (hne : some f ≠ row) : FrB W' f v ov := (hg.block f h.lt hne).trans h
theorem FrB.alloc {W : World} {f : Nat} {v : Value} {ov : Bool} (h : FrB W f v ov) (o : Obj) : FrB (W.alloc o) f v ov := h.kept (World.grownBy_alloc W o none) (by simp)
theorem FrB.same {W W' : World} {f : Nat} {v : Value} {ov : Bool} (h : FrB W f v ov) (e : W'.heap[f]? = W.heap[f]?) : FrB W' f v ov := e.trans h
theorem FrB.set0 {W : World} {f : Nat} {v : Value} {ov : Bool} (v' : Value) (h : FrB W f v ov) : FrB (W.setCell ⟨f, 0, none⟩ v') f v' ov := by
  obtain ⟨hlt, hk⟩ := Array.getElem?_eq_some_iff.1 h
  show (W.heap.modify f _)[f]? = _
  rw [Array.getElem?_eq_getElem (by rw [Array.size_modify]; exact hlt), Array.getElem_modify_self, hk]
  rfl
theorem FrB.set1 {W : World} {f : Nat} {v : Value} {ov : Bool} (b : Bool) (h : FrB W f v ov) : FrB (W.setCell ⟨f, 1, none⟩ (.bool b)) f v b := by
  obtain ⟨hlt, hk⟩ := Array.getElem?_eq_some_iff.1 h
  show (W.heap.modify f _)[f]? = _
  rw [Array.getElem?_eq_getElem (by rw [Array.size_modify]; exact hlt), Array.getElem_modify_self, hk]
  rfl

end Go.Proofs.Ytfmfooocfcdalaa
