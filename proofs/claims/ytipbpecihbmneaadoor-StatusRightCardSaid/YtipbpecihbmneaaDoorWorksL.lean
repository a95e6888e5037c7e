/- Of the examples: entries and lists of entries as literals, and what they come to. No condition. -/
import Derived.Test.YtipbpecihbmneaaDoorOf
import Derived.Test.YtipbpecihbmneaaDoorRight
import Derived.Test.YtipbpecihbmneaaDoorSeg
import Derived.Test.YtipbpecihbmneaaDoorEq
namespace Go.Proofs.YtipbpecihbmneaaDoor
open Go.RowKit

theorem range_later {w w1 : World} {b o : Nat} {cs : List Value} (h : w.rangeAt b o cs) (hb : b < w.heap.size) (g : Below w.heap.size w w1) : w1.rangeAt b o cs := fun j v hj => by
  rw [← h j v hj]; exact g.cell hb
theorem rangeOf {w : World} {b : Nat} {T : TypeId} {vs : List Value} (R : Ro w b T vs) : w.rangeAt b 0 vs := fun j v hj => by rw [Nat.zero_add]; exact R.cell hj
theorem Ro.es {w : World} {b : Nat} {l : List En} (R : Ro w b 29 (esV l)) (o : OkEs l) : Es w (some ⟨b, 0, none⟩) l.length l :=
  ⟨rfl, o, fun _ => ⟨b, 0, rfl, R.lt, fun j v hj => by rw [Nat.zero_add]; exact R.cell hj⟩⟩
section
variable {w : World} {ops : Array Oper} {rest : List Oper} {o : Oper} {a : Act} {Q : Exit → Act → World → Prop} {K : Act → World → Prop} {d : Option Tmp} {A B : List Value}
theorem wpList_buildR (hgd : o.guard = none) (T : TypeId) (parts : Array (Nat × Operand)) (ho : o.op = .build T parts) {vs : Array (Nat × Value)} {v : Value} (hx : (parts.map fun y => (y.1, a.eval y.2)) = vs) (hrun : (Instr.build T vs).run Tryd.prog w = .ok v w)
    (h : wpList Tryd.prog ops Q rest (a.put o.dst v) w) : wpList Tryd.prog ops Q (o :: rest) a w := by
  refine wpList_plain hgd fun K hK => ?_
  have e := hK _ _ h
  have hx' : (parts.map fun (x : Nat × Operand) => match x with | (i, x) => (i, a.eval x)) = vs := hx
  unfold Oper.wp execOp
  simp only [ho, Sem.run_bind, hx', hrun, Result.andThen_ok, Sem.run_pure]
  exact e
theorem wp_buildR (hd : o.dst = d) (T : TypeId) (parts : Array (Nat × Operand)) (ho : o.op = .build T parts) {vs : Array (Nat × Value)} {v : Value} (hx : (parts.map fun y => (y.1, a.eval y.2)) = vs) (hrun : (Instr.build T vs).run Tryd.prog w = .ok v w)
    (h : K (a.put d v) w) : o.wp Tryd.prog a w K Q := by
  subst hd
  have hx' : (parts.map fun (x : Nat × Operand) => match x with | (i, x) => (i, a.eval x)) = vs := hx
  unfold Oper.wp execOp
  simp only [ho, Sem.run_bind, hx', hrun, Result.andThen_ok, Sem.run_pure]
  exact h
theorem quiet_buildR {D : World → Prop} {K : Act → Prop} (T : TypeId) (parts : Array (Nat × Operand)) (ho : o.op = .build T parts) {vs : Array (Nat × Value)} {v : Value} (hx : (parts.map fun y => (y.1, a.eval y.2)) = vs) (hrun : ∀ w, (Instr.build T vs).run Tryd.prog w = .ok v w)
    (hk : K (a.put o.dst v)) : o.quiet Tryd.prog a D K :=
  ⟨v, fun w _ => by
    have hx' : (parts.map fun (x : Nat × Operand) => match x with | (i, x) => (i, a.eval x)) = vs := hx
    unfold Oper.quietAt execOp
    simp only [ho, Sem.run_bind, hx', hrun w, Result.andThen_ok, Sem.run_pure]
    exact ⟨rfl, rfl⟩, hk⟩
theorem fill_e2 (hA : A.length = 33) (hB : B.length = 33) (Z : Array Value) (hZ : Z.size = 66) : Instr.fill (fun i => some (i * 33, 33)) Z [(0, .agg A.toArray), (1, .agg B.toArray)] = some (A ++ B).toArray := by
  have h := Go.Great.fill_whole (s := 33) (by decide) [.agg A.toArray, .agg B.toArray] Z (by simp [Value.cells, hA, hB]) (by simp [hZ])
  simpa [Value.cells] using h
theorem wp_litE (hd : o.dst = d) (x : Operand) (ho : o.op = .buildSlice 22 1 #[(0, x)]) (hx : a.eval x = .agg A.toArray) (hl : A.length = 33)
    (h : K (a.put d (.slice (some ⟨w.heap.size, 0, none⟩) 1 1)) (w.alloc (.cells A.toArray 29))) : o.wp Tryd.prog a w K Q := by
  rw [← hd] at h
  obtain ⟨i0, hi, hz0, hz1, hz2⟩ := info_parts Tryd.infoEn
  refine wp_buildSlice 22 29 1 _ ho A.toArray i0 _ Tryd.underlying22 hi hz0 (by rw [hz1]; decide) (by rw [hz1]; decide) ?_ h
  rw [hz1]
  have e : (#[((0 : Nat), x)].map fun (y : Nat × Operand) => (y.1, a.eval y.2)).toList = [(0, .agg A.toArray)] := by simp [hx]
  exact (congrArg _ e).trans (fill_en A hl _ (by simp))
theorem wp_litE2 (hd : o.dst = d) (x y : Operand) (ho : o.op = .buildSlice 22 2 #[(0, x), (1, y)]) (hx : a.eval x = .agg A.toArray) (hy : a.eval y = .agg B.toArray) (hA : A.length = 33) (hB : B.length = 33)
    (h : K (a.put d (.slice (some ⟨w.heap.size, 0, none⟩) 2 2)) (w.alloc (.cells (A ++ B).toArray 29))) : o.wp Tryd.prog a w K Q := by
  rw [← hd] at h
  obtain ⟨i0, hi, hz0, hz1, hz2⟩ := info_parts Tryd.infoEn
  refine wp_buildSlice 22 29 2 _ ho (A ++ B).toArray i0 _ Tryd.underlying22 hi hz0 (by rw [hz1]; decide) (by rw [hz1]; decide) ?_ h
  rw [hz1]
  have e : (#[((0 : Nat), x), (1, y)].map fun (y : Nat × Operand) => (y.1, a.eval y.2)).toList = [(0, .agg A.toArray), (1, .agg B.toArray)] := by simp [hx, hy]
  exact (congrArg _ e).trans (fill_e2 hA hB _ (by simp))
end
theorem build_lit (x0 x1 x2 x3 x4 x5 x6 x7 x8 x9 x10 x11 x12 x13 x14 x15 x16 x17 x18 x19 x20 x21 x22 x23 x24 x25 x26 x27 x28 x29 x30 x31 : Nat) (h : Int) (w : World) : (Instr.build 29 #[(0, .int .i64 h), (1, .agg (vals [x0, x1, x2, x3, x4, x5, x6, x7, x8, x9, x10, x11, x12, x13, x14, x15, x16, x17, x18, x19, x20, x21, x22, x23, x24, x25, x26, x27, x28, x29, x30, x31]).toArray)]).run Tryd.prog w = .ok (.agg (Value.int .i64 h :: vals [x0, x1, x2, x3, x4, x5, x6, x7, x8, x9, x10, x11, x12, x13, x14, x15, x16, x17, x18, x19, x20, x21, x22, x23, x24, x25, x26, x27, x28, x29, x30, x31]).toArray) w := by kernel_rfl
theorem list32 {L : List Nat} (h : L.length = 32) : ∃ x0 x1 x2 x3 x4 x5 x6 x7 x8 x9 x10 x11 x12 x13 x14 x15 x16 x17 x18 x19 x20 x21 x22 x23 x24 x25 x26 x27 x28 x29 x30 x31, L = [x0, x1, x2, x3, x4, x5, x6, x7, x8, x9, x10, x11, x12, x13, x14, x15, x16, x17, x18, x19, x20, x21, x22, x23, x24, x25, x26, x27, x28, x29, x30, x31] := by
  match L, h with
  | [x0, x1, x2, x3, x4, x5, x6, x7, x8, x9, x10, x11, x12, x13, x14, x15, x16, x17, x18, x19, x20, x21, x22, x23, x24, x25, x26, x27, x28, x29, x30, x31], _ => exact ⟨_, _, _, _, _, _, _, _, _, _, _, _, _, _, _, _, _, _, _, _, _, _, _, _, _, _, _, _, _, _, _, _, rfl⟩
/-- An entry as it is built of its parts. -/
theorem build_en {h : Int} {X : List Nat} (hX : X.length = 32) (w : World) : (Instr.build 29 #[(0, .int .i64 h), (1, .agg (vals X).toArray)]).run Tryd.prog w = .ok (.agg (enV ⟨h, X⟩).toArray) w := by
  obtain ⟨x0, x1, x2, x3, x4, x5, x6, x7, x8, x9, x10, x11, x12, x13, x14, x15, x16, x17, x18, x19, x20, x21, x22, x23, x24, x25, x26, x27, x28, x29, x30, x31, rfl⟩ := list32 hX
  exact build_lit x0 x1 x2 x3 x4 x5 x6 x7 x8 x9 x10 x11 x12 x13 x14 x15 x16 x17 x18 x19 x20 x21 x22 x23 x24 x25 x26 x27 x28 x29 x30 x31 h w
/-- The example's hash. -/
def hashN (n : Nat) : List Nat := n :: List.replicate 31 0
theorem hashN_ok {n : Nat} (h : n < 256) : (hashN n).length = 32 ∧ AllB (hashN n) := ⟨rfl, fun x hx => by
  rcases List.mem_cons.1 hx with rfl | h1
  · exact h
  · rw [List.eq_of_mem_replicate h1]; decide⟩
theorem build_1 (w : World) : (Instr.build 27 #[(0, .int .u8 1)]).run Tryd.prog w = .ok (.agg (vals (hashN 1)).toArray) w := by kernel_rfl
theorem build_z (w : World) : (Instr.build 29 #[(0, .int .i64 1)]).run Tryd.prog w = .ok (.agg (enV ⟨1, z32⟩).toArray) w := by kernel_rfl
theorem right2 {a b : En} (h1 : 1 ≤ a.h) (h2 : a.h ≤ b.h) (h3 : a.tx ≠ b.tx) : Right [a, b] := by
  have r : Right ([] ++ [a]) := right_snoc.2 ⟨Right.nil, h1, (fun x hx => by cases hx), (fun x hx => by cases hx)⟩
  have : Right ([a] ++ [b]) := right_snoc.2 ⟨r, by omega, (fun x hx => by rw [List.mem_singleton] at hx; subst hx; exact h2), (fun x hx => by rw [List.mem_singleton] at hx; subst hx; exact h3)⟩
  exact this
theorem ex_yes : rightB [⟨1, hashN 1⟩, ⟨1, z32⟩] = true := rightB_yes (right2 (by decide) (by decide) (by decide))
theorem ex_no : rightB [⟨2, hashN 1⟩, ⟨1, z32⟩] = false := rightB_no (not_down (k := 0) (by decide) (by decide))
theorem ex_text (X : List Nat) : textS [⟨12, X⟩] = hexL X.reverse ++ [58, 49, 50, 58] := by
  have d : digN 12 = [49, 50] := by
    rw [digN_step (n := 12) (.inl (by decide)), digN_one (n := Int.tdiv 12 10) (by decide) (by decide)]
    decide
  simp [textS, entT, d]
end Go.Proofs.YtipbpecihbmneaaDoor
