/- Of the example: lists of hashes as literals, and what the tree of three hashes is. No condition. -/
import Derived.Test.YtdenibigefchpaaDoorBranch
import Derived.Test.YtdenibigefchpaaDoorDoubled
import Derived.Test.YtdenibigefchpaaDoorRefBranch
import Derived.Test.YtdenibigefchpaaDoorSeg
import Derived.ChangeSlices
namespace Go.Proofs.YtdenibigefchpaaDoor
open Go.RowKit

theorem Ro.gs {w : World} {b : Nat} {l : List (List Nat)} (R : Ro w b 24 (gsV l)) (o : OkG l) : Gs w (some ⟨b, 0, none⟩) l.length l :=
  ⟨rfl, o, fun _ => ⟨b, 0, rfl, R.lt, fun j v hj => by rw [Nat.zero_add]; exact R.cell hj⟩⟩
section
variable {w : World} {ops : Array Oper} {rest : List Oper} {o : Oper} {a : Act} {Q : Exit → Act → World → Prop} {K : Act → World → Prop} {d : Option Tmp} {A B C : List Value}
theorem fill_g2 (hA : A.length = 32) (hB : B.length = 32) (Z : Array Value) (hZ : Z.size = 64) : Instr.fill (fun i => some (i * 32, 32)) Z [(0, .agg A.toArray), (1, .agg B.toArray)] = some (A ++ B).toArray := by
  have h := Go.Great.fill_whole (s := 32) (by decide) [.agg A.toArray, .agg B.toArray] Z (by simp [Value.cells, hA, hB]) (by simp [hZ])
  simpa [Value.cells] using h
theorem fill_g3 (hA : A.length = 32) (hB : B.length = 32) (hC : C.length = 32) (Z : Array Value) (hZ : Z.size = 96) : Instr.fill (fun i => some (i * 32, 32)) Z [(0, .agg A.toArray), (1, .agg B.toArray), (2, .agg C.toArray)] = some (A ++ (B ++ C)).toArray := by
  have h := Go.Great.fill_whole (s := 32) (by decide) [.agg A.toArray, .agg B.toArray, .agg C.toArray] Z (by simp [Value.cells, hA, hB, hC]) (by simp [hZ])
  simpa [Value.cells] using h
theorem wp_litG2 (hd : o.dst = d) (x y : Operand) (ho : o.op = .buildSlice 22 2 #[(0, x), (1, y)]) (hx : a.eval x = .agg A.toArray) (hy : a.eval y = .agg B.toArray) (hA : A.length = 32) (hB : B.length = 32)
    (h : K (a.put d (.slice (some ⟨w.heap.size, 0, none⟩) 2 2)) (w.alloc (.cells (A ++ B).toArray 24))) : o.wp Tryd.prog a w K Q := by
  rw [← hd] at h
  obtain ⟨i0, hi, hz0, hz1, hz2⟩ := info_parts Tryd.infoG
  refine wp_buildSlice 22 24 2 _ ho (A ++ B).toArray i0 _ Tryd.underlying22 hi hz0 (by rw [hz1]; decide) (by rw [hz1]; decide) ?_ h
  rw [hz1]
  have e : (#[((0 : Nat), x), (1, y)].map fun (y : Nat × Operand) => (y.1, a.eval y.2)).toList = [(0, .agg A.toArray), (1, .agg B.toArray)] := by simp [hx, hy]
  exact (congrArg _ e).trans (fill_g2 hA hB _ (by simp))
theorem wp_litG3 (hd : o.dst = d) (x y z : Operand) (ho : o.op = .buildSlice 22 3 #[(0, x), (1, y), (2, z)]) (hx : a.eval x = .agg A.toArray) (hy : a.eval y = .agg B.toArray) (hz : a.eval z = .agg C.toArray) (hA : A.length = 32) (hB : B.length = 32) (hC : C.length = 32)
    (h : K (a.put d (.slice (some ⟨w.heap.size, 0, none⟩) 3 3)) (w.alloc (.cells (A ++ (B ++ C)).toArray 24))) : o.wp Tryd.prog a w K Q := by
  rw [← hd] at h
  obtain ⟨i0, hi, hz0, hz1, hz2⟩ := info_parts Tryd.infoG
  refine wp_buildSlice 22 24 3 _ ho (A ++ (B ++ C)).toArray i0 _ Tryd.underlying22 hi hz0 (by rw [hz1]; decide) (by rw [hz1]; decide) ?_ h
  rw [hz1]
  have e : (#[((0 : Nat), x), (1, y), (2, z)].map fun (y : Nat × Operand) => (y.1, a.eval y.2)).toList = [(0, .agg A.toArray), (1, .agg B.toArray), (2, .agg C.toArray)] := by simp [hx, hy, hz]
  exact (congrArg _ e).trans (fill_g3 hA hB hC _ (by simp))
theorem wpList_litG3 (hgd : o.guard = none) (x y z : Operand) (ho : o.op = .buildSlice 22 3 #[(0, x), (1, y), (2, z)]) (hx : a.eval x = .agg A.toArray) (hy : a.eval y = .agg B.toArray) (hz : a.eval z = .agg C.toArray) (hA : A.length = 32) (hB : B.length = 32) (hC : C.length = 32)
    (h : wpList Tryd.prog ops Q rest (a.put o.dst (.slice (some ⟨w.heap.size, 0, none⟩) 3 3)) (w.alloc (.cells (A ++ (B ++ C)).toArray 24))) : wpList Tryd.prog ops Q (o :: rest) a w :=
  wpList_plain hgd fun _ hK => wp_litG3 rfl x y z ho hx hy hz hA hB hC (hK _ _ h)
theorem wpList_buildR (hgd : o.guard = none) (T : TypeId) (parts : Array (Nat × Operand)) (ho : o.op = .build T parts) {vs : Array (Nat × Value)} {v : Value} (hx : (parts.map fun y => (y.1, a.eval y.2)) = vs) (hrun : (Instr.build T vs).run Tryd.prog w = .ok v w)
    (h : wpList Tryd.prog ops Q rest (a.put o.dst v) w) : wpList Tryd.prog ops Q (o :: rest) a w := by
  refine wpList_plain hgd fun K hK => ?_
  have e := hK _ _ h
  have hx' : (parts.map fun (x : Nat × Operand) => match x with | (i, x) => (i, a.eval x)) = vs := hx
  unfold Oper.wp execOp
  simp only [ho, Sem.run_bind, hx', hrun, Result.andThen_ok, Sem.run_pure]
  exact e
end
theorem run_make_bytes (n c : Nat) (l k : Int) (hl : l = n) (hk : k = c) (hnc : n ≤ c) (hc : c ≤ 1099511627776) (W : World) :
    (Instr.makeSlice 38 (.int .i64 l) (.int .i64 k)).run Tryd.prog W = .ok (.slice (some ⟨W.heap.size, 0, none⟩) n c) (W.alloc (.cells (vals (List.replicate c 0)).toArray 5)) := by
  obtain ⟨i0, hi, hz0, hz1, hz2⟩ := info_parts Tryd.infoByte
  subst hl hk
  rw [run_make (P := Tryd.prog) W 38 5 i0 (.int .u8 0) Tryd.underlying38 hi hz0 .i64 .i64 (n : Int) (c : Int) (by omega) (by omega) (by rw [hz2]; omega) (by omega), hz1]
  have e : (madeCells (Value.int .u8 0).cells c) = (vals (List.replicate c 0)).toArray := by
    apply Array.toList_inj.1
    show (madeCells #[Value.int .u8 0] c).toList = _
    rw [toList_madeCells_one, vals, List.map_replicate]; rfl
  rw [Int.toNat_natCast, Int.toNat_natCast, Nat.mul_one, e]
/-- The example's hashes. -/
def hashN (n : Nat) : List Nat := n :: List.replicate 31 0
theorem hashN_ok {n : Nat} (h : n < 256) : (hashN n).length = 32 ∧ AllB (hashN n) := ⟨rfl, fun x hx => by
  rcases List.mem_cons.1 hx with rfl | h1
  · exact h
  · rw [List.eq_of_mem_replicate h1]; decide⟩
theorem build_1 (w : World) : (Instr.build 24 #[(0, .int .u8 1)]).run Tryd.prog w = .ok (.agg (vals (hashN 1)).toArray) w := by kernel_rfl
theorem build_2 (w : World) : (Instr.build 24 #[(0, .int .u8 2)]).run Tryd.prog w = .ok (.agg (vals (hashN 2)).toArray) w := by kernel_rfl
theorem build_3 (w : World) : (Instr.build 24 #[(0, .int .u8 3)]).run Tryd.prog w = .ok (.agg (vals (hashN 3)).toArray) w := by kernel_rfl
theorem build_0 (w : World) : (Instr.build 24 #[]).run Tryd.prog w = .ok (.agg (vals z32).toArray) w := by kernel_rfl
theorem ex_ne : joinS (hashN 3) (hashN 3) ≠ joinS (hashN 1) (hashN 2) := by decide +kernel
section
variable (J : List Nat → List Nat → List Nat) (z a b c : List Nat)
theorem root1 : root J z [a] = a := root_short J (by simp)
theorem root3 : root J z [a, b, c] = J (J a b) (J c c) := by
  rw [root_up J (by simp), up, up, root_up J (by simp), up, up, root_short J (by simp)]; rfl
theorem branch3 : branch J [a, b, c] 2 = [c, J a b] := by
  rw [branch_up J (by simp), up, up, branch_up J (by simp), up, up, branch_short J (by simp)]
  simp [mate, nt]
theorem twice3 (h : b ≠ a) (h2 : J c c ≠ J a b) : twice J [a, b, c] = false := by
  rw [twice_up J (by simp), up, up, twice_up J (by simp), up, up, twice_short J (by simp)]
  simp [pairs, h, h2]
theorem twice2 : twice J [a, a] = true := by
  rw [twice_up J (by simp)]
  simp [pairs]
theorem fold3 (h2 : J c c ≠ J a b) : fold J c [c, J a b] 2 = some (J (J a b) (J c c)) := by
  simp [fold, h2]
theorem fold3no : fold J c [c, J a b] 3 = none := by
  simp [fold]
end
end Go.Proofs.YtdenibigefchpaaDoor
