/- Rows of headers cut in two. No condition. -/
import Derived.Test.YtkocbkckfkbmhaaDoorBack
namespace Go.Proofs.YtkocbkckfkbmhaaDoor
open Go.RowKit

theorem link_take {l : List Hd} {k : Nat} (hk : k ≤ l.length) : linkN (l.take k) = min (linkN l) k := by
  obtain ⟨h1, h2, h3⟩ := linkN_links l
  have hl : (l.take k).length = k := by rw [List.length_take]; omega
  refine linkN_eq ⟨by omega, fun j a b => ?_, fun h => ?_⟩
  · rw [nthH_take (by omega), nthH_take (by omega)]
    exact h2 j a (by omega)
  · have e : min (linkN l) k = linkN l := by omega
    rw [e]
    obtain ⟨a, b⟩ := h3 (by omega)
    refine ⟨a, ?_⟩
    rw [nthH_take (by omega), nthH_take (by omega)]
    exact b
theorem link_drop {l : List Hd} {k : Nat} (hk : k < linkN l) : linkN (l.drop k) = linkN l - k := by
  obtain ⟨h1, h2, h3⟩ := linkN_links l
  have hl : (l.drop k).length = l.length - k := by rw [List.length_drop]
  refine linkN_eq ⟨by omega, fun j a b => ?_, fun h => ⟨by omega, ?_⟩⟩
  · rw [nthH_drop, nthH_drop, show k + (j - 1) = k + j - 1 by omega]
    exact h2 (k + j) (by omega) (by omega)
  · rw [nthH_drop, nthH_drop, show k + (linkN l - k) = linkN l by omega, show k + (linkN l - k - 1) = linkN l - 1 by omega]
    exact (h3 (by omega)).2
theorem strB_app (L M : List Nat) : strB L ++ strB M = strB (L ++ M) := by
  apply ByteArray.ext
  simp [strB]
theorem run_fromH {A : Option Addr} {n c k : Nat} (h1 : k ≤ n) (w : World) : (Instr.sliceAt 38 (.slice A n c) (some (.int .i64 (k : Int))) none none).run Tryd.prog w = .ok (.slice (if c = k then A else A.map (·.add (k * 68))) (n - k) (c - k)) w := by
  obtain ⟨i0, hi, _, hz1, _⟩ := info_parts Tryd.infoHd
  have e : Tryd.prog.elem 38 = 26 := by kernel_rfl
  rw [run_sliceAt_slice (P := Tryd.prog) w 38 _ _ _ _ (by rw [e]; exact Tryd.underlying38), run_slice_l w 38 A n c (by rw [e]; exact Tryd.underlying38) .i64 (k : Int) (by omega) (by omega), e]
  simp [sizeOf, typeInfo, hi, hz1, sliced]
theorem Hs.from {w : World} {A : Option Addr} {n c k : Nat} {l : List Hd} (h : Hs w A n l) (hk : k ≤ n) (hc : n ≤ c) : Hs w (if c = k then A else A.map (·.add (k * 68))) (n - k) (l.drop k) := by
  by_cases e : k = n
  · subst e
    rw [Nat.sub_self, List.drop_of_length_le (by rw [h.len]; exact Nat.le_refl _)]
    exact Hs.nil _ _
  · rw [if_neg (by omega)]
    obtain ⟨b, o, rfl, _, _⟩ := h.cel (by omega)
    rw [Option.map_some, add_at]
    exact h.right (by omega)
section
variable {w : World} {ops : Array Oper} {rest : List Oper} {o : Oper} {a : Act} {Q : Exit → Act → World → Prop} {K : Act → World → Prop}
theorem wp_fromH (x i : Operand) (ho : o.op = .slice 38 x (some i) none none) {A : Option Addr} {n c k : Nat} (hx : a.eval x = .slice A n c) (hi : a.eval i = .int .i64 (k : Int)) (h1 : k ≤ n) (h2 : n ≤ c)
    (h : ∀ A', (∀ w' l, Hs w' A n l → Hs w' A' (n - k) (l.drop k)) → K (a.put o.dst (.slice A' (n - k) (c - k))) w) : o.wp Tryd.prog a w K Q := by
  have e := h (if c = k then A else A.map (·.add (k * 68))) fun w' l hl => hl.from h1 h2
  unfold Oper.wp execOp
  simp only [ho, hx, hi, Option.map_some, Option.map_none, Sem.run_bind, Sem.run_pure, Result.andThen_ok, run_fromH h1]
  exact e
theorem wpList_fromH (hgd : o.guard = none) (x i : Operand) (ho : o.op = .slice 38 x (some i) none none) {A : Option Addr} {n c k : Nat} (hx : a.eval x = .slice A n c) (hi : a.eval i = .int .i64 (k : Int)) (h1 : k ≤ n) (h2 : n ≤ c)
    (h : ∀ A', (∀ w' l, Hs w' A n l → Hs w' A' (n - k) (l.drop k)) → wpList Tryd.prog ops Q rest (a.put o.dst (.slice A' (n - k) (c - k))) w) : wpList Tryd.prog ops Q (o :: rest) a w :=
  wpList_plain hgd fun _ hK => wp_fromH x i ho hx hi h1 h2 fun A' hA => hK _ _ (h A' hA)
end
end Go.Proofs.YtkocbkckfkbmhaaDoor
