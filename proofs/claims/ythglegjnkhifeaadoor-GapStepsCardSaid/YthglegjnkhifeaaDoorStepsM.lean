/- Scripts used one behind the other; rows of ints in a region that leaves its order open. No condition. -/
import Derived.Test.YthglegjnkhifeaaDoorMoreM
import Derived.Test.YthglegjnkhifeaaDoorSeg
import Derived.Great.BuildSlice
namespace Go.Proofs.YthglegjnkhifeaaDoor
open Go.RowKit

theorem rangeOf {w : World} {b : Nat} {T : TypeId} {vs : List Value} (R : Ro w b T vs) : w.rangeAt b 0 vs := fun j v hj => by rw [Nat.zero_add]; exact R.cell hj
theorem range_later {w w1 : World} {b o : Nat} {cs : List Value} (h : w.rangeAt b o cs) (hb : b < w.heap.size) (g : Below w.heap.size w w1) : w1.rangeAt b o cs := fun j v hj => by
  rw [← h j v hj]; exact g.cell hb
/-- The first k numbers. -/
def upto (k : Nat) : List Int := (List.range k).map Int.ofNat
theorem upto_more (k : Nat) : upto k ++ [(k : Int)] = upto (k + 1) := by simp [upto, List.range_succ]
theorem upto_mem {k : Nat} {x : Int} : x ∈ upto k ↔ 0 ≤ x ∧ x < k := by
  simp only [upto, List.mem_map, List.mem_range]
  constructor
  · rintro ⟨j, h, rfl⟩; exact ⟨Int.natCast_nonneg _, Int.ofNat_lt.2 h⟩
  · intro h; exact ⟨x.toNat, by omega, Int.toNat_of_nonneg h.1⟩
theorem upto_ok {k : Nat} (h : k ≤ 1000) : OkI (upto k) := fun x hx => by
  have := upto_mem.1 hx
  omega
theorem watch_upto {k g : Nat} (hg : 1 ≤ g) (h : k + g ≤ 200) : watchS (upto k) (g : Int) = k + g := by
  refine watch_uniq h (fun m hm hq => ?_) (fun _ => ⟨by omega, ?_⟩)
  · have hc := hq.2
    rw [clean_iff] at hc
    exact hc ((m : Int) - g) (upto_mem.2 (by omega)) (by omega)
  · rw [clean_iff]
    intro u hu
    have := upto_mem.1 hu
    omega
theorem watch_last {k g : Nat} (hg : 1 ≤ g) (h : k + g + g ≤ 200) : watchS (upto k ++ [((k + g : Nat) : Int) - 1]) (g : Int) = k + g + g := by
  refine watch_uniq h (fun m hm hq => ?_) (fun _ => ⟨by omega, ?_⟩)
  · have hc := hq.2
    rw [clean_iff] at hc
    by_cases q : m < k + g
    · exact hc ((m : Int) - g) (List.mem_append_left _ (upto_mem.2 (by omega))) (by omega)
    · exact hc (((k + g : Nat) : Int) - 1) (List.mem_append_right _ (List.mem_singleton.2 rfl)) (by omega)
  · rw [clean_iff]
    intro u hu
    rcases List.mem_append.1 hu with hu | hu
    · have := upto_mem.1 hu
      omega
    · rw [List.mem_singleton] at hu
      omega
theorem fill_one {k : IntKind} {v : Int} (Z : Array Value) (hZ : Z.size = 1) : Instr.fill (fun i => some (i * 1, 1)) Z [(0, .int k v)] = some #[.int k v] := by
  have h := Go.Great.fill_whole (s := 1) (by decide) [.int k v] Z (by simp [Value.cells]) (by simp [hZ])
  simpa [Value.cells] using h
section
variable {w0 W w : World} {o : Oper} {a : Act} {Q : Exit → Act → World → Prop} {K : Act → World → Prop} {d : Option Tmp}
theorem wp_litI0 (hd : o.dst = d) (ho : o.op = .buildSlice 23 0 #[]) (h : K (a.put d (.slice (some ⟨W.heap.size, 0, none⟩) 0 0)) (W.alloc (.cells #[] 3))) : o.wp Tryd.prog a W K Q := by
  rw [← hd] at h
  obtain ⟨i0, hi, hz0, hz1, hz2⟩ := info_parts Tryd.infoInt
  have key : (Instr.buildSlice 23 0 #[]).run Tryd.prog W = .ok (.slice (some ⟨W.heap.size, 0, none⟩) 0 0) (W.alloc (.cells #[] 3)) := by
    simp [Instr.buildSlice, run_underlying Tryd.underlying23, sizeOf, typeInfo, hi, newRow, Instr.fill, Array.range_zero']
  unfold Oper.wp execOp
  simp only [ho, Sem.run_bind]
  rw [show (#[].map fun (x : Nat × Operand) => match x with | (i, x) => (i, a.eval x)) = (#[] : Array (Nat × Value)) by simp, key]
  exact h
theorem wp_litI (hd : o.dst = d) (x : Operand) (ho : o.op = .buildSlice 23 1 #[(0, x)]) {v : Int} (hx : a.eval x = .int .i64 v)
    (h : K (a.put d (.slice (some ⟨w.heap.size, 0, none⟩) 1 1)) (w.alloc (.cells #[.int .i64 v] 3))) : o.wp Tryd.prog a w K Q := by
  rw [← hd] at h
  obtain ⟨i0, hi, hz0, hz1, hz2⟩ := info_parts Tryd.infoInt
  refine wp_buildSlice 23 3 1 _ ho #[.int .i64 v] i0 _ Tryd.underlying23 hi hz0 (by rw [hz1]; decide) (by rw [hz1]; decide) ?_ h
  rw [hz1]
  have e : (#[((0 : Nat), x)].map fun (y : Nat × Operand) => (y.1, a.eval y.2)).toList = [(0, .int .i64 v)] := by simp [hx]
  exact (congrArg _ e).trans (fill_one _ (by simp))
theorem wp_litB (hd : o.dst = d) (x : Operand) (ho : o.op = .buildSlice 22 1 #[(0, x)]) {v : Int} (hx : a.eval x = .int .u8 v)
    (h : K (a.put d (.slice (some ⟨w.heap.size, 0, none⟩) 1 1)) (w.alloc (.cells #[.int .u8 v] 5))) : o.wp Tryd.prog a w K Q := by
  rw [← hd] at h
  obtain ⟨i0, hi, hz0, hz1, hz2⟩ := info_parts Tryd.infoByte
  refine wp_buildSlice 22 5 1 _ ho #[.int .u8 v] i0 _ Tryd.underlying22 hi hz0 (by rw [hz1]; decide) (by rw [hz1]; decide) ?_ h
  rw [hz1]
  have e : (#[((0 : Nat), x)].map fun (y : Nat × Operand) => (y.1, a.eval y.2)).toList = [(0, .int .u8 v)] := by simp [hx]
  exact (congrArg _ e).trans (fill_one _ (by simp))
theorem wp_appI (hd : o.dst = d) (s x : Operand) (ho : o.op = .call { callee := .builtin .append, args := #[s, x], argTypes := #[23, 23] })
    {v : Value} {n m c : Nat} {L M : List Int} {A : Option Addr} (hs : a.eval s = v) (hown : OwnI w0 v n L w) (hx : a.eval x = .slice A m c) (hr : Is w A m M) (hlen : n + m ≤ 1073741824)
    (hw : ∀ A' c' w', OwnI w0 (.slice A' (n + m) c') (n + m) (L ++ M) w' → w.grownBy w' v.ownBlock → K (a.put d (.slice A' (n + m) c')) w') : o.wp Tryd.prog a w K Q :=
  wp_appIs s x ho hs hown hx hr hlen fun A' c' w' _ h2 h3 _ => by rw [hd]; exact hw A' c' w' h2 h3
end
section
variable {P : Program} {ops : Array Oper} {Q : Exit → Act → World → Prop} {W : World} {md : Region.Mode} {f i k : Nat} {o p : Oper} {listed : Array Bool} {a : Act} {w : World}
theorem wpK_two_want (hr : Region.ready md ops listed = [i, k]) (ho : ops[i]? = some o) (hp : ops[k]? = some p) (hg : Region.wanted o (yielded ops a.tmps) = true) (hgp : Region.wanted p (yielded ops a.tmps) = true)
    (h : ∀ w', Grows w w' → ∀ K : Act → World → Prop, (∀ a' w'', Grows W w'' → wpK P md ops Q W f (listed.setIfInBounds i true) a' w'' → K a' w'') → o.wp P a w' K Q)
    (h2 : ∀ w', Grows w w' → ∀ K : Act → World → Prop, (∀ a' w'', Grows W w'' → wpK P md ops Q W f (listed.setIfInBounds k true) a' w'' → K a' w'') → p.wp P a w' K Q) :
    wpK P md ops Q W (f + 1) listed a w := fun w' g => by
  refine ⟨fun e => (by rw [hr] at e; cases e), fun j hj => ?_⟩
  rw [hr] at hj
  rcases (by simpa using hj : j = i ∨ j = k) with rfl | rfl
  · unfold wpOp
    simp only [ho, hg, if_true]
    exact .inl (h w' g _ fun a' w'' g'' k => ⟨g'', k⟩)
  · unfold wpOp
    simp only [hp, hgp, if_true]
    exact .inl (h2 w' g _ fun a' w'' g'' k => ⟨g'', k⟩)
theorem wpK_one_want (hr : Region.ready md ops listed = [i]) (ho : ops[i]? = some o) (hg : Region.wanted o (yielded ops a.tmps) = true)
    (h : ∀ w', Grows w w' → ∀ K : Act → World → Prop, (∀ a' w'', Grows W w'' → wpK P md ops Q W f (listed.setIfInBounds i true) a' w'' → K a' w'') → o.wp P a w' K Q) :
    wpK P md ops Q W (f + 1) listed a w := fun w' g => by
  refine ⟨fun e => (by rw [hr] at e; cases e), fun j hj => ?_⟩
  rw [hr] at hj
  obtain rfl : j = i := by simpa using hj
  unfold wpOp
  simp only [ho, hg, if_true]
  exact .inl (h w' g _ fun a' w'' g'' k => ⟨g'', k⟩)
/-- One that is not wanted. -/
theorem wpK_skip (d : Tmp) (hr : Region.ready md ops listed = [i]) (ho : ops[i]? = some o) (hd : o.dst = some d) (hg : Region.wanted o (yielded ops a.tmps) = false) (hW : Grows W w)
    (h : wpK P md ops Q W f (listed.setIfInBounds i true) (a.put (some d) undef) w) : wpK P md ops Q W (f + 1) listed a w := fun w' g => by
  rw [← hd] at h
  refine ⟨fun e => (by rw [hr] at e; cases e), fun j hj => ?_⟩
  rw [hr] at hj
  obtain rfl : j = i := by simpa using hj
  unfold wpOp
  simp only [ho, hg, Bool.false_eq_true, if_false]
  exact ⟨hW.trans g, wpK_later h g⟩
theorem wpK_skip2 (d e : Tmp) (hr : Region.ready md ops listed = [i, k]) (ho : ops[i]? = some o) (hp : ops[k]? = some p) (hd : o.dst = some d) (he : p.dst = some e) (hg : Region.wanted o (yielded ops a.tmps) = false) (hgp : Region.wanted p (yielded ops a.tmps) = false) (hW : Grows W w)
    (h : wpK P md ops Q W f (listed.setIfInBounds i true) (a.put (some d) undef) w) (h2 : wpK P md ops Q W f (listed.setIfInBounds k true) (a.put (some e) undef) w) : wpK P md ops Q W (f + 1) listed a w := fun w' g => by
  rw [← hd] at h
  rw [← he] at h2
  refine ⟨fun e => (by rw [hr] at e; cases e), fun j hj => ?_⟩
  rw [hr] at hj
  rcases (by simpa using hj : j = i ∨ j = k) with rfl | rfl
  · unfold wpOp
    simp only [ho, hg, Bool.false_eq_true, if_false]
    exact ⟨hW.trans g, wpK_later h g⟩
  · unfold wpOp
    simp only [hp, hgp, Bool.false_eq_true, if_false]
    exact ⟨hW.trans g, wpK_later h2 g⟩
end
end Go.Proofs.YthglegjnkhifeaaDoor
