/- A region that leaves its order open, taken in segments: some operations that only read and call, in the order of the text, then one that may come up alone; and so on. -/
import Derived.Test.YtbdjcbdnhaddoaaDoorGb
namespace Go.Proofs.YtbdjcbdnhaddoaaDoor
open Go.RowKit

section
variable {P : Program} {ops : Array Oper} {Q : Exit → Act → World → Prop} {W : World}

/-- m operations from k on that only read and call what makes memory. -/
theorem wpK_seg (k m : Nat) {f : Nat} {listed : Array Bool} {a : Act} {w : World} (hs : Region.noSelect ops = true) (hQ : ∀ c a (d : Tmp) v w, Q (.panic c) (Act.put a (some d) v) w → Q (.panic c) a w)
    (hn : ((ops.toList.drop k).take m).length = m) (hB : preB .any ops m k listed = true) (hO : ownB a.tmps.size ((ops.toList.drop k).take m) = true) (hW : Grows W w)
    (h : ∃ fin, (∀ w', Grows W w' → wpQuiet P ops (fun w'' => ∃ u : After w', w'' = u.w) (fun a' => a' = fin) ((ops.toList.drop k).take m) a) ∧ wpK P .any ops Q W f (preListed m k listed) fin w) :
    wpK P .any ops Q W (f + m) listed a w := by
  obtain ⟨fin, hq, ht⟩ := h
  have := wpK_lex (md := .any) (Q := Q) (f := f) hs hQ ((ops.toList.drop k).take m) k listed a w (fun j hj => by
    rw [hn] at hj
    rw [List.getElem?_take_of_lt hj, List.getElem?_drop]
    simp) (by rw [hn]; exact hB) hO hW hq (by rw [hn]; exact ht)
  rwa [hn] at this

/-- The region, from its start. -/
theorem wp_region_seg {id : Nat} {a : Act} (hm : P.follows .mixedOrders = true) (h : ∀ w', Grows W w' → wpK P .any ops Q W ops.size (Array.replicate ops.size false) a w') : (Code.region id ops true).wp P Q a W :=
  wp_region_any hm (wpAny_of_wpK (W := W) _ _ _ _ (h _ ⟨rfl, rfl, rfl, Nat.le_refl _, fun _ _ => rfl⟩))

/-- What holds of every world behind a later one holds of those behind the first. -/
theorem wpK_from {md : Region.Mode} {W' : World} (g : Grows W W') : ∀ (f : Nat) (listed : Array Bool) (a : Act) (w : World), wpK P md ops Q W' f listed a w → wpK P md ops Q W f listed a w
  | 0, _, _, _, h => h
  | f + 1, _, _, _, h => fun w1 g1 => ⟨(h w1 g1).1, fun i hi => wpOp_mono (fun a' w'' h' => ⟨g.trans h'.1, wpK_from g f _ a' w'' h'.2⟩) ((h w1 g1).2 i hi)⟩

/-- A call of a Go function that may come up alone. -/
theorem wpK_call {f i : Nat} {o : Oper} {listed : Array Bool} {a : Act} {w : World} (hr : Region.ready .any ops listed = [i]) (ho : ops[i]? = some o) (hg : o.guard = none) (hW : Grows W w)
    (h : ∀ w', Grows W w' → ∀ K : Act → World → Prop, (∀ a' w'', Grows w' w'' → wpK P .any ops Q W f (listed.setIfInBounds i true) a' w'' → K a' w'') → o.wp P a w' K Q) :
    wpK P .any ops Q W (f + 1) listed a w :=
  wpK_one hr ho hg fun w' g K hK => h w' (hW.trans g) K fun a' w'' g2 k => hK a' w'' ((hW.trans g).trans g2) k
/-- The same, of an operation that is guarded, and wanted. -/
theorem wpK_call_want {f i : Nat} {o : Oper} {listed : Array Bool} {a : Act} {w : World} (hr : Region.ready .any ops listed = [i]) (ho : ops[i]? = some o) (hg : Region.wanted o (yielded ops a.tmps) = true) (hW : Grows W w)
    (h : ∀ w', Grows W w' → ∀ K : Act → World → Prop, (∀ a' w'', Grows w' w'' → wpK P .any ops Q W f (listed.setIfInBounds i true) a' w'' → K a' w'') → o.wp P a w' K Q) :
    wpK P .any ops Q W (f + 1) listed a w := fun w' g => by
  refine ⟨fun e => (by rw [hr] at e; cases e), fun j hj => ?_⟩
  rw [hr] at hj
  have hji : j = i := by simpa using hj
  subst hji
  unfold wpOp
  simp only [ho, hg, if_true]
  exact .inl (h w' (hW.trans g) _ fun a' w'' g2 k => ⟨(hW.trans g).trans g2, k⟩)
end

section
theorem wpK_two_want {P : Program} {ops : Array Oper} {Q : Exit → Act → World → Prop} {W : World} {md : Region.Mode} {f i k : Nat} {o p : Oper} {listed : Array Bool} {a : Act} {w : World} (hr : Region.ready md ops listed = [i, k]) (ho : ops[i]? = some o) (hp : ops[k]? = some p) (hg : Region.wanted o (yielded ops a.tmps) = true) (hgp : Region.wanted p (yielded ops a.tmps) = true)
    (h : ∀ w', Grows w w' → ∀ K : Act → World → Prop, (∀ a' w'', Grows W w'' → wpK P md ops Q W f (listed.setIfInBounds i true) a' w'' → K a' w'') → o.wp P a w' K Q)
    (h2 : ∀ w', Grows w w' → ∀ K : Act → World → Prop, (∀ a' w'', Grows W w'' → wpK P md ops Q W f (listed.setIfInBounds k true) a' w'' → K a' w'') → p.wp P a w' K Q) :
    wpK P md ops Q W (f + 1) listed a w := fun w' g => by
  refine ⟨fun e => (by rw [hr] at e; cases e), fun j hj => ?_⟩
  rw [hr] at hj
  rcases (by simpa using hj : j = i ∨ j = k) with rfl | rfl
  · unfold wpOp
    simp only [ho, hg, if_true]
    exact .inl (h w' g _ fun a' w'' g'' k => ⟨g'', k⟩)
  · unfold wpOp
    simp only [hp, hgp, if_true]
    exact .inl (h2 w' g _ fun a' w'' g'' k => ⟨g'', k⟩)
theorem wpK_one_want {P : Program} {ops : Array Oper} {Q : Exit → Act → World → Prop} {W : World} {md : Region.Mode} {f i : Nat} {o : Oper} {listed : Array Bool} {a : Act} {w : World} (hr : Region.ready md ops listed = [i]) (ho : ops[i]? = some o) (hg : Region.wanted o (yielded ops a.tmps) = true)
    (h : ∀ w', Grows w w' → ∀ K : Act → World → Prop, (∀ a' w'', Grows W w'' → wpK P md ops Q W f (listed.setIfInBounds i true) a' w'' → K a' w'') → o.wp P a w' K Q) :
    wpK P md ops Q W (f + 1) listed a w := fun w' g => by
  refine ⟨fun e => (by rw [hr] at e; cases e), fun j hj => ?_⟩
  rw [hr] at hj
  obtain rfl : j = i := by simpa using hj
  unfold wpOp
  simp only [ho, hg, if_true]
  exact .inl (h w' g _ fun a' w'' g'' k => ⟨g'', k⟩)
end

end Go.Proofs.YtbdjcbdnhaddoaaDoor
