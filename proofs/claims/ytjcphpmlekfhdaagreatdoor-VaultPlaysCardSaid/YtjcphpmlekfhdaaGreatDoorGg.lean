/- A region that leaves its order open, taken in segments: some operations that only read and call, in the order of the text, then one that may come up alone; and so on. -/
import Derived.Test.YtjcphpmlekfhdaaGreatDoorGc
import Derived.Test.YtjcphpmlekfhdaaGreatDoorGa
import Derived.OrdersIn
import Derived.Orders
import Derived.TacticsIn
import Derived.Below

namespace Go.Proofs.YtjcphpmlekfhdaaGreatDoor
open Go.RowKit

section
variable {P : Program} {ops : Array Oper} {Q : Exit → Act → World → Prop} {W : World}

/-- m operations from k on that only read and call what makes memory. -/
theorem wpK_seg (k m : Nat) {f : Nat} {listed : Array Bool} {a : Act} {w : World} (hs : Region.noSelect ops = true) (hQ : ∀ c a (d : Tmp) v w, Q (.panic c) (Act.put a (some d) v) w → Q (.panic c) a w)
    (hn : ((ops.toList.drop k).take m).length = m) (hB : preB .any ops m k listed = true) (hO : ownB a.tmps.size ((ops.toList.drop k).take m) = true) (hW : Grows W w)
    (h : ∃ fin, (∀ w', Grows W w' → wpQuiet P ops (fun w'' => ∃ u : After w', w'' = u.w) (fun a' => a' = fin) ((ops.toList.drop k).take m) a) ∧ wpK P .any ops Q W f (preListed m k listed) fin w) :
    wpK P .any ops Q W (f + m) listed a w := by
  obtain ⟨fin, hq, ht⟩ := h
  have := wpK_lex (md := .any) (Q := Q) (f := f) hs hQ ((ops.toList.drop k).take m) k listed a w (fun j hj => by
    rw [hn] at hj
    rw [List.getElem?_take_of_lt hj, List.getElem?_drop]
    simp) (by rw [hn]; exact hB) hO hW hq (by rw [hn]; exact ht)
  rwa [hn] at this

/-- The region, from its start. -/
theorem wp_region_seg {id : Nat} {a : Act} (hm : P.follows .mixedOrders = true) (h : ∀ w', Grows W w' → wpK P .any ops Q W ops.size (Array.replicate ops.size false) a w') : (Code.region id ops true).wp P Q a W :=
  wp_region_any hm (wpAny_of_wpK (W := W) _ _ _ _ (h _ ⟨rfl, rfl, rfl, Nat.le_refl _, fun _ _ => rfl⟩))

/-- What holds of every world behind a later one holds of those behind the first. -/
theorem wpK_from {md : Region.Mode} {W' : World} (g : Grows W W') : ∀ (f : Nat) (listed : Array Bool) (a : Act) (w : World), wpK P md ops Q W' f listed a w → wpK P md ops Q W f listed a w
  | 0, _, _, _, h => h
  | f + 1, _, _, _, h => fun w1 g1 => ⟨(h w1 g1).1, fun i hi => wpOp_mono (fun a' w'' h' => ⟨g.trans h'.1, wpK_from g f _ a' w'' h'.2⟩) ((h w1 g1).2 i hi)⟩

/-- A call of a Go function that may come up alone. -/
theorem wpK_call {f i : Nat} {o : Oper} {listed : Array Bool} {a : Act} {w : World} (hr : Region.ready .any ops listed = [i]) (ho : ops[i]? = some o) (hg : o.guard = none) (hW : Grows W w)
    (h : ∀ w', Grows W w' → ∀ K : Act → World → Prop, (∀ a' w'', Grows w' w'' → wpK P .any ops Q W f (listed.setIfInBounds i true) a' w'' → K a' w'') → o.wp P a w' K Q) :
    wpK P .any ops Q W (f + 1) listed a w :=
  wpK_one hr ho hg fun w' g K hK => h w' (hW.trans g) K fun a' w'' g2 k => hK a' w'' ((hW.trans g).trans g2) k
/-- The same, of an operation that is guarded, and wanted. -/
theorem wpK_call_want {f i : Nat} {o : Oper} {listed : Array Bool} {a : Act} {w : World} (hr : Region.ready .any ops listed = [i]) (ho : ops[i]? = some o) (hg : Region.wanted o (yielded ops a.tmps) = true) (hW : Grows W w)
    (h : ∀ w', Grows W w' → ∀ K : Act → World → Prop, (∀ a' w'', Grows w' w'' → wpK P .any ops Q W f (listed.setIfInBounds i true) a' w'' → K a' w'') → o.wp P a w' K Q) :
    wpK P .any ops Q W (f + 1) listed a w := fun w' g => by
  refine ⟨fun e => (by rw [hr] at e; cases e), fun j hj => ?_⟩
  rw [hr] at hj
  have hji : j = i := by simpa using hj
  subst hji
  unfold wpOp
  simp only [ho, hg, if_true]
  exact .inl (h w' (hW.trans g) _ fun a' w'' g2 k => ⟨(hW.trans g).trans g2, k⟩)
end

section
theorem wpK_two_want {P : Program} {ops : Array Oper} {Q : Exit → Act → World → Prop} {W : World} {md : Region.Mode} {f i k : Nat} {o p : Oper} {listed : Array Bool} {a : Act} {w : World} (hr : Region.ready md ops listed = [i, k]) (ho : ops[i]? = some o) (hp : ops[k]? = some p) (hg : Region.wanted o (yielded ops a.tmps) = true) (hgp : Region.wanted p (yielded ops a.tmps) = true)
    (h : ∀ w', Grows w w' → ∀ K : Act → World → Prop, (∀ a' w'', Grows W w'' → wpK P md ops Q W f (listed.setIfInBounds i true) a' w'' → K a' w'') → o.wp P a w' K Q)
    (h2 : ∀ w', Grows w w' → ∀ K : Act → World → Prop, (∀ a' w'', Grows W w'' → wpK P md ops Q W f (listed.setIfInBounds k true) a' w'' → K a' w'') → p.wp P a w' K Q) :
    wpK P md ops Q W (f + 1) listed a w := fun w' g => by
  refine ⟨fun e => (by rw [hr] at e; cases e), fun j hj => ?_⟩
  rw [hr] at hj
  rcases (by simpa using hj : j = i ∨ j = k) with rfl | rfl
  · unfold wpOp
    simp only [ho, hg, if_true]
    exact .inl (h w' g _ fun a' w'' g'' k => ⟨g'', k⟩)
  · unfold wpOp
    simp only [hp, hgp, if_true]
    exact .inl (h2 w' g _ fun a' w'' g'' k => ⟨g'', k⟩)
theorem wpK_one_want {P : Program} {ops : Array Oper} {Q : Exit → Act → World → Prop} {W : World} {md : Region.Mode} {f i : Nat} {o : Oper} {listed : Array Bool} {a : Act} {w : World} (hr : Region.ready md ops listed = [i]) (ho : ops[i]? = some o) (hg : Region.wanted o (yielded ops a.tmps) = true)
    (h : ∀ w', Grows w w' → ∀ K : Act → World → Prop, (∀ a' w'', Grows W w'' → wpK P md ops Q W f (listed.setIfInBounds i true) a' w'' → K a' w'') → o.wp P a w' K Q) :
    wpK P md ops Q W (f + 1) listed a w := fun w' g => by
  refine ⟨fun e => (by rw [hr] at e; cases e), fun j hj => ?_⟩
  rw [hr] at hj
  obtain rfl : j = i := by simpa using hj
  unfold wpOp
  simp only [ho, hg, if_true]
  exact .inl (h w' g _ fun a' w'' g'' k => ⟨g'', k⟩)
end

end Go.Proofs.YtjcphpmlekfhdaaGreatDoor

/- A region that draws its order, within a round of a range over a function: by the plain rules. No program here. -/
namespace Go.Proofs.YtjcphpmlekfhdaaGreatDoor

section
variable {l n : Nat} {P : Program} {o : Oper} {ops : Array Oper} {a : Act} {w : World} {K K' : Act → World → Prop} {Q : Exit → Act → World → Prop} {md : Region.Mode}
theorem wpIn_of_wp (hnd : ∀ c, o.op ≠ .defer c) (h : o.wp P a w K Q) : o.wpIn (Fence.wide.inRound l) n P a w K Q := by
  unfold Oper.wp at h
  unfold Oper.wpIn
  refine ⟨fun _ _ => trivial, ?_⟩
  rw [show (Fence.wide.inRound l).round = some l from rfl, Oper.semAt_some l _ _ hnd]
  generalize (execOp a.eval o).run P w = r at h ⊢
  cases r with
  | ok x w' =>
    cases x with
    | enter f args => exact ⟨(fun e => by cases e), callsIn_wide.2 h⟩
    | row row args =>
      refine ⟨(fun e => by cases e), fun c cs _ => ?_⟩
      obtain ⟨v, w2, r, s⟩ := h c cs
      exact ⟨v, w2, r, stepsIn_wide.2 s⟩
    | round => exact h.elim
    | _ => exact h
  | halt x w' => cases x <;> exact h
theorem wpOpIn_of_wpOp {i : Nat} (hlo : ¬ LetsOut Q) (hnd : ∀ (j : Nat) (o : Oper) c, ops[j]? = some o → o.op ≠ .defer c) (hK : ∀ a w, K a w → K' a w) (h : wpOp P ops Q i K a w) : wpOpIn (Fence.wide.inRound l) n P ops Q i K' a w := by
  refine wpOpIn_mono hK ?_
  unfold wpOp at h
  unfold wpOpIn
  cases ho : ops[i]? with
  | none => rw [ho] at h; exact h
  | some o =>
    rw [ho] at h
    simp only at h ⊢
    split at h
    · rename_i hw
      rw [if_pos hw]
      rcases h with h | h
      · exact wpIn_of_wp (fun c => hnd i o c ho) h
      · exact absurd h.2 hlo
    · rename_i hw
      rw [if_neg hw]
      exact ⟨fun _ _ => trivial, h⟩
theorem wpAnyIn_of_wpAny (hlo : ¬ LetsOut Q) (hnd : ∀ (j : Nat) (o : Oper) c, ops[j]? = some o → o.op ≠ .defer c) : ∀ (fuel : Nat) (listed : Array Bool) (a : Act) (w : World), wpAny P md ops Q fuel listed a w → wpAnyIn (Fence.wide.inRound l) n P md ops Q fuel listed a w
  | 0, _, _, _, h => h
  | _ + 1, _, _, _, h => ⟨h.1, fun i hi => wpOpIn_of_wpOp hlo hnd (fun a w h => wpAnyIn_of_wpAny hlo hnd _ _ a w h) (h.2 i hi)⟩
def noDefer (ops : Array Oper) : Bool := ops.all fun o => match o.op with
  | .defer _ => false
  | _ => true
theorem noDefer_spec (h : noDefer ops = true) : ∀ (j : Nat) (o : Oper) c, ops[j]? = some o → o.op ≠ .defer c := fun j o c hj e => by
  have hm := Array.mem_of_getElem? hj
  have := Array.all_eq_true_iff_forall_mem.1 h o hm
  rw [e] at this
  cases this
theorem wpIn_region_plain {id : Nat} (hm : P.follows .mixedOrders = true) (hlo : ¬ LetsOut Q) (hnd : noDefer ops = true) (h : wpAny P .any ops Q ops.size (Array.replicate ops.size false) a w.drew) : (Code.region id ops true).wpIn (Fence.wide.inRound l) n P Q a w :=
  wpIn_region_any hm (wpAnyIn_of_wpAny hlo (noDefer_spec hnd) _ _ _ _ h)
/-- Operations that only read and call what makes memory, in a round: one walk in the order of the text. -/
theorem wpIn_region_after {id : Nat} {ls : List Oper} (hm : P.follows .mixedOrders = true) (hlo : ¬ LetsOut Q) (hnd : noDefer ls.toArray = true) (hB : Region.lexB .any ls.toArray = true)
    (h : wpQuiet P ls.toArray (fun w' => ∃ u : After w, w' = u.w) (fun a' => ∀ w', (∃ u : After w, w' = u.w) → Q .normal a' w') ls a) : (Code.region id ls.toArray true).wpIn (Fence.wide.inRound l) n P Q a w := by
  simp only [Region.lexB, Bool.and_eq_true] at hB
  refine wpIn_region_plain hm hlo hnd (wpAny_of_quiet (C := fun w' => ∃ u : After w, w' = u.w) (Q := fun a' => ∀ w', (∃ u : After w, w' = u.w) → Q .normal a' w') (fun _ w' hw' h => h w' hw') _ _ _ _ ⟨⟨w.drew, ⟨rfl, rfl, rfl, Nat.le_refl _, fun _ _ => rfl⟩⟩, rfl⟩ ?_)
  have := wpAnyQ_lex (C := fun w' => ∃ u : After w, w' = u.w) (md := .any) hB.1 ls.toArray.toList 0 (Array.replicate ls.toArray.size false) a (by simp) (by simpa using hB.2) h
  simpa using this
end
end Go.Proofs.YtjcphpmlekfhdaaGreatDoor
