/- A region that leaves its order open, whose operations only read and whose callees make memory of their own and write nothing that was there: one walk in the order of the text serves every order. -/
import Derived.WalkKit
import Derived.BigQuiet
import Derived.BigGuardPart
import Derived.Deep.QuietTactic
import Derived.WalkSpells

namespace Go.Proofs.YtimjmmiajgfblaaGreatDoor
open Go.RowKit

/-- A world behind W: of what lay in W nothing has turned. -/
structure After (W : World) where
  w : World
  below : Below W.heap.size W w

instance (W : World) : Nonempty (After W) := ⟨⟨W, Below.refl _ _⟩⟩

theorem After.cell {W : World} (u : After W) {a : Addr} {v : Value} (h : W.cell? a = some v) : u.w.cell? a = some v := cell_later u.below h

theorem after_call {P : Program} {f : FuncId} {args : Array Value} {W : World} {u : After W} {v : Value}
    (h : Calls P f args u.w fun e w' => e = .returned v ∧ Below u.w.heap.size u.w w') : Calls P f args u.w fun e w'' => e = .returned v ∧ ∃ u' : After W, w'' = u'.w :=
  h.mono fun _ w'' ⟨he, hb⟩ => ⟨he, ⟨w'', u.below.trans (hb.mono u.below.size)⟩, rfl⟩

theorem wp_region_after {P : Program} {id : Nat} {Q : Exit → Act → World → Prop} {a : Act} {W : World} {l : List Oper} (hm : P.follows .mixedOrders = true) (hB : Region.lexB .any l.toArray = true)
    (h : wpQuiet P l.toArray (fun w' => ∃ u : After W, w' = u.w) (fun a' => ∀ w', (∃ u : After W, w' = u.w) → Q .normal a' w') l a) : (Code.region id l.toArray true).wp P Q a W :=
  wp_region_quiet (C := fun w' => ∃ u : After W, w' = u.w) hm hB ⟨⟨{ W with drawn := W.drawn + 1 }, ⟨rfl, rfl, rfl, Nat.le_refl _, fun _ _ => rfl⟩⟩, rfl⟩ (by simpa using h)

end Go.Proofs.YtimjmmiajgfblaaGreatDoor

/- A region that leaves its order open, whose operations read, call what makes memory of its own, and then lay new boxes and fill them: one walk of the reads and calls in the order of the text serves every order, if what stands behind holds however much memory has been made between. -/
namespace Go.Proofs.YtimjmmiajgfblaaGreatDoor
open Go.RowKit

/-- The second world is the first one and new memory. -/
def Grows (w w' : World) : Prop := Below w.heap.size w w'
theorem Grows.refl (w : World) : Grows w w := Below.refl _ _
theorem Grows.trans {a b c : World} (h : Grows a b) (k : Grows b c) : Grows a c := Below.trans h (k.mono h.size)

section
variable {P : Program} {ops : Array Oper} {md : Region.Mode} {Q : Exit → Act → World → Prop} {W : World}

/-- Whatever order is picked from here on, and however much memory is made between two operations. -/
def wpK (P : Program) (md : Region.Mode) (ops : Array Oper) (Q : Exit → Act → World → Prop) (W : World) : Nat → Array Bool → Act → World → Prop
  | 0, listed, a, w => ∀ w', Grows w w' → Region.ready md ops listed = [] ∧ Q .normal a w'
  | f + 1, listed, a, w => ∀ w', Grows w w' → (Region.ready md ops listed = [] → Q .normal a w') ∧
      ∀ i ∈ Region.ready md ops listed, wpOp P ops Q i (fun a' w'' => Grows W w'' ∧ wpK P md ops Q W f (listed.setIfInBounds i true) a' w'') a w'

theorem wpK_later {f : Nat} {listed : Array Bool} {a : Act} {w w' : World} (h : wpK P md ops Q W f listed a w) (g : Grows w w') : wpK P md ops Q W f listed a w' := by
  cases f with
  | zero => exact fun w2 g2 => h w2 (g.trans g2)
  | succ f => exact fun w2 g2 => h w2 (g.trans g2)

theorem wpAny_of_wpK : ∀ (f : Nat) (listed : Array Bool) (a : Act) (w : World), wpK P md ops Q W f listed a w → wpAny P md ops Q f listed a w
  | 0, _, _, w, h => h w (.refl w)
  | f + 1, _, _, w, h => ⟨(h w (.refl w)).1, fun i hi => wpOp_mono (fun a' w' h' => wpAny_of_wpK f _ a' w' h'.2) ((h w (.refl w)).2 i hi)⟩

/-- In every world behind W the operation leaves the value v, and new memory at most. -/
def YieldsG (P : Program) (ops : Array Oper) (W : World) (o : Oper) (v : Value) (a : Act) : Prop :=
  (Region.wanted o (yielded ops a.tmps) = true ∧ ∀ w, Grows W w → o.quietAt P a (Grows w) w v) ∨ (Region.wanted o (yielded ops a.tmps) = false ∧ v = undef)

theorem YieldsG.wpOp {i : Nat} {o : Oper} {v : Value} {a : Act} {K : Act → World → Prop} {w : World} (hi : ops[i]? = some o) (hy : YieldsG P ops W o v a) (hw : Grows W w)
    (h : ∀ w', Grows w w' → K (a.put o.dst v) w') : wpOp P ops Q i K a w := by
  unfold Go.wpOp
  simp only [hi]
  rcases hy with ⟨want, hv⟩ | ⟨want, rfl⟩
  · simp only [want, if_true]
    refine .inl ?_
    have h3 := hv w hw
    unfold Oper.quietAt at h3
    unfold Oper.wp
    generalize (execOp a.eval o).run P w = r at *
    cases r with
    | halt x w' => exact h3.elim
    | ok n w' =>
      cases n <;> simp only [Oper.quietUpon] at h3 <;> simp only [Oper.upon]
      case value u => rw [h3.1, h3.2]; exact h _ (.refl _)
      case skip => rw [h3.1, ← h3.2]; exact h _ (.refl _)
      case enter f args =>
        rw [h3.1]
        exact h3.2.mono fun e w'' ⟨he, hw''⟩ => by subst he; exact h _ hw''
  · simp only [want, Bool.false_eq_true, if_false]; exact h _ (.refl _)

/-- What stays of a state whatever another operation writes, and that operation with a temporary more. -/
theorem wpOp_apart {j : Nat} {oi oj : Oper} {v : Value} {R : Act → Prop} (hj : ops[j]? = some oj) (hap : oi.apart ops oj = true) (hsj : ∀ cs b, oj.op ≠ .select cs b)
    (hQ : ∀ c a w, Q (.panic c) (a.put oi.dst v) w → Q (.panic c) a w) (hR : ∀ b u, R b → R (b.put oj.dst u)) (hD : ∀ (b : Act) d, R b → R { b with defers := d :: b.defers })
    {K : Act → World → Prop} {a : Act} {w : World} (ha : R a) (h : wpOp P ops Q j K (a.put oi.dst v) w) : wpOp P ops Q j (fun a' w' => R a' ∧ K (a'.put oi.dst v) w') a w := by
  obtain ⟨h1, h2, -⟩ := Oper.apart_spec hap
  have back : ∀ (b : Act) (u : Value) (w' : World), R b → K ((b.put oi.dst v).put oj.dst u) w' → R (b.put oj.dst u) ∧ K ((b.put oj.dst u).put oi.dst v) w' := fun b u w' hb hk =>
    ⟨hR b u hb, by rw [← Act.put_comm b v u h2]; exact hk⟩
  unfold wpOp at *
  simp only [hj] at *
  rw [wanted_put oj a oi.dst v h1] at h
  by_cases want : Region.wanted oj (yielded ops a.tmps) = true
  · rw [if_pos want] at h ⊢
    rcases h with h | ⟨asks, lets⟩
    · refine .inl ?_
      unfold Oper.wp at *
      rw [execOp_put oj hsj a oi.dst v h1] at h
      generalize (execOp a.eval oj).run P w = r at *
      cases r with
      | halt x w' =>
        cases x <;> simp only [Oper.upon] at h ⊢
        exact hQ _ _ _ h
      | ok n w' =>
        cases n <;> simp only [Oper.upon] at h ⊢
        case value u => exact back a u w' ha h
        case skip => exact back a undef w' ha h
        case defer d => exact back { a with defers := d :: a.defers } undef w' (hD a d ha) (by rw [← Act.put_defers]; exact h)
        case enter f args =>
          refine Calls.mono h fun e w'' he => ?_
          cases e with
          | returned u => exact back a u w'' ha he
          | panicked c => exact hQ _ _ _ he
          | outgrown => exact he
        case row row args => exact Rows.mono h fun u w'' he => back a u w'' ha he
    · refine .inr ⟨?_, lets⟩
      unfold Oper.asks at *
      rw [execOp_put oj hsj a oi.dst v h1] at asks
      exact asks
  · rw [if_neg want] at h ⊢
    exact back a undef w ha h

/-- An operation that may come up now, and yields its value in every world behind W, may be taken first. -/
theorem wpK_first {i : Nat} {oi : Oper} {v : Value} (hi : ops[i]? = some oi) (hsel : ∀ (j : Nat) (o : Oper) cs b, ops[j]? = some o → o.op ≠ .select cs b)
    (hQ : ∀ c a w, Q (.panic c) (a.put oi.dst v) w → Q (.panic c) a w) :
    ∀ (f : Nat) (listed : Array Bool) (a : Act) (w : World),
      (∀ j oj, ops[j]? = some oj → j ≠ i → listed.getD j true = false → (∀ e ∈ oj.after, Region.binds md e = true → e.on ≠ i) → oi.apart ops oj = true) →
      i ∈ Region.ready md ops listed → YieldsG P ops W oi v a → Grows W w →
      wpK P md ops Q W f (listed.setIfInBounds i true) (a.put oi.dst v) w → wpK P md ops Q W (f + 1) listed a w := by
  intro f
  induction f with
  | zero =>
    intro listed a w _ hr hy hW H w' g
    refine ⟨fun h => (by rw [h] at hr; cases hr), fun j hj => ?_⟩
    by_cases hji : j = i
    · subst hji
      exact hy.wpOp hi (hW.trans g) fun w'' g'' => ⟨hW.trans (g.trans g''), wpK_later H (g.trans g'')⟩
    · have := ready_mono hj hji
      rw [(H w (.refl w)).1] at this
      cases this
  | succ f ih =>
    intro listed a w hfree hr hy hW H w' g
    refine ⟨fun h => (by rw [h] at hr; cases hr), fun j hj => ?_⟩
    by_cases hji : j = i
    · subst hji
      exact hy.wpOp hi (hW.trans g) fun w'' g'' => ⟨hW.trans (g.trans g''), wpK_later H (g.trans g'')⟩
    · have h1 := (H w' g).2 j (ready_mono hj hji)
      obtain ⟨hjun, oj, hoj, hall⟩ := mem_ready.1 hj
      have iun := (mem_ready.1 hr).1
      have hnot : ∀ e ∈ oj.after, Region.binds md e = true → e.on ≠ i := fun e he hb heq => by
        have h1 := hall e he hb
        rw [heq] at h1
        rcases Nat.lt_or_ge i listed.size with h' | h'
        · simp [h'] at iun h1; rw [iun] at h1; cases h1
        · simp [Array.getElem?_eq_none h'] at h1
      have hap := hfree j oj hoj hji hjun hnot
      obtain ⟨-, -, h3⟩ := Oper.apart_spec hap
      have h2 := wpOp_apart (R := YieldsG P ops W oi v) hoj hap (fun cs b => hsel j oj cs b hoj) hQ
        (fun b u hb => by
          unfold YieldsG Oper.quietAt at *
          rw [execOp_put oi (fun cs b => hsel i oi cs b hi) b oj.dst u h3, wanted_put oi b oj.dst u h3]
          exact hb) (fun b d hb => hb) hy h1
      refine wpOp_mono (fun a' w'' h4 => ?_) h2
      refine ⟨h4.2.1, ih (listed.setIfInBounds j true) a' w'' (fun k ok hk hki hun hno => ?_) (ready_mono hr (Ne.symm hji)) h4.1 h4.2.1 ?_⟩
      · refine hfree k ok hk hki ?_ hno
        by_cases hjk : j = k
        · subst hjk; exact hjun
        · rw [getD_set_ne true hjk] at hun; exact hun
      · rw [Array.setIfInBounds_comm _ _ hji]
        exact h4.2.2

/-- The first operations, one by one: may each come up, and is each that may come ahead of it apart from it? -/
def preB (md : Region.Mode) (ops : Array Oper) : Nat → Nat → Array Bool → Bool
  | 0, _, _ => true
  | f + 1, k, listed => (Region.ready md ops listed).contains k && Region.free md ops listed k && preB md ops f (k + 1) (listed.setIfInBounds k true)
def preListed : Nat → Nat → Array Bool → Array Bool
  | 0, _, listed => listed
  | f + 1, k, listed => preListed f (k + 1) (listed.setIfInBounds k true)
/-- Each writes a temporary of its own. -/
def ownB (size : Nat) : List Oper → Bool
  | [] => true
  | o :: l => (match o.dst with | none => false | some d => decide (d < size) && l.all fun x => x.dst != some d) && ownB size l

/-- The worlds behind W, as the walks have them. -/
def behind (W : World) (w' : World) : Prop := ∃ u : After W, w' = u.w

theorem put_size (a : Act) (d : Option Tmp) (v : Value) : (a.put d v).tmps.size = a.tmps.size := by
  cases d <;> simp [Act.put]

theorem quiet_keeps {C : World → Prop} {fin : Act} {d : Nat} : ∀ (l : List Oper) (a : Act), (∀ x ∈ l, x.dst ≠ some d) → wpQuiet P ops C (fun a' => a' = fin) l a → fin.tmps[d]? = a.tmps[d]?
  | [], a, _, h => by have h : a = fin := h; rw [h]
  | o :: l, a, hd, h => by
    have key : ∀ v, (a.put o.dst v).tmps[d]? = a.tmps[d]? := fun v => by
      have hne := hd o (by simp)
      cases e : o.dst with
      | none => rfl
      | some k =>
        have : k ≠ d := fun h => hne (by rw [e, h])
        simp [Act.put, this]
    unfold wpQuiet at h
    split at h
    · obtain ⟨v, _, h2⟩ := h
      rw [quiet_keeps l _ (fun x hx => hd x (by simp [hx])) h2, key]
    · rw [quiet_keeps l _ (fun x hx => hd x (by simp [hx])) h, key]

theorem quietAt_grows {o : Oper} {a : Act} {w : World} {v : Value} (h : o.quietAt P a (behind w) w v) : o.quietAt P a (Grows w) w v := by
  unfold Oper.quietAt at *
  generalize (execOp a.eval o).run P w = r at *
  cases r with
  | halt x w' => exact h
  | ok n w' =>
    cases n <;> simp only [Oper.quietUpon] at h ⊢
    case value u => exact h
    case skip => exact h
    case enter f args => exact ⟨h.1, h.2.mono fun e w'' ⟨he, u, hu⟩ => ⟨he, by rw [hu]; exact u.below⟩⟩

theorem wpK_lex (hs : Region.noSelect ops = true) (hQ : ∀ c a (d : Tmp) v w, Q (.panic c) (Act.put a (some d) v) w → Q (.panic c) a w) {fin : Act} {f : Nat} :
    ∀ (l : List Oper) (k : Nat) (listed : Array Bool) (a : Act) (w : World), (∀ j, j < l.length → l[j]? = ops[k + j]?) → preB md ops l.length k listed = true → ownB a.tmps.size l = true → Grows W w →
    (∀ w', Grows W w' → wpQuiet P ops (behind w') (fun a' => a' = fin) l a) → wpK P md ops Q W f (preListed l.length k listed) fin w → wpK P md ops Q W (f + l.length) listed a w
  | [], k, listed, a, w, _, _, _, _, hq, h => by
    have e : a = fin := hq w ‹_›
    rw [e]; exact h
  | o :: l, k, listed, a, w, hl, hB, hO, hW, hq, h => by
    have h0 : ops[k]? = some o := by simpa using (hl 0 (by simp)).symm
    simp only [List.length_cons, preB, Bool.and_eq_true] at hB
    obtain ⟨⟨hr, hf⟩, hB'⟩ := hB
    simp only [ownB, Bool.and_eq_true] at hO
    obtain ⟨hO1, hO2⟩ := hO
    cases hd : o.dst with
    | none => rw [hd] at hO1; cases hO1
    | some d =>
      simp only [hd, Bool.and_eq_true, decide_eq_true_eq] at hO1
      obtain ⟨hlt, hno⟩ := hO1
      have hno' : ∀ x ∈ l, x.dst ≠ some d := fun x hx => by simpa using List.all_eq_true.1 hno x hx
      have hit : ∀ v, (a.put o.dst v).tmps[d]? = some v := fun v => by rw [hd]; simp [Act.put, hlt]
      have step : ∃ v, YieldsG P ops W o v a ∧ ∀ w', Grows W w' → wpQuiet P ops (behind w') (fun a' => a' = fin) l (a.put o.dst v) := by
        by_cases want : Region.wanted o (yielded ops a.tmps) = true
        · have hq2 : ∀ w', Grows W w' → o.quiet P a (behind w') (wpQuiet P ops (behind w') (fun a' => a' = fin) l) := fun w' g => by
            have := hq w' g
            unfold wpQuiet at this
            rwa [if_pos want] at this
          obtain ⟨v, _, hv2⟩ := hq2 w hW
          have ev := (quiet_keeps l _ hno' hv2).trans (hit v)
          have same : ∀ w', Grows W w' → (∀ u, behind w' u → o.quietAt P a (behind w') u v) ∧ wpQuiet P ops (behind w') (fun a' => a' = fin) l (a.put o.dst v) := fun w' g => by
            obtain ⟨v', hv1', hv2'⟩ := hq2 w' g
            have ev' := (quiet_keeps l _ hno' hv2').trans (hit v')
            have : v' = v := Option.some.inj (ev'.symm.trans ev)
            subst this
            exact ⟨hv1', hv2'⟩
          exact ⟨v, .inl ⟨want, fun w' g => quietAt_grows ((same w' g).1 w' ⟨⟨w', Below.refl _ _⟩, rfl⟩)⟩, fun w' g => (same w' g).2⟩
        · refine ⟨undef, .inr ⟨by simpa using want, rfl⟩, fun w' g => ?_⟩
          have := hq w' g
          unfold wpQuiet at this
          rwa [if_neg want] at this
      obtain ⟨v, hy, hq3⟩ := step
      have more := wpK_lex hs hQ (fin := fin) (f := f) l (k + 1) (listed.setIfInBounds k true) (a.put o.dst v) w (fun j hj => by have := hl (j + 1) (by simp; omega); simpa [Nat.add_assoc, Nat.add_comm 1 j] using this)
        hB' (by rw [put_size]; exact hO2) hW hq3 h
      exact wpK_first h0 (Region.noSelect_spec hs) (fun c a w h => hQ c a d v w (by rw [hd] at h; exact h)) (f + l.length) listed a w (Region.free_spec h0 hf) (by simpa using hr) hy hW more

/-- The reads and calls are walked in the order of the text; what is left over is asked of every world behind. -/
theorem wp_region_grow {id : Nat} {a : Act} {l : List Oper} (n : Nat) (hm : P.follows .mixedOrders = true) (hn : n ≤ l.length)
    (hB : (Region.noSelect l.toArray && preB .any l.toArray n 0 (Array.replicate l.length false)) = true) (hO : ownB a.tmps.size (l.take n) = true)
    (hQ : ∀ c a (d : Tmp) v w, Q (.panic c) (Act.put a (some d) v) w → Q (.panic c) a w)
    (h : ∃ fin, (∀ w', Grows W w' → wpQuiet P l.toArray (fun w'' => ∃ u : After w', w'' = u.w) (fun a' => a' = fin) (l.take n) a) ∧
      ∀ w', Grows W w' → wpK P .any l.toArray Q W (l.length - n) (preListed n 0 (Array.replicate l.length false)) fin w') : (Code.region id l.toArray true).wp P Q a W := by
  obtain ⟨fin, hq, ht⟩ := h
  simp only [Bool.and_eq_true] at hB
  have g0 : Grows W { W with drawn := W.drawn + 1 } := ⟨rfl, rfl, rfl, Nat.le_refl _, fun _ _ => rfl⟩
  have len : (l.take n).length = n := by simp; omega
  refine wp_region_any hm (wpAny_of_wpK (W := W) _ _ _ _ ?_)
  have := wpK_lex (md := .any) (Q := Q) (f := l.length - n) hB.1 hQ (l.take n) 0 (Array.replicate l.length false) a _ (fun j hj => by
    rw [len] at hj
    simp [hj]) (by rw [len]; exact hB.2) hO g0 hq (by rw [len]; exact ht _ g0)
  rw [len, show l.length - n + n = l.toArray.size by simp; omega] at this
  simpa using this

/-- One operation alone may come up. -/
theorem wpK_one {f i : Nat} {o : Oper} {listed : Array Bool} {a : Act} {w : World} (hr : Region.ready md ops listed = [i]) (ho : ops[i]? = some o) (hg : o.guard = none)
    (h : ∀ w', Grows w w' → ∀ K : Act → World → Prop, (∀ a' w'', Grows W w'' → wpK P md ops Q W f (listed.setIfInBounds i true) a' w'' → K a' w'') → o.wp P a w' K Q) :
    wpK P md ops Q W (f + 1) listed a w := fun w' g => by
  refine ⟨fun e => (by rw [hr] at e; cases e), fun j hj => ?_⟩
  rw [hr] at hj
  have hji : j = i := by simpa using hj
  subst hji
  unfold wpOp
  have want : Region.wanted o (yielded ops a.tmps) = true := by simp [Region.wanted, hg]
  simp only [ho, want, if_true]
  exact .inl (h w' g _ fun a' w'' g'' k => ⟨g'', k⟩)

/-- Either of two operations may come up. -/
theorem wpK_two {f i k : Nat} {o p : Oper} {listed : Array Bool} {a : Act} {w : World} (hr : Region.ready md ops listed = [i, k]) (ho : ops[i]? = some o) (hp : ops[k]? = some p) (hg : o.guard = none) (hgp : p.guard = none)
    (h : ∀ w', Grows w w' → ∀ K : Act → World → Prop, (∀ a' w'', Grows W w'' → wpK P md ops Q W f (listed.setIfInBounds i true) a' w'' → K a' w'') → o.wp P a w' K Q)
    (h2 : ∀ w', Grows w w' → ∀ K : Act → World → Prop, (∀ a' w'', Grows W w'' → wpK P md ops Q W f (listed.setIfInBounds k true) a' w'' → K a' w'') → p.wp P a w' K Q) :
    wpK P md ops Q W (f + 1) listed a w := fun w' g => by
  refine ⟨fun e => (by rw [hr] at e; cases e), fun j hj => ?_⟩
  rw [hr] at hj
  have want : Region.wanted o (yielded ops a.tmps) = true := by simp [Region.wanted, hg]
  have want2 : Region.wanted p (yielded ops a.tmps) = true := by simp [Region.wanted, hgp]
  rcases (by simpa using hj : j = i ∨ j = k) with rfl | rfl
  · unfold wpOp
    simp only [ho, want, if_true]
    exact .inl (h w' g _ fun a' w'' g'' k => ⟨g'', k⟩)
  · unfold wpOp
    simp only [hp, want2, if_true]
    exact .inl (h2 w' g _ fun a' w'' g'' k => ⟨g'', k⟩)

/-- None may come up any more. -/
theorem wpK_end {f : Nat} {listed : Array Bool} {a : Act} {w : World} (hr : Region.ready md ops listed = []) (h : ∀ w', Grows w w' → Q .normal a w') : wpK P md ops Q W f listed a w := by
  cases f with
  | zero => exact fun w' g => ⟨hr, h w' g⟩
  | succ f => exact fun w' g => ⟨fun _ => h w' g, fun i hi => by rw [hr] at hi; cases hi⟩

/-- Block b holds these cells, each of which may be written. -/
def Holds (w : World) (b : Nat) (c : Array Value) (T : TypeId) : Prop := w.heap[b]? = some (.cells c T (0, 0))
theorem Holds.cell {w : World} {b : Nat} {c : Array Value} {T : TypeId} (h : Holds w b c T) (q : Nat) : w.cell? ⟨b, q, none⟩ = c[q]? := by
  unfold Holds at h; simp [World.cell?, h]
theorem Holds.free {w : World} {b : Nat} {c : Array Value} {T : TypeId} (h : Holds w b c T) (q : Nat) : w.frozen? ⟨b, q, none⟩ = false := by
  unfold Holds at h; simp [World.frozen?, h]
theorem Holds.lt {w : World} {b : Nat} {c : Array Value} {T : TypeId} (h : Holds w b c T) : b < w.heap.size := by
  unfold Holds at h
  exact (Array.getElem?_eq_some_iff.1 h).1
theorem Holds.later {w w' : World} {b : Nat} {c : Array Value} {T : TypeId} (h : Holds w b c T) (g : Below w.heap.size w w') : Holds w' b c T := by
  unfold Holds at *
  rw [g.block b (Holds.lt h)]; exact h
theorem Holds.new (w : World) (c : Array Value) (T : TypeId) : Holds (w.alloc (.cells c T)) w.heap.size c T := by
  show (w.heap.push _)[w.heap.size]? = _
  simp
theorem Holds.set {w : World} {b q : Nat} {c : Array Value} {T : TypeId} (h : Holds w b c T) (v : Value) : Holds (w.setCell ⟨b, q, none⟩ v) b (c.setIfInBounds q v) T := by
  unfold Holds at *
  show (w.heap.modify b _)[b]? = _
  rw [Array.getElem?_modify, if_pos rfl, h]
  rfl
theorem Holds.other {w : World} {b k q : Nat} {c : Array Value} {T : TypeId} (h : Holds w b c T) (hk : k ≠ b) (v : Value) : Holds (w.setCell ⟨k, q, none⟩ v) b c T := by
  unfold Holds at *
  rw [Below.heap_setCell _ _ _ _ (by simpa using fun e => hk e.symm)]
  exact h

/-- A new box, laid by the one operation that may come up. -/
theorem wpK_box1 {f i : Nat} {o : Oper} {d : Tmp} {c : Array Value} {T : TypeId} {listed : Array Bool} {a : Act} {w : World} (hr : Region.ready md ops listed = [i]) (ho : ops[i]? = some o) (hg : o.guard = none) (hd : o.dst = some d)
    (hz : ∀ w, (execOp a.eval o).run P w = .ok (.value (.pointer (some ⟨w.heap.size, 0, none⟩))) (w.alloc (.cells c T))) (hW : Grows W w)
    (h : ∀ (B : Nat) (w' : World), Grows w w' → w.heap.size ≤ B → Holds w' B c T → wpK P md ops Q W f (listed.setIfInBounds i true) (a.put (some d) (.pointer (some ⟨B, 0, none⟩))) w') :
    wpK P md ops Q W (f + 1) listed a w := by
  refine wpK_one hr ho hg fun w' g K hK => ?_
  unfold Oper.wp
  rw [hz w']
  simp only [Oper.upon]
  have g2 : Grows w' (w'.alloc (.cells c T)) := (Below.refl _ _).alloc (Nat.le_refl _) _
  rw [hd]
  exact hK _ _ ((hW.trans g).trans g2) (h _ _ (g.trans g2) g.size (Holds.new _ _ _))

/-- Two new boxes, laid in either order. -/
theorem wpK_box2 {f i k : Nat} {o p : Oper} {d e : Tmp} {c c2 : Array Value} {T T2 : TypeId} {listed : Array Bool} {a : Act} {w : World} (hr : Region.ready md ops listed = [i, k]) (hri : Region.ready md ops (listed.setIfInBounds i true) = [k])
    (hrk : Region.ready md ops (listed.setIfInBounds k true) = [i]) (hik : i ≠ k) (ho : ops[i]? = some o) (hp : ops[k]? = some p) (hg : o.guard = none) (hgp : p.guard = none) (hd : o.dst = some d) (he : p.dst = some e) (hde : d ≠ e)
    (hz : ∀ a w, (execOp (Act.eval a) o).run P w = .ok (.value (.pointer (some ⟨w.heap.size, 0, none⟩))) (w.alloc (.cells c T)))
    (hzp : ∀ a w, (execOp (Act.eval a) p).run P w = .ok (.value (.pointer (some ⟨w.heap.size, 0, none⟩))) (w.alloc (.cells c2 T2))) (hW : Grows W w)
    (h : ∀ (B C : Nat) (w' : World), Grows w w' → w.heap.size ≤ B → w.heap.size ≤ C → B ≠ C → Holds w' B c T → Holds w' C c2 T2 →
      wpK P md ops Q W f ((listed.setIfInBounds i true).setIfInBounds k true) ((a.put (some d) (.pointer (some ⟨B, 0, none⟩))).put (some e) (.pointer (some ⟨C, 0, none⟩))) w') :
    wpK P md ops Q W (f + 2) listed a w := by
  have gr : ∀ (w : World) (x : Obj), Grows w (w.alloc x) := fun w x => (Below.refl _ _).alloc (Nat.le_refl _) _
  refine wpK_two (f := f + 1) hr ho hp hg hgp (fun w1 g1 K hK => ?_) (fun w1 g1 K hK => ?_)
  · unfold Oper.wp
    rw [hz a w1]
    simp only [Oper.upon]
    have n1 := Holds.new w1 c T
    rw [hd]
    refine hK _ _ ((hW.trans g1).trans (gr _ _)) (wpK_one hri hp hgp fun w2 g2 K hK => ?_)
    unfold Oper.wp
    rw [hzp _ w2]
    simp only [Oper.upon]
    rw [he]
    have s1 := g1.size
    have n2 := n1.later g2
    refine hK _ _ (((hW.trans g1).trans (gr _ _)).trans (g2.trans (gr _ _))) (h _ _ _ ((g1.trans (gr _ _)).trans (g2.trans (gr _ _))) s1 ?_ ?_ (n2.later (gr _ _)) (Holds.new _ _ _))
    · have := n2.lt; omega
    · have := n2.lt; omega
  · unfold Oper.wp
    rw [hzp a w1]
    simp only [Oper.upon]
    have n1 := Holds.new w1 c2 T2
    rw [he]
    refine hK _ _ ((hW.trans g1).trans (gr _ _)) (wpK_one hrk ho hg fun w2 g2 K hK => ?_)
    unfold Oper.wp
    rw [hz _ w2]
    simp only [Oper.upon]
    rw [hd]
    have s1 := g1.size
    have n2 := n1.later g2
    refine hK _ _ (((hW.trans g1).trans (gr _ _)).trans (g2.trans (gr _ _))) ?_
    rw [Array.setIfInBounds_comm _ _ (Ne.symm hik), Act.put_comm _ _ _ (fun x hx => by cases hx; intro h; exact hde (Option.some.inj h))]
    refine h _ _ _ ((g1.trans (gr _ _)).trans (g2.trans (gr _ _))) ?_ s1 ?_ (Holds.new _ _ _) (n2.later (gr _ _))
    · have := n2.lt; omega
    · have := n2.lt; omega

end
end Go.Proofs.YtimjmmiajgfblaaGreatDoor

/- A region that leaves its order open, whose operations only read and whose callees make memory of their own and write nothing that was there: one walk in the order of the text serves every order. -/
namespace Go.Proofs.YtimjmmiajgfblaaGreatDoor.Bg
open Go.RowKit

/-- A world behind W: of what lay in W nothing has turned. -/
structure After (W : World) where
  w : World
  below : Below W.heap.size W w

instance (W : World) : Nonempty (After W) := ⟨⟨W, Below.refl _ _⟩⟩

theorem After.cell {W : World} (u : After W) {a : Addr} {v : Value} (h : W.cell? a = some v) : u.w.cell? a = some v := cell_later u.below h

theorem after_call {P : Program} {f : FuncId} {args : Array Value} {W : World} {u : After W} {v : Value}
    (h : Calls P f args u.w fun e w' => e = .returned v ∧ Below u.w.heap.size u.w w') : Calls P f args u.w fun e w'' => e = .returned v ∧ ∃ u' : After W, w'' = u'.w :=
  h.mono fun _ w'' ⟨he, hb⟩ => ⟨he, ⟨w'', u.below.trans (hb.mono u.below.size)⟩, rfl⟩

theorem wp_region_after {P : Program} {id : Nat} {Q : Exit → Act → World → Prop} {a : Act} {W : World} {l : List Oper} (hm : P.follows .mixedOrders = true) (hB : Region.lexB .any l.toArray = true)
    (h : wpQuiet P l.toArray (fun w' => ∃ u : After W, w' = u.w) (fun a' => ∀ w', (∃ u : After W, w' = u.w) → Q .normal a' w') l a) : (Code.region id l.toArray true).wp P Q a W :=
  wp_region_quiet (C := fun w' => ∃ u : After W, w' = u.w) hm hB ⟨⟨{ W with drawn := W.drawn + 1 }, ⟨rfl, rfl, rfl, Nat.le_refl _, fun _ _ => rfl⟩⟩, rfl⟩ (by simpa using h)

end Go.Proofs.YtimjmmiajgfblaaGreatDoor.Bg

/- A region that leaves its order open, whose operations read, call what makes memory of its own, and then lay new boxes and fill them: one walk of the reads and calls in the order of the text serves every order, if what stands behind holds however much memory has been made between. -/
namespace Go.Proofs.YtimjmmiajgfblaaGreatDoor.Bg
open Go.RowKit

/-- The second world is the first one and new memory. -/
def Grows (w w' : World) : Prop := Below w.heap.size w w'
theorem Grows.refl (w : World) : Grows w w := Below.refl _ _
theorem Grows.trans {a b c : World} (h : Grows a b) (k : Grows b c) : Grows a c := Below.trans h (k.mono h.size)

section
variable {P : Program} {ops : Array Oper} {md : Region.Mode} {Q : Exit → Act → World → Prop} {W : World}

/-- Whatever order is picked from here on, and however much memory is made between two operations. -/
def wpK (P : Program) (md : Region.Mode) (ops : Array Oper) (Q : Exit → Act → World → Prop) (W : World) : Nat → Array Bool → Act → World → Prop
  | 0, listed, a, w => ∀ w', Grows w w' → Region.ready md ops listed = [] ∧ Q .normal a w'
  | f + 1, listed, a, w => ∀ w', Grows w w' → (Region.ready md ops listed = [] → Q .normal a w') ∧
      ∀ i ∈ Region.ready md ops listed, wpOp P ops Q i (fun a' w'' => Grows W w'' ∧ wpK P md ops Q W f (listed.setIfInBounds i true) a' w'') a w'

theorem wpK_later {f : Nat} {listed : Array Bool} {a : Act} {w w' : World} (h : wpK P md ops Q W f listed a w) (g : Grows w w') : wpK P md ops Q W f listed a w' := by
  cases f with
  | zero => exact fun w2 g2 => h w2 (g.trans g2)
  | succ f => exact fun w2 g2 => h w2 (g.trans g2)

theorem wpAny_of_wpK : ∀ (f : Nat) (listed : Array Bool) (a : Act) (w : World), wpK P md ops Q W f listed a w → wpAny P md ops Q f listed a w
  | 0, _, _, w, h => h w (.refl w)
  | f + 1, _, _, w, h => ⟨(h w (.refl w)).1, fun i hi => wpOp_mono (fun a' w' h' => wpAny_of_wpK f _ a' w' h'.2) ((h w (.refl w)).2 i hi)⟩

/-- In every world behind W the operation leaves the value v, and new memory at most. -/
def YieldsG (P : Program) (ops : Array Oper) (W : World) (o : Oper) (v : Value) (a : Act) : Prop :=
  (Region.wanted o (yielded ops a.tmps) = true ∧ ∀ w, Grows W w → o.quietAt P a (Grows w) w v) ∨ (Region.wanted o (yielded ops a.tmps) = false ∧ v = undef)

theorem YieldsG.wpOp {i : Nat} {o : Oper} {v : Value} {a : Act} {K : Act → World → Prop} {w : World} (hi : ops[i]? = some o) (hy : YieldsG P ops W o v a) (hw : Grows W w)
    (h : ∀ w', Grows w w' → K (a.put o.dst v) w') : wpOp P ops Q i K a w := by
  unfold Go.wpOp
  simp only [hi]
  rcases hy with ⟨want, hv⟩ | ⟨want, rfl⟩
  · simp only [want, if_true]
    refine .inl ?_
    have h3 := hv w hw
    unfold Oper.quietAt at h3
    unfold Oper.wp
    generalize (execOp a.eval o).run P w = r at *
    cases r with
    | halt x w' => exact h3.elim
    | ok n w' =>
      cases n <;> simp only [Oper.quietUpon] at h3 <;> simp only [Oper.upon]
      case value u => rw [h3.1, h3.2]; exact h _ (.refl _)
      case skip => rw [h3.1, ← h3.2]; exact h _ (.refl _)
      case enter f args =>
        rw [h3.1]
        exact h3.2.mono fun e w'' ⟨he, hw''⟩ => by subst he; exact h _ hw''
  · simp only [want, Bool.false_eq_true, if_false]; exact h _ (.refl _)

/-- What stays of a state whatever another operation writes, and that operation with a temporary more. -/
theorem wpOp_apart {j : Nat} {oi oj : Oper} {v : Value} {R : Act → Prop} (hj : ops[j]? = some oj) (hap : oi.apart ops oj = true) (hsj : ∀ cs b, oj.op ≠ .select cs b)
    (hQ : ∀ c a w, Q (.panic c) (a.put oi.dst v) w → Q (.panic c) a w) (hR : ∀ b u, R b → R (b.put oj.dst u)) (hD : ∀ (b : Act) d, R b → R { b with defers := d :: b.defers })
    {K : Act → World → Prop} {a : Act} {w : World} (ha : R a) (h : wpOp P ops Q j K (a.put oi.dst v) w) : wpOp P ops Q j (fun a' w' => R a' ∧ K (a'.put oi.dst v) w') a w := by
  obtain ⟨h1, h2, -⟩ := Oper.apart_spec hap
  have back : ∀ (b : Act) (u : Value) (w' : World), R b → K ((b.put oi.dst v).put oj.dst u) w' → R (b.put oj.dst u) ∧ K ((b.put oj.dst u).put oi.dst v) w' := fun b u w' hb hk =>
    ⟨hR b u hb, by rw [← Act.put_comm b v u h2]; exact hk⟩
  unfold wpOp at *
  simp only [hj] at *
  rw [wanted_put oj a oi.dst v h1] at h
  by_cases want : Region.wanted oj (yielded ops a.tmps) = true
  · rw [if_pos want] at h ⊢
    rcases h with h | ⟨asks, lets⟩
    · refine .inl ?_
      unfold Oper.wp at *
      rw [execOp_put oj hsj a oi.dst v h1] at h
      generalize (execOp a.eval oj).run P w = r at *
      cases r with
      | halt x w' =>
        cases x <;> simp only [Oper.upon] at h ⊢
        exact hQ _ _ _ h
      | ok n w' =>
        cases n <;> simp only [Oper.upon] at h ⊢
        case value u => exact back a u w' ha h
        case skip => exact back a undef w' ha h
        case defer d => exact back { a with defers := d :: a.defers } undef w' (hD a d ha) (by rw [← Act.put_defers]; exact h)
        case enter f args =>
          refine Calls.mono h fun e w'' he => ?_
          cases e with
          | returned u => exact back a u w'' ha he
          | panicked c => exact hQ _ _ _ he
          | outgrown => exact he
        case row row args => exact Rows.mono h fun u w'' he => back a u w'' ha he
    · refine .inr ⟨?_, lets⟩
      unfold Oper.asks at *
      rw [execOp_put oj hsj a oi.dst v h1] at asks
      exact asks
  · rw [if_neg want] at h ⊢
    exact back a undef w ha h

/-- An operation that may come up now, and yields its value in every world behind W, may be taken first. -/
theorem wpK_first {i : Nat} {oi : Oper} {v : Value} (hi : ops[i]? = some oi) (hsel : ∀ (j : Nat) (o : Oper) cs b, ops[j]? = some o → o.op ≠ .select cs b)
    (hQ : ∀ c a w, Q (.panic c) (a.put oi.dst v) w → Q (.panic c) a w) :
    ∀ (f : Nat) (listed : Array Bool) (a : Act) (w : World),
      (∀ j oj, ops[j]? = some oj → j ≠ i → listed.getD j true = false → (∀ e ∈ oj.after, Region.binds md e = true → e.on ≠ i) → oi.apart ops oj = true) →
      i ∈ Region.ready md ops listed → YieldsG P ops W oi v a → Grows W w →
      wpK P md ops Q W f (listed.setIfInBounds i true) (a.put oi.dst v) w → wpK P md ops Q W (f + 1) listed a w := by
  intro f
  induction f with
  | zero =>
    intro listed a w _ hr hy hW H w' g
    refine ⟨fun h => (by rw [h] at hr; cases hr), fun j hj => ?_⟩
    by_cases hji : j = i
    · subst hji
      exact hy.wpOp hi (hW.trans g) fun w'' g'' => ⟨hW.trans (g.trans g''), wpK_later H (g.trans g'')⟩
    · have := ready_mono hj hji
      rw [(H w (.refl w)).1] at this
      cases this
  | succ f ih =>
    intro listed a w hfree hr hy hW H w' g
    refine ⟨fun h => (by rw [h] at hr; cases hr), fun j hj => ?_⟩
    by_cases hji : j = i
    · subst hji
      exact hy.wpOp hi (hW.trans g) fun w'' g'' => ⟨hW.trans (g.trans g''), wpK_later H (g.trans g'')⟩
    · have h1 := (H w' g).2 j (ready_mono hj hji)
      obtain ⟨hjun, oj, hoj, hall⟩ := mem_ready.1 hj
      have iun := (mem_ready.1 hr).1
      have hnot : ∀ e ∈ oj.after, Region.binds md e = true → e.on ≠ i := fun e he hb heq => by
        have h1 := hall e he hb
        rw [heq] at h1
        rcases Nat.lt_or_ge i listed.size with h' | h'
        · simp [h'] at iun h1; rw [iun] at h1; cases h1
        · simp [Array.getElem?_eq_none h'] at h1
      have hap := hfree j oj hoj hji hjun hnot
      obtain ⟨-, -, h3⟩ := Oper.apart_spec hap
      have h2 := wpOp_apart (R := YieldsG P ops W oi v) hoj hap (fun cs b => hsel j oj cs b hoj) hQ
        (fun b u hb => by
          unfold YieldsG Oper.quietAt at *
          rw [execOp_put oi (fun cs b => hsel i oi cs b hi) b oj.dst u h3, wanted_put oi b oj.dst u h3]
          exact hb) (fun b d hb => hb) hy h1
      refine wpOp_mono (fun a' w'' h4 => ?_) h2
      refine ⟨h4.2.1, ih (listed.setIfInBounds j true) a' w'' (fun k ok hk hki hun hno => ?_) (ready_mono hr (Ne.symm hji)) h4.1 h4.2.1 ?_⟩
      · refine hfree k ok hk hki ?_ hno
        by_cases hjk : j = k
        · subst hjk; exact hjun
        · rw [getD_set_ne true hjk] at hun; exact hun
      · rw [Array.setIfInBounds_comm _ _ hji]
        exact h4.2.2

/-- The first operations, one by one: may each come up, and is each that may come ahead of it apart from it? -/
def preB (md : Region.Mode) (ops : Array Oper) : Nat → Nat → Array Bool → Bool
  | 0, _, _ => true
  | f + 1, k, listed => (Region.ready md ops listed).contains k && Region.free md ops listed k && preB md ops f (k + 1) (listed.setIfInBounds k true)
def preListed : Nat → Nat → Array Bool → Array Bool
  | 0, _, listed => listed
  | f + 1, k, listed => preListed f (k + 1) (listed.setIfInBounds k true)
/-- Each writes a temporary of its own. -/
def ownB (size : Nat) : List Oper → Bool
  | [] => true
  | o :: l => (match o.dst with | none => false | some d => decide (d < size) && l.all fun x => x.dst != some d) && ownB size l

/-- The worlds behind W, as the walks have them. -/
def behind (W : World) (w' : World) : Prop := ∃ u : After W, w' = u.w

theorem put_size (a : Act) (d : Option Tmp) (v : Value) : (a.put d v).tmps.size = a.tmps.size := by
  cases d <;> simp [Act.put]

theorem quiet_keeps {C : World → Prop} {fin : Act} {d : Nat} : ∀ (l : List Oper) (a : Act), (∀ x ∈ l, x.dst ≠ some d) → wpQuiet P ops C (fun a' => a' = fin) l a → fin.tmps[d]? = a.tmps[d]?
  | [], a, _, h => by have h : a = fin := h; rw [h]
  | o :: l, a, hd, h => by
    have key : ∀ v, (a.put o.dst v).tmps[d]? = a.tmps[d]? := fun v => by
      have hne := hd o (by simp)
      cases e : o.dst with
      | none => rfl
      | some k =>
        have : k ≠ d := fun h => hne (by rw [e, h])
        simp [Act.put, this]
    unfold wpQuiet at h
    split at h
    · obtain ⟨v, _, h2⟩ := h
      rw [quiet_keeps l _ (fun x hx => hd x (by simp [hx])) h2, key]
    · rw [quiet_keeps l _ (fun x hx => hd x (by simp [hx])) h, key]

theorem quietAt_grows {o : Oper} {a : Act} {w : World} {v : Value} (h : o.quietAt P a (behind w) w v) : o.quietAt P a (Grows w) w v := by
  unfold Oper.quietAt at *
  generalize (execOp a.eval o).run P w = r at *
  cases r with
  | halt x w' => exact h
  | ok n w' =>
    cases n <;> simp only [Oper.quietUpon] at h ⊢
    case value u => exact h
    case skip => exact h
    case enter f args => exact ⟨h.1, h.2.mono fun e w'' ⟨he, u, hu⟩ => ⟨he, by rw [hu]; exact u.below⟩⟩

theorem wpK_lex (hs : Region.noSelect ops = true) (hQ : ∀ c a (d : Tmp) v w, Q (.panic c) (Act.put a (some d) v) w → Q (.panic c) a w) {fin : Act} {f : Nat} :
    ∀ (l : List Oper) (k : Nat) (listed : Array Bool) (a : Act) (w : World), (∀ j, j < l.length → l[j]? = ops[k + j]?) → preB md ops l.length k listed = true → ownB a.tmps.size l = true → Grows W w →
    (∀ w', Grows W w' → wpQuiet P ops (behind w') (fun a' => a' = fin) l a) → wpK P md ops Q W f (preListed l.length k listed) fin w → wpK P md ops Q W (f + l.length) listed a w
  | [], k, listed, a, w, _, _, _, _, hq, h => by
    have e : a = fin := hq w ‹_›
    rw [e]; exact h
  | o :: l, k, listed, a, w, hl, hB, hO, hW, hq, h => by
    have h0 : ops[k]? = some o := by simpa using (hl 0 (by simp)).symm
    simp only [List.length_cons, preB, Bool.and_eq_true] at hB
    obtain ⟨⟨hr, hf⟩, hB'⟩ := hB
    simp only [ownB, Bool.and_eq_true] at hO
    obtain ⟨hO1, hO2⟩ := hO
    cases hd : o.dst with
    | none => rw [hd] at hO1; cases hO1
    | some d =>
      simp only [hd, Bool.and_eq_true, decide_eq_true_eq] at hO1
      obtain ⟨hlt, hno⟩ := hO1
      have hno' : ∀ x ∈ l, x.dst ≠ some d := fun x hx => by simpa using List.all_eq_true.1 hno x hx
      have hit : ∀ v, (a.put o.dst v).tmps[d]? = some v := fun v => by rw [hd]; simp [Act.put, hlt]
      have step : ∃ v, YieldsG P ops W o v a ∧ ∀ w', Grows W w' → wpQuiet P ops (behind w') (fun a' => a' = fin) l (a.put o.dst v) := by
        by_cases want : Region.wanted o (yielded ops a.tmps) = true
        · have hq2 : ∀ w', Grows W w' → o.quiet P a (behind w') (wpQuiet P ops (behind w') (fun a' => a' = fin) l) := fun w' g => by
            have := hq w' g
            unfold wpQuiet at this
            rwa [if_pos want] at this
          obtain ⟨v, _, hv2⟩ := hq2 w hW
          have ev := (quiet_keeps l _ hno' hv2).trans (hit v)
          have same : ∀ w', Grows W w' → (∀ u, behind w' u → o.quietAt P a (behind w') u v) ∧ wpQuiet P ops (behind w') (fun a' => a' = fin) l (a.put o.dst v) := fun w' g => by
            obtain ⟨v', hv1', hv2'⟩ := hq2 w' g
            have ev' := (quiet_keeps l _ hno' hv2').trans (hit v')
            have : v' = v := Option.some.inj (ev'.symm.trans ev)
            subst this
            exact ⟨hv1', hv2'⟩
          exact ⟨v, .inl ⟨want, fun w' g => quietAt_grows ((same w' g).1 w' ⟨⟨w', Below.refl _ _⟩, rfl⟩)⟩, fun w' g => (same w' g).2⟩
        · refine ⟨undef, .inr ⟨by simpa using want, rfl⟩, fun w' g => ?_⟩
          have := hq w' g
          unfold wpQuiet at this
          rwa [if_neg want] at this
      obtain ⟨v, hy, hq3⟩ := step
      have more := wpK_lex hs hQ (fin := fin) (f := f) l (k + 1) (listed.setIfInBounds k true) (a.put o.dst v) w (fun j hj => by have := hl (j + 1) (by simp; omega); simpa [Nat.add_assoc, Nat.add_comm 1 j] using this)
        hB' (by rw [put_size]; exact hO2) hW hq3 h
      exact wpK_first h0 (Region.noSelect_spec hs) (fun c a w h => hQ c a d v w (by rw [hd] at h; exact h)) (f + l.length) listed a w (Region.free_spec h0 hf) (by simpa using hr) hy hW more

/-- The reads and calls are walked in the order of the text; what is left over is asked of every world behind. -/
theorem wp_region_grow {id : Nat} {a : Act} {l : List Oper} (n : Nat) (hm : P.follows .mixedOrders = true) (hn : n ≤ l.length)
    (hB : (Region.noSelect l.toArray && preB .any l.toArray n 0 (Array.replicate l.length false)) = true) (hO : ownB a.tmps.size (l.take n) = true)
    (hQ : ∀ c a (d : Tmp) v w, Q (.panic c) (Act.put a (some d) v) w → Q (.panic c) a w)
    (h : ∃ fin, (∀ w', Grows W w' → wpQuiet P l.toArray (fun w'' => ∃ u : After w', w'' = u.w) (fun a' => a' = fin) (l.take n) a) ∧
      ∀ w', Grows W w' → wpK P .any l.toArray Q W (l.length - n) (preListed n 0 (Array.replicate l.length false)) fin w') : (Code.region id l.toArray true).wp P Q a W := by
  obtain ⟨fin, hq, ht⟩ := h
  simp only [Bool.and_eq_true] at hB
  have g0 : Grows W { W with drawn := W.drawn + 1 } := ⟨rfl, rfl, rfl, Nat.le_refl _, fun _ _ => rfl⟩
  have len : (l.take n).length = n := by simp; omega
  refine wp_region_any hm (wpAny_of_wpK (W := W) _ _ _ _ ?_)
  have := wpK_lex (md := .any) (Q := Q) (f := l.length - n) hB.1 hQ (l.take n) 0 (Array.replicate l.length false) a _ (fun j hj => by
    rw [len] at hj
    simp [hj]) (by rw [len]; exact hB.2) hO g0 hq (by rw [len]; exact ht _ g0)
  rw [len, show l.length - n + n = l.toArray.size by simp; omega] at this
  simpa using this

/-- One operation alone may come up. -/
theorem wpK_one {f i : Nat} {o : Oper} {listed : Array Bool} {a : Act} {w : World} (hr : Region.ready md ops listed = [i]) (ho : ops[i]? = some o) (hg : o.guard = none)
    (h : ∀ w', Grows w w' → ∀ K : Act → World → Prop, (∀ a' w'', Grows W w'' → wpK P md ops Q W f (listed.setIfInBounds i true) a' w'' → K a' w'') → o.wp P a w' K Q) :
    wpK P md ops Q W (f + 1) listed a w := fun w' g => by
  refine ⟨fun e => (by rw [hr] at e; cases e), fun j hj => ?_⟩
  rw [hr] at hj
  have hji : j = i := by simpa using hj
  subst hji
  unfold wpOp
  have want : Region.wanted o (yielded ops a.tmps) = true := by simp [Region.wanted, hg]
  simp only [ho, want, if_true]
  exact .inl (h w' g _ fun a' w'' g'' k => ⟨g'', k⟩)

/-- Either of two operations may come up. -/
theorem wpK_two {f i k : Nat} {o p : Oper} {listed : Array Bool} {a : Act} {w : World} (hr : Region.ready md ops listed = [i, k]) (ho : ops[i]? = some o) (hp : ops[k]? = some p) (hg : o.guard = none) (hgp : p.guard = none)
    (h : ∀ w', Grows w w' → ∀ K : Act → World → Prop, (∀ a' w'', Grows W w'' → wpK P md ops Q W f (listed.setIfInBounds i true) a' w'' → K a' w'') → o.wp P a w' K Q)
    (h2 : ∀ w', Grows w w' → ∀ K : Act → World → Prop, (∀ a' w'', Grows W w'' → wpK P md ops Q W f (listed.setIfInBounds k true) a' w'' → K a' w'') → p.wp P a w' K Q) :
    wpK P md ops Q W (f + 1) listed a w := fun w' g => by
  refine ⟨fun e => (by rw [hr] at e; cases e), fun j hj => ?_⟩
  rw [hr] at hj
  have want : Region.wanted o (yielded ops a.tmps) = true := by simp [Region.wanted, hg]
  have want2 : Region.wanted p (yielded ops a.tmps) = true := by simp [Region.wanted, hgp]
  rcases (by simpa using hj : j = i ∨ j = k) with rfl | rfl
  · unfold wpOp
    simp only [ho, want, if_true]
    exact .inl (h w' g _ fun a' w'' g'' k => ⟨g'', k⟩)
  · unfold wpOp
    simp only [hp, want2, if_true]
    exact .inl (h2 w' g _ fun a' w'' g'' k => ⟨g'', k⟩)

/-- None may come up any more. -/
theorem wpK_end {f : Nat} {listed : Array Bool} {a : Act} {w : World} (hr : Region.ready md ops listed = []) (h : ∀ w', Grows w w' → Q .normal a w') : wpK P md ops Q W f listed a w := by
  cases f with
  | zero => exact fun w' g => ⟨hr, h w' g⟩
  | succ f => exact fun w' g => ⟨fun _ => h w' g, fun i hi => by rw [hr] at hi; cases hi⟩

/-- Block b holds these cells, each of which may be written. -/
def Holds (w : World) (b : Nat) (c : Array Value) (T : TypeId) : Prop := w.heap[b]? = some (.cells c T (0, 0))
theorem Holds.cell {w : World} {b : Nat} {c : Array Value} {T : TypeId} (h : Holds w b c T) (q : Nat) : w.cell? ⟨b, q, none⟩ = c[q]? := by
  unfold Holds at h; simp [World.cell?, h]
theorem Holds.free {w : World} {b : Nat} {c : Array Value} {T : TypeId} (h : Holds w b c T) (q : Nat) : w.frozen? ⟨b, q, none⟩ = false := by
  unfold Holds at h; simp [World.frozen?, h]
theorem Holds.lt {w : World} {b : Nat} {c : Array Value} {T : TypeId} (h : Holds w b c T) : b < w.heap.size := by
  unfold Holds at h
  exact (Array.getElem?_eq_some_iff.1 h).1
theorem Holds.later {w w' : World} {b : Nat} {c : Array Value} {T : TypeId} (h : Holds w b c T) (g : Below w.heap.size w w') : Holds w' b c T := by
  unfold Holds at *
  rw [g.block b (Holds.lt h)]; exact h
theorem Holds.new (w : World) (c : Array Value) (T : TypeId) : Holds (w.alloc (.cells c T)) w.heap.size c T := by
  show (w.heap.push _)[w.heap.size]? = _
  simp
theorem Holds.set {w : World} {b q : Nat} {c : Array Value} {T : TypeId} (h : Holds w b c T) (v : Value) : Holds (w.setCell ⟨b, q, none⟩ v) b (c.setIfInBounds q v) T := by
  unfold Holds at *
  show (w.heap.modify b _)[b]? = _
  rw [Array.getElem?_modify, if_pos rfl, h]
  rfl
theorem Holds.other {w : World} {b k q : Nat} {c : Array Value} {T : TypeId} (h : Holds w b c T) (hk : k ≠ b) (v : Value) : Holds (w.setCell ⟨k, q, none⟩ v) b c T := by
  unfold Holds at *
  rw [Below.heap_setCell _ _ _ _ (by simpa using fun e => hk e.symm)]
  exact h

/-- A new box, laid by the one operation that may come up. -/
theorem wpK_box1 {f i : Nat} {o : Oper} {d : Tmp} {c : Array Value} {T : TypeId} {listed : Array Bool} {a : Act} {w : World} (hr : Region.ready md ops listed = [i]) (ho : ops[i]? = some o) (hg : o.guard = none) (hd : o.dst = some d)
    (hz : ∀ w, (execOp a.eval o).run P w = .ok (.value (.pointer (some ⟨w.heap.size, 0, none⟩))) (w.alloc (.cells c T))) (hW : Grows W w)
    (h : ∀ (B : Nat) (w' : World), Grows w w' → w.heap.size ≤ B → Holds w' B c T → wpK P md ops Q W f (listed.setIfInBounds i true) (a.put (some d) (.pointer (some ⟨B, 0, none⟩))) w') :
    wpK P md ops Q W (f + 1) listed a w := by
  refine wpK_one hr ho hg fun w' g K hK => ?_
  unfold Oper.wp
  rw [hz w']
  simp only [Oper.upon]
  have g2 : Grows w' (w'.alloc (.cells c T)) := (Below.refl _ _).alloc (Nat.le_refl _) _
  rw [hd]
  exact hK _ _ ((hW.trans g).trans g2) (h _ _ (g.trans g2) g.size (Holds.new _ _ _))

/-- Two new boxes, laid in either order. -/
theorem wpK_box2 {f i k : Nat} {o p : Oper} {d e : Tmp} {c c2 : Array Value} {T T2 : TypeId} {listed : Array Bool} {a : Act} {w : World} (hr : Region.ready md ops listed = [i, k]) (hri : Region.ready md ops (listed.setIfInBounds i true) = [k])
    (hrk : Region.ready md ops (listed.setIfInBounds k true) = [i]) (hik : i ≠ k) (ho : ops[i]? = some o) (hp : ops[k]? = some p) (hg : o.guard = none) (hgp : p.guard = none) (hd : o.dst = some d) (he : p.dst = some e) (hde : d ≠ e)
    (hz : ∀ a w, (execOp (Act.eval a) o).run P w = .ok (.value (.pointer (some ⟨w.heap.size, 0, none⟩))) (w.alloc (.cells c T)))
    (hzp : ∀ a w, (execOp (Act.eval a) p).run P w = .ok (.value (.pointer (some ⟨w.heap.size, 0, none⟩))) (w.alloc (.cells c2 T2))) (hW : Grows W w)
    (h : ∀ (B C : Nat) (w' : World), Grows w w' → w.heap.size ≤ B → w.heap.size ≤ C → B ≠ C → Holds w' B c T → Holds w' C c2 T2 →
      wpK P md ops Q W f ((listed.setIfInBounds i true).setIfInBounds k true) ((a.put (some d) (.pointer (some ⟨B, 0, none⟩))).put (some e) (.pointer (some ⟨C, 0, none⟩))) w') :
    wpK P md ops Q W (f + 2) listed a w := by
  have gr : ∀ (w : World) (x : Obj), Grows w (w.alloc x) := fun w x => (Below.refl _ _).alloc (Nat.le_refl _) _
  refine wpK_two (f := f + 1) hr ho hp hg hgp (fun w1 g1 K hK => ?_) (fun w1 g1 K hK => ?_)
  · unfold Oper.wp
    rw [hz a w1]
    simp only [Oper.upon]
    have n1 := Holds.new w1 c T
    rw [hd]
    refine hK _ _ ((hW.trans g1).trans (gr _ _)) (wpK_one hri hp hgp fun w2 g2 K hK => ?_)
    unfold Oper.wp
    rw [hzp _ w2]
    simp only [Oper.upon]
    rw [he]
    have s1 := g1.size
    have n2 := n1.later g2
    refine hK _ _ (((hW.trans g1).trans (gr _ _)).trans (g2.trans (gr _ _))) (h _ _ _ ((g1.trans (gr _ _)).trans (g2.trans (gr _ _))) s1 ?_ ?_ (n2.later (gr _ _)) (Holds.new _ _ _))
    · have := n2.lt; omega
    · have := n2.lt; omega
  · unfold Oper.wp
    rw [hzp a w1]
    simp only [Oper.upon]
    have n1 := Holds.new w1 c2 T2
    rw [he]
    refine hK _ _ ((hW.trans g1).trans (gr _ _)) (wpK_one hrk ho hg fun w2 g2 K hK => ?_)
    unfold Oper.wp
    rw [hz _ w2]
    simp only [Oper.upon]
    rw [hd]
    have s1 := g1.size
    have n2 := n1.later g2
    refine hK _ _ (((hW.trans g1).trans (gr _ _)).trans (g2.trans (gr _ _))) ?_
    rw [Array.setIfInBounds_comm _ _ (Ne.symm hik), Act.put_comm _ _ _ (fun x hx => by cases hx; intro h; exact hde (Option.some.inj h))]
    refine h _ _ _ ((g1.trans (gr _ _)).trans (g2.trans (gr _ _))) ?_ s1 ?_ (Holds.new _ _ _) (n2.later (gr _ _))
    · have := n2.lt; omega
    · have := n2.lt; omega

end
end Go.Proofs.YtimjmmiajgfblaaGreatDoor.Bg
