/- A region that leaves its order open, whose first operations read and call what makes memory of its own; the last ones wait for all of these, come in one order, and may write what was there. -/
import Derived.Test.YtimjmmiajgfblaaGreatDoorGad
import Derived.StillTail

namespace Go.Proofs.YtimjmmiajgfblaaGreatDoor
open Go.RowKit

section
variable {P : Program} {ops : Array Oper} {md : Region.Mode} {Q : Exit → Act → World → Prop} {W : World} {n g : Nat}

/-- Whatever order is picked, down to the last operations. -/
def wpL (P : Program) (md : Region.Mode) (ops : Array Oper) (Q : Exit → Act → World → Prop) (W : World) (n g : Nat) : Nat → Array Bool → Act → World → Prop
  | 0, listed, a, w => (∀ j ∈ Region.ready md ops listed, n ≤ j) ∧ ∀ w', Grows w w' → wpAny P md ops Q g listed a w'
  | f + 1, listed, a, w => ∀ w', Grows w w' → Region.ready md ops listed ≠ [] ∧
      ∀ i ∈ Region.ready md ops listed, i < n ∧ wpOp P ops Q i (fun a' w'' => Grows W w'' ∧ wpL P md ops Q W n g f (listed.setIfInBounds i true) a' w'') a w'

theorem wpL_later {f : Nat} {listed : Array Bool} {a : Act} {w w' : World} (h : wpL P md ops Q W n g f listed a w) (k : Grows w w') : wpL P md ops Q W n g f listed a w' := by
  cases f with
  | zero => exact ⟨h.1, fun w2 g2 => h.2 w2 (k.trans g2)⟩
  | succ f => exact fun w2 g2 => h w2 (k.trans g2)

theorem wpAny_of_wpL : ∀ (f : Nat) (listed : Array Bool) (a : Act) (w : World), wpL P md ops Q W n g f listed a w → wpAny P md ops Q (f + g) listed a w
  | 0, listed, a, w, h => by rw [Nat.zero_add]; exact h.2 w (.refl w)
  | f + 1, _, _, w, h => by
    rw [show f + 1 + g = (f + g) + 1 by omega]
    exact ⟨fun e => absurd e (h w (.refl w)).1, fun i hi => wpOp_mono (fun a' w' h' => wpAny_of_wpL f _ a' w' h'.2) ((h w (.refl w)).2 i hi).2⟩

/-- Whatever order is picked, for f steps none of the last operations may come up. -/
def reachB (md : Region.Mode) (ops : Array Oper) (n : Nat) : Nat → Array Bool → Bool
  | 0, _ => true
  | f + 1, listed => (Region.ready md ops listed).all fun j => decide (j < n) && reachB md ops n f (listed.setIfInBounds j true)
theorem reachB_ready {f : Nat} {listed : Array Bool} (h : reachB md ops n (f + 1) listed = true) {j : Nat} (hj : j ∈ Region.ready md ops listed) : j < n ∧ reachB md ops n f (listed.setIfInBounds j true) = true := by
  have := List.all_eq_true.1 h j hj
  simp only [Bool.and_eq_true, decide_eq_true_eq] at this
  exact this

theorem wpL_first {i : Nat} {oi : Oper} {v : Value} (hi : ops[i]? = some oi) (hsel : ∀ (j : Nat) (o : Oper) cs b, ops[j]? = some o → o.op ≠ .select cs b)
    (hQ : ∀ c a w, Q (.panic c) (a.put oi.dst v) w → Q (.panic c) a w) (hit : i < n) :
    ∀ (f : Nat) (listed : Array Bool) (a : Act) (w : World), reachB md ops n (f + 1) listed = true →
      (∀ j oj, ops[j]? = some oj → j ≠ i → listed.getD j true = false → (∀ e ∈ oj.after, Region.binds md e = true → e.on ≠ i) → oi.apart ops oj = true) →
      i ∈ Region.ready md ops listed → YieldsG P ops W oi v a → Grows W w →
      wpL P md ops Q W n g f (listed.setIfInBounds i true) (a.put oi.dst v) w → wpL P md ops Q W n g (f + 1) listed a w := by
  have away : ∀ (listed : Array Bool) (j : Nat) (oj : Oper), i ∈ Region.ready md ops listed → ops[j]? = some oj → (∀ e ∈ oj.after, Region.binds md e = true → listed.getD e.on false = true) → ∀ e ∈ oj.after, Region.binds md e = true → e.on ≠ i := by
    intro listed j oj hr _ hall e he hb heq
    have iun := (mem_ready.1 hr).1
    have h1 := hall e he hb
    rw [heq] at h1
    rcases Nat.lt_or_ge i listed.size with h' | h'
    · simp [h'] at iun h1; rw [iun] at h1; cases h1
    · simp [Array.getElem?_eq_none h'] at h1
  intro f
  induction f with
  | zero =>
    intro listed a w hre _ hr hy hW H w' k
    refine ⟨fun h => (by rw [h] at hr; cases hr), fun j hj => ?_⟩
    by_cases hji : j = i
    · subst hji
      exact ⟨hit, hy.wpOp hi (hW.trans k) fun w'' g'' => ⟨hW.trans (k.trans g''), wpL_later H (k.trans g'')⟩⟩
    · have h1 := H.1 j (ready_mono hj hji)
      have h2 := (reachB_ready hre hj).1
      omega
  | succ f ih =>
    intro listed a w hre hfree hr hy hW H w' k
    refine ⟨fun h => (by rw [h] at hr; cases hr), fun j hj => ?_⟩
    by_cases hji : j = i
    · subst hji
      exact ⟨hit, hy.wpOp hi (hW.trans k) fun w'' g'' => ⟨hW.trans (k.trans g''), wpL_later H (k.trans g'')⟩⟩
    · have h1 := ((H w' k).2 j (ready_mono hj hji)).2
      obtain ⟨hjun, oj, hoj, hall⟩ := mem_ready.1 hj
      have hap := hfree j oj hoj hji hjun (away listed j oj hr hoj hall)
      obtain ⟨-, -, h3⟩ := Oper.apart_spec hap
      have h2 := wpOp_apart (R := YieldsG P ops W oi v) hoj hap (fun cs b => hsel j oj cs b hoj) hQ
        (fun b u hb => by
          unfold YieldsG Oper.quietAt at *
          rw [execOp_put oi (fun cs b => hsel i oi cs b hi) b oj.dst u h3, wanted_put oi b oj.dst u h3]
          exact hb) (fun b d hb => hb) hy h1
      refine ⟨(reachB_ready hre hj).1, wpOp_mono (fun a' w'' h4 => ?_) h2⟩
      refine ⟨h4.2.1, ih (listed.setIfInBounds j true) a' w'' (reachB_ready hre hj).2 (fun k ok hk hki hun hno => ?_) (ready_mono hr (Ne.symm hji)) h4.1 h4.2.1 ?_⟩
      · refine hfree k ok hk hki ?_ hno
        by_cases hjk : j = k
        · subst hjk; exact hjun
        · rw [getD_set_ne true hjk] at hun; exact hun
      · rw [Array.setIfInBounds_comm _ _ hji]
        exact h4.2.2

theorem wpL_lex (hs : Region.noSelect ops = true) (hQ : ∀ c a (d : Tmp) v w, Q (.panic c) (Act.put a (some d) v) w → Q (.panic c) a w) {fin : Act} {f : Nat} :
    ∀ (l : List Oper) (k : Nat) (listed : Array Bool) (a : Act) (w : World), k + l.length ≤ n → reachB md ops n (f + l.length) listed = true → (∀ j, j < l.length → l[j]? = ops[k + j]?) → preB md ops l.length k listed = true → ownB a.tmps.size l = true → Grows W w →
    (∀ w', Grows W w' → wpQuiet P ops (behind w') (fun a' => a' = fin) l a) → wpL P md ops Q W n g f (preListed l.length k listed) fin w → wpL P md ops Q W n g (f + l.length) listed a w
  | [], k, listed, a, w, _, _, _, _, _, hW, hq, h => by
    have e : a = fin := hq w hW
    rw [e]; exact h
  | o :: l, k, listed, a, w, hkt, hre, hl, hB, hO, hW, hq, h => by
    have h0 : ops[k]? = some o := by simpa using (hl 0 (by simp)).symm
    simp only [List.length_cons, preB, Bool.and_eq_true] at hB
    obtain ⟨⟨hr, hf⟩, hB'⟩ := hB
    simp only [ownB, Bool.and_eq_true] at hO
    obtain ⟨hO1, hO2⟩ := hO
    simp only [List.length_cons] at hkt
    have hre' : reachB md ops n (f + l.length + 1) listed = true := hre
    cases hd : o.dst with
    | none => rw [hd] at hO1; cases hO1
    | some d =>
      simp only [hd, Bool.and_eq_true, decide_eq_true_eq] at hO1
      obtain ⟨hlt, hno⟩ := hO1
      have hno' : ∀ x ∈ l, x.dst ≠ some d := fun x hx => by simpa using List.all_eq_true.1 hno x hx
      have hit : ∀ v, (a.put o.dst v).tmps[d]? = some v := fun v => by rw [hd]; simp [Act.put, hlt]
      have step : ∃ v, YieldsG P ops W o v a ∧ ∀ w', Grows W w' → wpQuiet P ops (behind w') (fun a' => a' = fin) l (a.put o.dst v) := by
        by_cases want : Region.wanted o (yielded ops a.tmps) = true
        · have hq2 : ∀ w', Grows W w' → o.quiet P a (behind w') (wpQuiet P ops (behind w') (fun a' => a' = fin) l) := fun w' g => by
            have := hq w' g
            unfold wpQuiet at this
            rwa [if_pos want] at this
          obtain ⟨v, _, hv2⟩ := hq2 w hW
          have ev := (quiet_keeps l _ hno' hv2).trans (hit v)
          have same : ∀ w', Grows W w' → (∀ u, behind w' u → o.quietAt P a (behind w') u v) ∧ wpQuiet P ops (behind w') (fun a' => a' = fin) l (a.put o.dst v) := fun w' g => by
            obtain ⟨v', hv1', hv2'⟩ := hq2 w' g
            have ev' := (quiet_keeps l _ hno' hv2').trans (hit v')
            have : v' = v := Option.some.inj (ev'.symm.trans ev)
            subst this
            exact ⟨hv1', hv2'⟩
          exact ⟨v, .inl ⟨want, fun w' g => quietAt_grows ((same w' g).1 w' ⟨⟨w', Below.refl _ _⟩, rfl⟩)⟩, fun w' g => (same w' g).2⟩
        · refine ⟨undef, .inr ⟨by simpa using want, rfl⟩, fun w' g => ?_⟩
          have := hq w' g
          unfold wpQuiet at this
          rwa [if_neg want] at this
      obtain ⟨v, hy, hq3⟩ := step
      have more := wpL_lex hs hQ (fin := fin) (f := f) l (k + 1) (listed.setIfInBounds k true) (a.put o.dst v) w (by omega) (reachB_ready hre' (by simpa using hr)).2
        (fun j hj => by have := hl (j + 1) (by simp; omega); simpa [Nat.add_assoc, Nat.add_comm 1 j] using this) hB' (by rw [put_size]; exact hO2) hW hq3 h
      exact wpL_first h0 (Region.noSelect_spec hs) (fun c a w h => hQ c a d v w (by rw [hd] at h; exact h)) (by omega) (f + l.length) listed a w hre' (Region.free_spec h0 hf) (by simpa using hr) hy hW more

/-- The reads and calls are walked in the order of the text, then the last operations, in every world behind. -/
theorem wp_region_last {id : Nat} {a : Act} {l : List Oper} (n : Nat) (hm : P.follows .mixedOrders = true) (hn : n ≤ l.length)
    (hB : (Region.noSelect l.toArray && preB .any l.toArray n 0 (Array.replicate l.length false) && reachB .any l.toArray n (0 + n) (Array.replicate l.length false)) = true) (hO : ownB a.tmps.size (l.take n) = true)
    (hr : (Region.ready .any l.toArray (preListed n 0 (Array.replicate l.length false))).all (fun j => decide (n ≤ j)) = true) (hseq : Region.seqB .any l.toArray (l.drop n).length n (preListed n 0 (Array.replicate l.length false)) = true)
    (hQ : ∀ c a (d : Tmp) v w, Q (.panic c) (Act.put a (some d) v) w → Q (.panic c) a w)
    (h : ∃ fin, (∀ w', Grows W w' → wpQuiet P l.toArray (fun w'' => ∃ u : After w', w'' = u.w) (fun a' => a' = fin) (l.take n) a) ∧
      ∀ w', Grows W w' → wpList P l.toArray Q (l.drop n) fin w') : (Code.region id l.toArray true).wp P Q a W := by
  obtain ⟨fin, hq, ht⟩ := h
  simp only [Bool.and_eq_true] at hB
  obtain ⟨⟨hB1, hB2⟩, hB3⟩ := hB
  have g0 : Grows W { W with drawn := W.drawn + 1 } := ⟨rfl, rfl, rfl, Nat.le_refl _, fun _ _ => rfl⟩
  have len : (l.take n).length = n := by simp; omega
  refine wp_region_any hm ?_
  have := wpL_lex (md := .any) (Q := Q) (n := n) (g := (l.drop n).length) (f := 0) hB1 hQ (l.take n) 0 (Array.replicate l.length false) a _ (by rw [len]; omega) (by rw [len]; exact hB3) (fun j hj => by
    rw [len] at hj
    simp [hj]) (by rw [len]; exact hB2) hO g0 hq (by
    rw [len]
    refine ⟨fun j hj => of_decide_eq_true (List.all_eq_true.1 hr j hj), fun w' k => ?_⟩
    exact wpAny_of_seq (md := .any) (Q' := Q) (l.drop n) n _ fin w' (fun j => by simp [List.getElem?_drop]) hseq (ht w' (g0.trans k)))
  have k := wpAny_of_wpL _ _ _ _ this
  rw [len, show 0 + n + (l.drop n).length = l.toArray.size by simp; omega] at k
  simpa using k

/-- The reads and calls are walked in the order of the text, then the last operations, in whatever order, in every world behind. -/
theorem wp_region_lastA {id : Nat} {a : Act} {l : List Oper} (n : Nat) (hm : P.follows .mixedOrders = true) (hn : n ≤ l.length)
    (hB : (Region.noSelect l.toArray && preB .any l.toArray n 0 (Array.replicate l.length false) && reachB .any l.toArray n (0 + n) (Array.replicate l.length false)) = true) (hO : ownB a.tmps.size (l.take n) = true)
    (hr : (Region.ready .any l.toArray (preListed n 0 (Array.replicate l.length false))).all (fun j => decide (n ≤ j)) = true)
    (hQ : ∀ c a (d : Tmp) v w, Q (.panic c) (Act.put a (some d) v) w → Q (.panic c) a w)
    (h : ∃ fin, (∀ w', Grows W w' → wpQuiet P l.toArray (fun w'' => ∃ u : After w', w'' = u.w) (fun a' => a' = fin) (l.take n) a) ∧
      ∀ w', Grows W w' → wpAny P .any l.toArray Q (l.drop n).length (preListed n 0 (Array.replicate l.length false)) fin w') : (Code.region id l.toArray true).wp P Q a W := by
  obtain ⟨fin, hq, ht⟩ := h
  simp only [Bool.and_eq_true] at hB
  obtain ⟨⟨hB1, hB2⟩, hB3⟩ := hB
  have g0 : Grows W { W with drawn := W.drawn + 1 } := ⟨rfl, rfl, rfl, Nat.le_refl _, fun _ _ => rfl⟩
  have len : (l.take n).length = n := by simp; omega
  refine wp_region_any hm ?_
  have := wpL_lex (md := .any) (Q := Q) (n := n) (g := (l.drop n).length) (f := 0) hB1 hQ (l.take n) 0 (Array.replicate l.length false) a _ (by rw [len]; omega) (by rw [len]; exact hB3) (fun j hj => by
    rw [len] at hj
    simp [hj]) (by rw [len]; exact hB2) hO g0 hq (by
    rw [len]
    refine ⟨fun j hj => of_decide_eq_true (List.all_eq_true.1 hr j hj), fun w' k => ?_⟩
    exact ht w' (g0.trans k))
  have k := wpAny_of_wpL _ _ _ _ this
  rw [len, show 0 + n + (l.drop n).length = l.toArray.size by simp; omega] at k
  simpa using k

end
end Go.Proofs.YtimjmmiajgfblaaGreatDoor

/- A region that leaves its order open, whose first operations read and call what makes memory of its own; the last ones wait for all of these, come in one order, and may write what was there. -/
namespace Go.Proofs.YtimjmmiajgfblaaGreatDoor.Bg
open Go.RowKit

section
variable {P : Program} {ops : Array Oper} {md : Region.Mode} {Q : Exit → Act → World → Prop} {W : World} {n g : Nat}

/-- Whatever order is picked, down to the last operations. -/
def wpL (P : Program) (md : Region.Mode) (ops : Array Oper) (Q : Exit → Act → World → Prop) (W : World) (n g : Nat) : Nat → Array Bool → Act → World → Prop
  | 0, listed, a, w => (∀ j ∈ Region.ready md ops listed, n ≤ j) ∧ ∀ w', Grows w w' → wpAny P md ops Q g listed a w'
  | f + 1, listed, a, w => ∀ w', Grows w w' → Region.ready md ops listed ≠ [] ∧
      ∀ i ∈ Region.ready md ops listed, i < n ∧ wpOp P ops Q i (fun a' w'' => Grows W w'' ∧ wpL P md ops Q W n g f (listed.setIfInBounds i true) a' w'') a w'

theorem wpL_later {f : Nat} {listed : Array Bool} {a : Act} {w w' : World} (h : wpL P md ops Q W n g f listed a w) (k : Grows w w') : wpL P md ops Q W n g f listed a w' := by
  cases f with
  | zero => exact ⟨h.1, fun w2 g2 => h.2 w2 (k.trans g2)⟩
  | succ f => exact fun w2 g2 => h w2 (k.trans g2)

theorem wpAny_of_wpL : ∀ (f : Nat) (listed : Array Bool) (a : Act) (w : World), wpL P md ops Q W n g f listed a w → wpAny P md ops Q (f + g) listed a w
  | 0, listed, a, w, h => by rw [Nat.zero_add]; exact h.2 w (.refl w)
  | f + 1, _, _, w, h => by
    rw [show f + 1 + g = (f + g) + 1 by omega]
    exact ⟨fun e => absurd e (h w (.refl w)).1, fun i hi => wpOp_mono (fun a' w' h' => wpAny_of_wpL f _ a' w' h'.2) ((h w (.refl w)).2 i hi).2⟩

theorem wpL_first {i : Nat} {oi : Oper} {v : Value} (hi : ops[i]? = some oi) (hwait : ∀ t last, n ≤ t → ops[t]? = some last → ∃ e ∈ last.after, Region.binds md e = true ∧ e.on = i) (hsel : ∀ (j : Nat) (o : Oper) cs b, ops[j]? = some o → o.op ≠ .select cs b)
    (hQ : ∀ c a w, Q (.panic c) (a.put oi.dst v) w → Q (.panic c) a w) (hit : i < n) :
    ∀ (f : Nat) (listed : Array Bool) (a : Act) (w : World),
      (∀ j oj, ops[j]? = some oj → j ≠ i → listed.getD j true = false → (∀ e ∈ oj.after, Region.binds md e = true → e.on ≠ i) → oi.apart ops oj = true) →
      i ∈ Region.ready md ops listed → YieldsG P ops W oi v a → Grows W w →
      wpL P md ops Q W n g f (listed.setIfInBounds i true) (a.put oi.dst v) w → wpL P md ops Q W n g (f + 1) listed a w := by
  have away : ∀ (listed : Array Bool) (j : Nat) (oj : Oper), i ∈ Region.ready md ops listed → ops[j]? = some oj → (∀ e ∈ oj.after, Region.binds md e = true → listed.getD e.on false = true) → ∀ e ∈ oj.after, Region.binds md e = true → e.on ≠ i := by
    intro listed j oj hr _ hall e he hb heq
    have iun := (mem_ready.1 hr).1
    have h1 := hall e he hb
    rw [heq] at h1
    rcases Nat.lt_or_ge i listed.size with h' | h'
    · simp [h'] at iun h1; rw [iun] at h1; cases h1
    · simp [Array.getElem?_eq_none h'] at h1
  have early : ∀ (listed : Array Bool) (j : Nat), i ∈ Region.ready md ops listed → j ∈ Region.ready md ops listed → j < n := by
    intro listed j hr hj
    rcases Nat.lt_or_ge j n with h | h
    · exact h
    · obtain ⟨_, oj, hoj, hall⟩ := mem_ready.1 hj
      obtain ⟨e, he, hb, hon⟩ := hwait j oj h hoj
      exact absurd hon (away listed j oj hr hoj hall e he hb)
  intro f
  induction f with
  | zero =>
    intro listed a w _ hr hy hW H w' k
    refine ⟨fun h => (by rw [h] at hr; cases hr), fun j hj => ?_⟩
    by_cases hji : j = i
    · subst hji
      exact ⟨hit, hy.wpOp hi (hW.trans k) fun w'' g'' => ⟨hW.trans (k.trans g''), wpL_later H (k.trans g'')⟩⟩
    · have h1 := H.1 j (ready_mono hj hji)
      have h2 := early listed j hr hj
      omega
  | succ f ih =>
    intro listed a w hfree hr hy hW H w' k
    refine ⟨fun h => (by rw [h] at hr; cases hr), fun j hj => ?_⟩
    by_cases hji : j = i
    · subst hji
      exact ⟨hit, hy.wpOp hi (hW.trans k) fun w'' g'' => ⟨hW.trans (k.trans g''), wpL_later H (k.trans g'')⟩⟩
    · have h1 := ((H w' k).2 j (ready_mono hj hji)).2
      obtain ⟨hjun, oj, hoj, hall⟩ := mem_ready.1 hj
      have hap := hfree j oj hoj hji hjun (away listed j oj hr hoj hall)
      obtain ⟨-, -, h3⟩ := Oper.apart_spec hap
      have h2 := wpOp_apart (R := YieldsG P ops W oi v) hoj hap (fun cs b => hsel j oj cs b hoj) hQ
        (fun b u hb => by
          unfold YieldsG Oper.quietAt at *
          rw [execOp_put oi (fun cs b => hsel i oi cs b hi) b oj.dst u h3, wanted_put oi b oj.dst u h3]
          exact hb) (fun b d hb => hb) hy h1
      refine ⟨early listed j hr hj, wpOp_mono (fun a' w'' h4 => ?_) h2⟩
      refine ⟨h4.2.1, ih (listed.setIfInBounds j true) a' w'' (fun k ok hk hki hun hno => ?_) (ready_mono hr (Ne.symm hji)) h4.1 h4.2.1 ?_⟩
      · refine hfree k ok hk hki ?_ hno
        by_cases hjk : j = k
        · subst hjk; exact hjun
        · rw [getD_set_ne true hjk] at hun; exact hun
      · rw [Array.setIfInBounds_comm _ _ hji]
        exact h4.2.2

/-- Does an operation wait for operation i? -/
def waitsB (md : Region.Mode) (last : Oper) (i : Nat) : Bool := last.after.any fun e => Region.binds md e && e.on == i
theorem waitsB_spec {last : Oper} {i : Nat} (h : waitsB md last i = true) : ∃ e ∈ last.after, Region.binds md e = true ∧ e.on = i := by
  obtain ⟨e, he, hb⟩ := Array.any_eq_true'.1 h
  simp only [Bool.and_eq_true, beq_iff_eq] at hb
  exact ⟨e, he, hb⟩

theorem wpL_lex (hs : Region.noSelect ops = true) (hQ : ∀ c a (d : Tmp) v w, Q (.panic c) (Act.put a (some d) v) w → Q (.panic c) a w) {fin : Act} {f : Nat} :
    ∀ (l : List Oper) (k : Nat) (listed : Array Bool) (a : Act) (w : World), k + l.length ≤ n → (∀ t last, n ≤ t → ops[t]? = some last → ∀ j, j < n → waitsB md last j = true) → (∀ j, j < l.length → l[j]? = ops[k + j]?) → preB md ops l.length k listed = true → ownB a.tmps.size l = true → Grows W w →
    (∀ w', Grows W w' → wpQuiet P ops (behind w') (fun a' => a' = fin) l a) → wpL P md ops Q W n g f (preListed l.length k listed) fin w → wpL P md ops Q W n g (f + l.length) listed a w
  | [], k, listed, a, w, _, _, _, _, _, hW, hq, h => by
    have e : a = fin := hq w hW
    rw [e]; exact h
  | o :: l, k, listed, a, w, hkt, hwt, hl, hB, hO, hW, hq, h => by
    have h0 : ops[k]? = some o := by simpa using (hl 0 (by simp)).symm
    simp only [List.length_cons, preB, Bool.and_eq_true] at hB
    obtain ⟨⟨hr, hf⟩, hB'⟩ := hB
    simp only [ownB, Bool.and_eq_true] at hO
    obtain ⟨hO1, hO2⟩ := hO
    simp only [List.length_cons] at hkt
    cases hd : o.dst with
    | none => rw [hd] at hO1; cases hO1
    | some d =>
      simp only [hd, Bool.and_eq_true, decide_eq_true_eq] at hO1
      obtain ⟨hlt, hno⟩ := hO1
      have hno' : ∀ x ∈ l, x.dst ≠ some d := fun x hx => by simpa using List.all_eq_true.1 hno x hx
      have hit : ∀ v, (a.put o.dst v).tmps[d]? = some v := fun v => by rw [hd]; simp [Act.put, hlt]
      have step : ∃ v, YieldsG P ops W o v a ∧ ∀ w', Grows W w' → wpQuiet P ops (behind w') (fun a' => a' = fin) l (a.put o.dst v) := by
        by_cases want : Region.wanted o (yielded ops a.tmps) = true
        · have hq2 : ∀ w', Grows W w' → o.quiet P a (behind w') (wpQuiet P ops (behind w') (fun a' => a' = fin) l) := fun w' g => by
            have := hq w' g
            unfold wpQuiet at this
            rwa [if_pos want] at this
          obtain ⟨v, _, hv2⟩ := hq2 w hW
          have ev := (quiet_keeps l _ hno' hv2).trans (hit v)
          have same : ∀ w', Grows W w' → (∀ u, behind w' u → o.quietAt P a (behind w') u v) ∧ wpQuiet P ops (behind w') (fun a' => a' = fin) l (a.put o.dst v) := fun w' g => by
            obtain ⟨v', hv1', hv2'⟩ := hq2 w' g
            have ev' := (quiet_keeps l _ hno' hv2').trans (hit v')
            have : v' = v := Option.some.inj (ev'.symm.trans ev)
            subst this
            exact ⟨hv1', hv2'⟩
          exact ⟨v, .inl ⟨want, fun w' g => quietAt_grows ((same w' g).1 w' ⟨⟨w', Below.refl _ _⟩, rfl⟩)⟩, fun w' g => (same w' g).2⟩
        · refine ⟨undef, .inr ⟨by simpa using want, rfl⟩, fun w' g => ?_⟩
          have := hq w' g
          unfold wpQuiet at this
          rwa [if_neg want] at this
      obtain ⟨v, hy, hq3⟩ := step
      have more := wpL_lex hs hQ (fin := fin) (f := f) l (k + 1) (listed.setIfInBounds k true) (a.put o.dst v) w (by omega) hwt
        (fun j hj => by have := hl (j + 1) (by simp; omega); simpa [Nat.add_assoc, Nat.add_comm 1 j] using this) hB' (by rw [put_size]; exact hO2) hW hq3 h
      exact wpL_first h0 (fun t last h1 h2 => waitsB_spec (hwt t last h1 h2 k (by omega))) (Region.noSelect_spec hs) (fun c a w h => hQ c a d v w (by rw [hd] at h; exact h)) (by omega) (f + l.length) listed a w (Region.free_spec h0 hf) (by simpa using hr) hy hW more

/-- The reads and calls are walked in the order of the text, then the last operations, in every world behind. -/
theorem wp_region_last {id : Nat} {a : Act} {l : List Oper} (n : Nat) (hm : P.follows .mixedOrders = true) (hn : n ≤ l.length)
    (hB : (Region.noSelect l.toArray && preB .any l.toArray n 0 (Array.replicate l.length false) && (l.drop n).all fun last => (List.range n).all (waitsB .any last)) = true) (hO : ownB a.tmps.size (l.take n) = true)
    (hr : (Region.ready .any l.toArray (preListed n 0 (Array.replicate l.length false))).all (fun j => decide (n ≤ j)) = true) (hseq : Region.seqB .any l.toArray (l.drop n).length n (preListed n 0 (Array.replicate l.length false)) = true)
    (hQ : ∀ c a (d : Tmp) v w, Q (.panic c) (Act.put a (some d) v) w → Q (.panic c) a w)
    (h : ∃ fin, (∀ w', Grows W w' → wpQuiet P l.toArray (fun w'' => ∃ u : After w', w'' = u.w) (fun a' => a' = fin) (l.take n) a) ∧
      ∀ w', Grows W w' → wpList P l.toArray Q (l.drop n) fin w') : (Code.region id l.toArray true).wp P Q a W := by
  obtain ⟨fin, hq, ht⟩ := h
  simp only [Bool.and_eq_true] at hB
  obtain ⟨⟨hB1, hB2⟩, hB3⟩ := hB
  have g0 : Grows W { W with drawn := W.drawn + 1 } := ⟨rfl, rfl, rfl, Nat.le_refl _, fun _ _ => rfl⟩
  have len : (l.take n).length = n := by simp; omega
  refine wp_region_any hm ?_
  have := wpL_lex (md := .any) (Q := Q) (n := n) (g := (l.drop n).length) (f := 0) hB1 hQ (l.take n) 0 (Array.replicate l.length false) a _ (by rw [len]; omega) (fun t last h1 h2 j hj => by
    have h3 : (l.drop n)[t - n]? = some last := by rw [List.getElem?_drop, show n + (t - n) = t by omega]; simpa using h2
    exact List.all_eq_true.1 (List.all_eq_true.1 hB3 last (List.mem_of_getElem? h3)) j (List.mem_range.2 hj)) (fun j hj => by
    rw [len] at hj
    simp [hj]) (by rw [len]; exact hB2) hO g0 hq (by
    rw [len]
    refine ⟨fun j hj => of_decide_eq_true (List.all_eq_true.1 hr j hj), fun w' k => ?_⟩
    exact wpAny_of_seq (md := .any) (Q' := Q) (l.drop n) n _ fin w' (fun j => by simp [List.getElem?_drop]) hseq (ht w' (g0.trans k)))
  have k := wpAny_of_wpL _ _ _ _ this
  rw [len, show 0 + n + (l.drop n).length = l.toArray.size by simp; omega] at k
  simpa using k

end
end Go.Proofs.YtimjmmiajgfblaaGreatDoor.Bg
