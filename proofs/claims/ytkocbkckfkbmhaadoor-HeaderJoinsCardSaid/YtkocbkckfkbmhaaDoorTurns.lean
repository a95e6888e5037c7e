/- A range over a function whose iterator turns a box of its own between two rounds ('b = b[n+1:]' in a captured variable): the iterator's contract asks of the caller's word that it abides such turns (Tn); the caller's law with it. No condition on the program. -/
import Derived.RangeFuncNested
import Derived.RangeFuncBound
import Derived.RangeFuncCalls
import Derived.RangeFuncLeaves
namespace Go.Proofs.YtkocbkckfkbmhaaDoor
open Go.RowKit

def SeqTurns {α : Type} (F : Fence) (n : Nat) (P : Program) (g : Nat) (lb : Array Value) (encs : α → Array Value) (Tn Kp : World → World → Prop) (S Sp : List α → Prop) (w : World) : Prop :=
  ∀ (l : Nat) (J Jx : List α → World → Prop) (W : World), Below w.heap.size w W → AbidesFrom W.heap.size J → AbidesFrom W.heap.size Jx → (∀ s A B, J s A → Tn A B → J s B) →
    (∀ pre x W1, J pre W1 → Sp (pre ++ [x]) → YieldAt F (n - 1) P l (encs x) W1 fun e W' => (e = .returned (.bool true) ∧ J (pre ++ [x]) W' ∧ Kp W1 W') ∨ (e = .returned (.bool false) ∧ Jx (pre ++ [x]) W')) →
    J [] W → CallsIn F n P g (#[.func (.yield l) #[] #[]] ++ lb) W fun e W' => (∃ v, e = .returned v) ∧ ((∃ xs, S xs ∧ J xs W') ∨ (∃ pre, Sp pre ∧ Jx pre W'))

variable {F : Fence} {n : Nat} {P : Program} {w : World}

theorem range_turns {α : Type} {g : Operand} {ps : Array Tmp} {assign body : Code} {Q : Exit → Act → World → Prop} {a : Act}
    (hro : F.round = none) (h1 : 1 ≤ n) {gf : Nat} {lb : Array Value} (hg : a.eval g = .func (.func gf) #[] lb) (hFg : F.fn gf) (eg : ∀ args w, (callFunc gf args).run P w = .ok (.enter gf args) w)
    {encs : α → Array Value} {Tn Kp : World → World → Prop} {S Sp : List α → Prop} (hseq : SeqTurns F (n - 1) P gf lb encs Tn Kp S Sp w)
    (hTn : ∀ A B, Tn A B → KeepsOthers A B)
    (hKt : ∀ {A B C : World}, Kp A B → Kp B C → Kp A C) (hKb : ∀ (W : World) (l : Nat) (o o' : Obj), w.heap.size ≤ l → W.heap[l]? = some o → o.isCells = false → o.isWalk = false → Kp W (W.putObj l o')) (hps : ∀ x, (encs x).size = ps.size)
    (I : List α → World → Prop) (Ix : Code → List α → World → Prop) (hI : OwnFrom w.heap.size I) (hIx : ∀ c, OwnFrom w.heap.size (Ix c)) (hIT : ∀ s A B, I s A → Tn A B → I s B) (h0 : I [] w) (a₁ : α → Act)
    (hassign : ∀ (l : Nat) (x : α) (W : World) (K : Act → World → Prop), K (a₁ x) W →
      assign.wpIn (F.inRound l) (n - 1 - 1) P (Exit.then K (fun _ _ _ => False)) { tmps := (ps.zip (encs x)).foldl (fun t (p, v) => t.setIfInBounds p v) a.tmps, defers := [] } W)
    (hbody : ∀ (l : Nat) (pre : List α) (x : α) (W : World), I pre W → Sp (pre ++ [x]) → body.wpIn (F.inRound l) (n - 1 - 1) P (ownPostG w.heap.size Kp I Ix (pre ++ [x]) W) (a₁ x) W)
    (hdone : ∀ (D : Nat) (xs : List α) (W : World), w.heap.size ≤ D → S xs → I xs W → W.heap[D]? = some (.deferred (some [])) → Q .normal { a with defers := { target := .collected D, args := #[] } :: a.defers } W)
    (hstop : ∀ (D : Nat) (c : Code) (pre : List α) (W : World), w.heap.size ≤ D → Sp pre → Ix c pre W → W.heap[D]? = some (.deferred (some [])) → c.wpIn F n P Q { a with defers := { target := .collected D, args := #[] } :: a.defers } W) :
    (Code.rangeFunc g ps assign body).wpIn F n P Q a w := by
  refine wpIn_rangeFunc fun fn hfn => ?_
  rw [hro]
  obtain ⟨D, hD⟩ : ∃ D, D = w.heap.size := ⟨_, rfl⟩
  obtain ⟨R, hR⟩ : ∃ R : LoopState → Option Code → Obj, R = fun st pe => .loop { state := st, pending := pe, fn, tmps := a.tmps, params := ps, assign, body, defers := D } := ⟨_, rfl⟩
  obtain ⟨V, hV⟩ : ∃ V, V = (w.alloc (.deferred (some []))).alloc (R .ready none) := ⟨_, rfl⟩
  have sz : V.heap.size = D + 2 := by rw [hV, hD]; simp
  have bel : Below w.heap.size w V := by rw [hV]; exact ((Below.refl _ w).alloc (Nat.le_refl _) _).alloc (by simp) _
  -- the books: the record in a state, and the block of the rounds' deferred calls
  obtain ⟨Bk, hBk⟩ : ∃ Bk : LoopState → Option Code → World → Prop, Bk = fun st pe W => W.heap[D + 1]? = some (R st pe) ∧ W.heap[D]? = some (.deferred (some [])) := ⟨_, rfl⟩
  have bk0 : Bk .ready none V := by
    rw [hBk, hV, hD]
    refine ⟨?_, (Below.heap_alloc _ _ _ (by simp)).trans (World.alloc_heap_new w _)⟩
    have := World.alloc_heap_new (w.alloc (.deferred (some []))) (R .ready none)
    rwa [World.size_alloc] at this
  have bkF : ∀ st pe A B, KeepsFrom D A B → Bk st pe A → Bk st pe B := fun st pe A B hk h => by
    rw [hBk] at h ⊢
    exact ⟨hk.same _ _ (by omega) h.1 (by rw [hR]; rfl), hk.same _ _ (Nat.le_refl _) h.2 rfl⟩
  have bkW : ∀ st pe (A B : World) (row : Option Nat), A.grownBy B row → (∀ r, row = some r → V.heap.size ≤ r ∧ ∃ o : Obj, A.heap[r]? = some o ∧ o.isWalk = true) → Bk st pe A → Bk st pe B := fun st pe A B row hg hr h => by
    rw [hBk] at h ⊢
    exact ⟨(grownBy_keeps hg (fun r e => (hr r e).2) h.1 (by rw [hR]; rfl)).trans h.1, (grownBy_keeps hg (fun r e => (hr r e).2) h.2 rfl).trans h.2⟩
  have bkP : ∀ st pe st' pe' (A : World), Bk st pe A → Bk st' pe' (A.putObj (D + 1) (R st' pe')) := fun st pe st' pe' A h => by
    rw [hBk] at h ⊢
    exact ⟨World.putObj_heap_same (Array.getElem?_eq_some_iff.1 h.1).1, (World.putObj_heap_other (by omega)).trans h.2⟩
  have ownW : ∀ {β : Type} (I' : β → World → Prop), OwnFrom D I' → ∀ s st pe st' pe' (A : World), Bk st pe A → I' s A → I' s (A.putObj (D + 1) (R st' pe')) := fun I' hI' s st pe st' pe' A hb hi => by
    rw [hBk] at hb
    exact hI'.putObj _ hi (by omega) hb.1 (by rw [hR]; rfl)
  have rows : ∀ {A : World} {row : Option Nat}, (∀ r, row = some r → V.heap.size ≤ r ∧ ∃ o : Obj, A.heap[r]? = some o ∧ o.isWalk = true) → (∀ r, row = some r → D ≤ r ∧ ∃ o : Obj, A.heap[r]? = some o ∧ o.isCells = false) := fun hr r e => by
    obtain ⟨h, o, ho, hw⟩ := hr r e
    exact ⟨by omega, o, ho, Obj.not_cells_of_walk hw⟩
  rw [← hD] at hI hIx hKb hbody hdone hstop
  refine ⟨D + 1, [{ target := .collected D, args := #[] }], V, { target := .fn (.func gf) lb, args := #[.func (.yield (D + 1)) #[] #[]] }, V, gf, #[.func (.yield (D + 1)) #[] #[]] ++ lb, V, ?_, ?_, ?_, ?_, fun _ => h1, ?_⟩
  · rw [hV, hR, hD]; exact run_enterLoop_outer _ _ _ _ _
  · simp only [resolve, hg]
    simp [go_sem]
  · intro f' hf'
    simp [Target.leads] at hf'
    subst hf'
    exact hFg
  · simp [invoke, go_sem, eg]
  refine (hseq (D + 1) (fun pre W => I pre W ∧ Bk .ready none W) (fun pre W => ∃ c, Ix c pre W ∧ Bk .done (some c) W) V bel
    (fun s A B row hs hg' hr => ⟨hI s A B row hs.1 hg' (rows hr), bkW _ _ A B row hg' hr hs.2⟩)
    (fun s A B row hs hg' hr => hs.elim fun c hc => ⟨c, hIx c s A B row hc.1 hg' (rows hr), bkW _ _ A B row hg' hr hc.2⟩)
    (fun s A B hs ht => ⟨hIT s A B hs.1 ht, bkF _ _ A B ((hTn A B ht).from D) hs.2⟩) ?_ ⟨by rw [hV]; exact hI.alloc _ (hI.alloc _ h0), bk0⟩).mono ?_
  · rintro pre x W ⟨hi, hb⟩ hlen
    have hl : W.heap[D + 1]? = some (.loop { state := .ready, pending := none, fn, tmps := a.tmps, params := ps, assign, body, defers := D }) := by rw [hBk, hR] at hb; exact hb.1
    refine ⟨fn, _, assign, body, run_yield hl (hps x), roundIn_of_wpIn hfn (hassign _ x W _ ⟨W.putObj (D + 1) (R .busy none), by rw [hR]; exact run_beginRound hl rfl, ?_⟩)⟩
    have hb2 := bkP _ _ .busy none W hb
    have hk2 : Kp W (W.putObj (D + 1) (R .busy none)) := hKb _ _ _ _ (by omega) hl rfl rfl
    refine wpIn_mono (hbody _ pre x _ (ownW I hI pre _ _ _ _ W hb hi) hlen) ?_
    have fin : ∀ (jump : Option Code) (W3 : World), KeepsFrom D (W.putObj (D + 1) (R .busy none)) W3 →
        (Instr.endRound (D + 1) jump).run P W3 = .ok (.bool jump.isNone) (W3.putObj (D + 1) (R (if jump.isNone then .ready else .done) jump)) ∧ Bk .busy none W3 := fun jump W3 hk => by
      have hb3 := bkF _ _ _ _ hk hb2
      refine ⟨?_, hb3⟩
      rw [hBk, hR] at hb3
      rw [hR]
      exact run_endRound jump hb3.1
    have hlO : ∀ W3, Bk .busy none W3 → W3.heap[D + 1]? = some (R .busy none) := fun W3 h => by rw [hBk] at h; exact h.1
    have hRc : ∀ st pe, (R st pe).isCells = false ∧ (R st pe).isWalk = false := fun st pe => by rw [hR]; exact ⟨rfl, rfl⟩
    rintro e a3 W3 hp
    cases e with
    | normal =>
      obtain ⟨hk3, hkp3, hi3⟩ := hp
      obtain ⟨hr, hb3⟩ := fin none W3 hk3
      exact ⟨_, _, hr, .inl ⟨rfl, ⟨ownW I hI _ _ _ _ _ W3 hb3 hi3, bkP _ _ _ _ W3 hb3⟩, hKt (hKt hk2 hkp3) (hKb _ _ _ _ (by omega) (hlO W3 hb3) (hRc _ _).1 (hRc _ _).2)⟩⟩
    | ret =>
      obtain ⟨hk3, hi3⟩ := hp
      obtain ⟨hr, hb3⟩ := fin (some .ret) W3 hk3
      exact ⟨_, _, hr, .inr ⟨rfl, _, ownW (Ix _) (hIx _) _ _ _ _ _ W3 hb3 hi3, bkP _ _ _ _ W3 hb3⟩⟩
    | exit id =>
      obtain ⟨hk3, hi3⟩ := hp
      obtain ⟨hr, hb3⟩ := fin (some (.exit id)) W3 hk3
      exact ⟨_, _, hr, .inr ⟨rfl, _, ownW (Ix _) (hIx _) _ _ _ _ _ W3 hb3 hi3, bkP _ _ _ _ W3 hb3⟩⟩
    | goto t =>
      obtain ⟨hk3, hi3⟩ := hp
      obtain ⟨hr, hb3⟩ := fin (some (.goto t)) W3 hk3
      exact ⟨_, _, hr, .inr ⟨rfl, _, ownW (Ix _) (hIx _) _ _ _ _ _ W3 hb3 hi3, bkP _ _ _ _ W3 hb3⟩⟩
    | panic ch => exact hp.elim
    | outgrown => exact hp.elim
  · have ends : ∀ st pe (W : World), st ≠ .busy → Bk st pe W → (Instr.endLoop (D + 1)).run P W = .ok pe (W.putObj (D + 1) (R .exhausted pe)) := fun st pe W hst hb => by
      rw [hBk, hR] at hb
      rw [hR]
      exact run_endLoop hb.1 hst
    have dd : ∀ st pe (W : World), Bk st pe W → (W.putObj (D + 1) (R .exhausted pe)).heap[D]? = some (.deferred (some [])) := fun st pe W hb => by
      rw [hBk] at hb
      exact (World.putObj_heap_other (by omega)).trans hb.2
    rintro e W2 ⟨⟨v, rfl⟩, (⟨xs, hS, hi, hb⟩ | ⟨pre, hSp, c, hi, hb⟩)⟩
    · exact ⟨none, _, ends _ _ W2 (by simp) hb, hdone _ xs _ (Nat.le_refl _) hS (ownW I hI _ _ _ _ _ W2 hb hi) (dd _ _ W2 hb)⟩
    · exact ⟨some c, _, ends _ _ W2 (by simp) hb, hstop _ c pre _ (Nat.le_refl _) hSp (ownW (Ix c) (hIx c) _ _ _ _ _ W2 hb hi) (dd _ _ W2 hb)⟩

end Go.Proofs.YtkocbkckfkbmhaaDoor
