/- A range over a function whose iterator makes memory of its own between two rounds and tells it: what is told of that memory (Fr: as it lies when it is told; Rd: what the round leaves of it) stands in the iterator's contract; the caller's law with it. No condition on the program. -/
import Derived.RangeFuncNested
import Derived.RangeFuncBound
import Derived.RangeFuncCalls
import Derived.RangeFuncLeaves
namespace Go.Proofs.YtdenibigefchpaaDoor
open Go.RowKit

def SeqTells {α : Type} (F : Fence) (n : Nat) (P : Program) (g : Nat) (lb : Array Value) (encs : α → Array Value) (Tn : World → World → Prop) (Fr : α → World → World → Prop) (Rd : α → World → Prop) (S Sp : List α → Prop) (w : World) : Prop :=
  ∀ (l : Nat) (J Jx : List α → World → Prop) (W : World), Below w.heap.size w W → AbidesFrom W.heap.size J → AbidesFrom W.heap.size Jx →
    (∀ pre x W0 W1, J pre W0 → Tn W0 W1 → Fr x W0 W1 → Sp (pre ++ [x]) → YieldAt F (n - 1) P l (encs x) W1 fun e W' => (e = .returned (.bool true) ∧ J (pre ++ [x]) W' ∧ Rd x W') ∨ (e = .returned (.bool false) ∧ Jx (pre ++ [x]) W')) →
    J [] W → CallsIn F n P g (#[.func (.yield l) #[] #[]] ++ lb) W fun e W' => (∃ v, e = .returned v) ∧ ((∃ xs, S xs ∧ J xs W') ∨ (∃ pre, Sp pre ∧ Jx pre W'))

variable {F : Fence} {n : Nat} {P : Program} {w : World}

theorem range_tells {α : Type} {g : Operand} {ps : Array Tmp} {assign body : Code} {Q : Exit → Act → World → Prop} {a : Act}
    (hro : F.round = none) (h1 : 1 ≤ n) {gf : Nat} {lb : Array Value} (hg : a.eval g = .func (.func gf) #[] lb) (hFg : F.fn gf) (eg : ∀ args w, (callFunc gf args).run P w = .ok (.enter gf args) w)
    {encs : α → Array Value} {Tn : World → World → Prop} {Fr : α → World → World → Prop} {Rd : α → World → Prop} {S Sp : List α → Prop} (hseq : SeqTells F (n - 1) P gf lb encs Tn Fr Rd S Sp w)
    (hTn : ∀ A B, Tn A B → KeepsOthers A B)
    (hRd : OwnFrom w.heap.size Rd) (hps : ∀ x, (encs x).size = ps.size)
    (I : List α → World → Prop) (Ix : Code → List α → World → Prop) (hI : OwnFrom w.heap.size I) (hIx : ∀ c, OwnFrom w.heap.size (Ix c)) (I1 : List α → α → World → Prop) (hI1 : ∀ x, OwnFrom w.heap.size fun pre => I1 pre x) (hin : ∀ pre x A B, I pre A → Tn A B → Fr x A B → I1 pre x B) (h0 : I [] w) (a₁ : α → Act)
    (hassign : ∀ (l : Nat) (x : α) (W : World) (K : Act → World → Prop), K (a₁ x) W →
      assign.wpIn (F.inRound l) (n - 1 - 1) P (Exit.then K (fun _ _ _ => False)) { tmps := (ps.zip (encs x)).foldl (fun t (p, v) => t.setIfInBounds p v) a.tmps, defers := [] } W)
    (hbody : ∀ (l : Nat) (pre : List α) (x : α) (W : World), I1 pre x W → Sp (pre ++ [x]) → body.wpIn (F.inRound l) (n - 1 - 1) P (ownPostG w.heap.size (fun _ W' => Rd x W') I Ix (pre ++ [x]) W) (a₁ x) W)
    (hdone : ∀ (D : Nat) (xs : List α) (W : World), w.heap.size ≤ D → S xs → I xs W → W.heap[D]? = some (.deferred (some [])) → Q .normal { a with defers := { target := .collected D, args := #[] } :: a.defers } W)
    (hstop : ∀ (D : Nat) (c : Code) (pre : List α) (W : World), w.heap.size ≤ D → Sp pre → Ix c pre W → W.heap[D]? = some (.deferred (some [])) → c.wpIn F n P Q { a with defers := { target := .collected D, args := #[] } :: a.defers } W) :
    (Code.rangeFunc g ps assign body).wpIn F n P Q a w := by
  refine wpIn_rangeFunc fun fn hfn => ?_
  rw [hro]
  obtain ⟨D, hD⟩ : ∃ D, D = w.heap.size := ⟨_, rfl⟩
  obtain ⟨R, hR⟩ : ∃ R : LoopState → Option Code → Obj, R = fun st pe => .loop { state := st, pending := pe, fn, tmps := a.tmps, params := ps, assign, body, defers := D } := ⟨_, rfl⟩
  obtain ⟨V, hV⟩ : ∃ V, V = (w.alloc (.deferred (some []))).alloc (R .ready none) := ⟨_, rfl⟩
  have sz : V.heap.size = D + 2 := by rw [hV, hD]; simp
  have bel : Below w.heap.size w V := by rw [hV]; exact ((Below.refl _ w).alloc (Nat.le_refl _) _).alloc (by simp) _
  -- the books: the record in a state, and the block of the rounds' deferred calls
  obtain ⟨Bk, hBk⟩ : ∃ Bk : LoopState → Option Code → World → Prop, Bk = fun st pe W => W.heap[D + 1]? = some (R st pe) ∧ W.heap[D]? = some (.deferred (some [])) := ⟨_, rfl⟩
  have bk0 : Bk .ready none V := by
    rw [hBk, hV, hD]
    refine ⟨?_, (Below.heap_alloc _ _ _ (by simp)).trans (World.alloc_heap_new w _)⟩
    have := World.alloc_heap_new (w.alloc (.deferred (some []))) (R .ready none)
    rwa [World.size_alloc] at this
  have bkF : ∀ st pe A B, KeepsFrom D A B → Bk st pe A → Bk st pe B := fun st pe A B hk h => by
    rw [hBk] at h ⊢
    exact ⟨hk.same _ _ (by omega) h.1 (by rw [hR]; rfl), hk.same _ _ (Nat.le_refl _) h.2 rfl⟩
  have bkW : ∀ st pe (A B : World) (row : Option Nat), A.grownBy B row → (∀ r, row = some r → V.heap.size ≤ r ∧ ∃ o : Obj, A.heap[r]? = some o ∧ o.isWalk = true) → Bk st pe A → Bk st pe B := fun st pe A B row hg hr h => by
    rw [hBk] at h ⊢
    exact ⟨(grownBy_keeps hg (fun r e => (hr r e).2) h.1 (by rw [hR]; rfl)).trans h.1, (grownBy_keeps hg (fun r e => (hr r e).2) h.2 rfl).trans h.2⟩
  have bkP : ∀ st pe st' pe' (A : World), Bk st pe A → Bk st' pe' (A.putObj (D + 1) (R st' pe')) := fun st pe st' pe' A h => by
    rw [hBk] at h ⊢
    exact ⟨World.putObj_heap_same (Array.getElem?_eq_some_iff.1 h.1).1, (World.putObj_heap_other (by omega)).trans h.2⟩
  have ownW : ∀ {β : Type} (I' : β → World → Prop), OwnFrom D I' → ∀ s st pe st' pe' (A : World), Bk st pe A → I' s A → I' s (A.putObj (D + 1) (R st' pe')) := fun I' hI' s st pe st' pe' A hb hi => by
    rw [hBk] at hb
    exact hI'.putObj _ hi (by omega) hb.1 (by rw [hR]; rfl)
  have rows : ∀ {A : World} {row : Option Nat}, (∀ r, row = some r → V.heap.size ≤ r ∧ ∃ o : Obj, A.heap[r]? = some o ∧ o.isWalk = true) → (∀ r, row = some r → D ≤ r ∧ ∃ o : Obj, A.heap[r]? = some o ∧ o.isCells = false) := fun hr r e => by
    obtain ⟨h, o, ho, hw⟩ := hr r e
    exact ⟨by omega, o, ho, Obj.not_cells_of_walk hw⟩
  rw [← hD] at hI hIx hRd hI1 hbody hdone hstop
  refine ⟨D + 1, [{ target := .collected D, args := #[] }], V, { target := .fn (.func gf) lb, args := #[.func (.yield (D + 1)) #[] #[]] }, V, gf, #[.func (.yield (D + 1)) #[] #[]] ++ lb, V, ?_, ?_, ?_, ?_, fun _ => h1, ?_⟩
  · rw [hV, hR, hD]; exact run_enterLoop_outer _ _ _ _ _
  · simp only [resolve, hg]
    simp [go_sem]
  · intro f' hf'
    simp [Target.leads] at hf'
    subst hf'
    exact hFg
  · simp [invoke, go_sem, eg]
  refine (hseq (D + 1) (fun pre W => I pre W ∧ Bk .ready none W) (fun pre W => ∃ c, Ix c pre W ∧ Bk .done (some c) W) V bel
    (fun s A B row hs hg' hr => ⟨hI s A B row hs.1 hg' (rows hr), bkW _ _ A B row hg' hr hs.2⟩)
    (fun s A B row hs hg' hr => hs.elim fun c hc => ⟨c, hIx c s A B row hc.1 hg' (rows hr), bkW _ _ A B row hg' hr hc.2⟩) ?_ ⟨by rw [hV]; exact hI.alloc _ (hI.alloc _ h0), bk0⟩).mono ?_
  · rintro pre x W0 W ⟨hi0, hb0⟩ ht hf hlen
    have hb := bkF _ _ _ _ ((hTn _ _ ht).from D) hb0
    have hi := hin _ _ _ _ hi0 ht hf
    have hl : W.heap[D + 1]? = some (.loop { state := .ready, pending := none, fn, tmps := a.tmps, params := ps, assign, body, defers := D }) := by rw [hBk, hR] at hb; exact hb.1
    refine ⟨fn, _, assign, body, run_yield hl (hps x), roundIn_of_wpIn hfn (hassign _ x W _ ⟨W.putObj (D + 1) (R .busy none), by rw [hR]; exact run_beginRound hl rfl, ?_⟩)⟩
    have hb2 := bkP _ _ .busy none W hb
    refine wpIn_mono (hbody _ pre x _ (ownW (fun pre => I1 pre x) (hI1 x) pre _ _ _ _ W hb hi) hlen) ?_
    have fin : ∀ (jump : Option Code) (W3 : World), KeepsFrom D (W.putObj (D + 1) (R .busy none)) W3 →
        (Instr.endRound (D + 1) jump).run P W3 = .ok (.bool jump.isNone) (W3.putObj (D + 1) (R (if jump.isNone then .ready else .done) jump)) ∧ Bk .busy none W3 := fun jump W3 hk => by
      have hb3 := bkF _ _ _ _ hk hb2
      refine ⟨?_, hb3⟩
      rw [hBk, hR] at hb3
      rw [hR]
      exact run_endRound jump hb3.1
    rintro e a3 W3 hp
    cases e with
    | normal =>
      obtain ⟨hk3, hkp3, hi3⟩ := hp
      obtain ⟨hr, hb3⟩ := fin none W3 hk3
      exact ⟨_, _, hr, .inl ⟨rfl, ⟨ownW I hI _ _ _ _ _ W3 hb3 hi3, bkP _ _ _ _ W3 hb3⟩, ownW Rd hRd _ _ _ _ _ W3 hb3 hkp3⟩⟩
    | ret =>
      obtain ⟨hk3, hi3⟩ := hp
      obtain ⟨hr, hb3⟩ := fin (some .ret) W3 hk3
      exact ⟨_, _, hr, .inr ⟨rfl, _, ownW (Ix _) (hIx _) _ _ _ _ _ W3 hb3 hi3, bkP _ _ _ _ W3 hb3⟩⟩
    | exit id =>
      obtain ⟨hk3, hi3⟩ := hp
      obtain ⟨hr, hb3⟩ := fin (some (.exit id)) W3 hk3
      exact ⟨_, _, hr, .inr ⟨rfl, _, ownW (Ix _) (hIx _) _ _ _ _ _ W3 hb3 hi3, bkP _ _ _ _ W3 hb3⟩⟩
    | goto t =>
      obtain ⟨hk3, hi3⟩ := hp
      obtain ⟨hr, hb3⟩ := fin (some (.goto t)) W3 hk3
      exact ⟨_, _, hr, .inr ⟨rfl, _, ownW (Ix _) (hIx _) _ _ _ _ _ W3 hb3 hi3, bkP _ _ _ _ W3 hb3⟩⟩
    | panic ch => exact hp.elim
    | outgrown => exact hp.elim
  · have ends : ∀ st pe (W : World), st ≠ .busy → Bk st pe W → (Instr.endLoop (D + 1)).run P W = .ok pe (W.putObj (D + 1) (R .exhausted pe)) := fun st pe W hst hb => by
      rw [hBk, hR] at hb
      rw [hR]
      exact run_endLoop hb.1 hst
    have dd : ∀ st pe (W : World), Bk st pe W → (W.putObj (D + 1) (R .exhausted pe)).heap[D]? = some (.deferred (some [])) := fun st pe W hb => by
      rw [hBk] at hb
      exact (World.putObj_heap_other (by omega)).trans hb.2
    rintro e W2 ⟨⟨v, rfl⟩, (⟨xs, hS, hi, hb⟩ | ⟨pre, hSp, c, hi, hb⟩)⟩
    · exact ⟨none, _, ends _ _ W2 (by simp) hb, hdone _ xs _ (Nat.le_refl _) hS (ownW I hI _ _ _ _ _ W2 hb hi) (dd _ _ W2 hb)⟩
    · exact ⟨some c, _, ends _ _ W2 (by simp) hb, hstop _ c pre _ (Nat.le_refl _) hSp (ownW (Ix c) (hIx c) _ _ _ _ _ W2 hb hi) (dd _ _ W2 hb)⟩

end Go.Proofs.YtdenibigefchpaaDoor
