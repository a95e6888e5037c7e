/- What TxBack looks at, over lists; and regions of which three operations may come up. No condition. -/
import Derived.Test.YtbdjcbdnhaddoaaDoorPlain
namespace Go.Proofs.YtbdjcbdnhaddoaaDoor
open Go.RowKit

theorem get_some {L : List Nat} (h : getE L = 0) : txP L = some (getT L, []) := by
  unfold getE at h
  unfold getT
  split at h
  · cases h
  · rename_i h1
    rw [if_neg h1]
    split at h
    · rename_i t e
      split at h
      · rename_i h2
        rw [if_pos h2]
        exact e
      · cases h
    · cases h
theorem get_weigh {L : List Nat} (h : getE L = 0) (hb : AllB L) : weigh (getT L) ≤ L.length := txP_weigh (get_some h) hb
theorem get_le {L : List Nat} (h : getE L = 0) : L.length ≤ 16384 := by
  unfold getE at h
  split at h
  · cases h
  · omega
theorem getE_cases (L : List Nat) : getE L = 0 ∨ getE L = 5 ∨ getE L = 6 := by
  unfold getE
  split
  · exact .inr (.inr rfl)
  · split
    · split
      · exact .inl rfl
      · exact .inr (.inl rfl)
    · exact .inr (.inl rfl)
theorem idS_plain (t : TxD) : idS (plain t) = idS t := by unfold idS; rw [bare_plain]
theorem weigh_plain (t : TxD) : weigh (plain t) ≤ weigh t := by
  unfold weigh plain
  rw [List.map_map]
  have : ∀ l : List InD, (l.map ((fun i : InD => 41 + i.s.length + (i.w.map fun x => 1 + x.length).sum) ∘ fun i => withW i [])).sum ≤ (l.map fun i => 41 + i.s.length + (i.w.map fun x => 1 + x.length).sum).sum := by
    intro l
    induction l with
    | nil => simp
    | cons x l ih =>
      simp only [List.map_cons, List.sum_cons, Function.comp, withW] at ih ⊢
      simp only [List.map_nil, List.sum_nil] at ih ⊢
      omega
  have := this t.ins
  simp only at this ⊢
  omega
theorem bare_same {t u : TxD} (h : t.Ok) (f : t.Fit) (k : u.Ok) (g : u.Fit) : decide (bareS t = bareS u) = decide (plain t = plain u) := by
  rw [decide_eq_decide]
  constructor
  · exact bare_inj h f k g
  · intro e
    rw [← bare_plain t, e, bare_plain u]
theorem fit_len {t : TxD} {L : List Nat} (h : L = putS t) : L.length = (putS t).length := by rw [h]
/-- Two transactions without Witness, in boxes. -/
structure TwoP (t u : TxD) (w8 wx : World) (g1 g2 : Nat) (Pi : Option Addr) (pi pc : Nat) (Po : Option Addr) (po pd : Nat) (Qi : Option Addr) (qi qc : Nat) (Qo : Option Addr) (qo qd : Nat) : Prop where
  p : Ro wx g1 26 (txV t.ver Pi pi pc Po po pd t.lock)
  q : Ro wx g2 26 (txV u.ver Qi qi qc Qo qo qd u.lock)
  tp : TxR wx (plain t) Pi pi pc Po po pd
  tq : TxR wx (plain u) Qi qi qc Qo qo qd
  bel : Below w8.heap.size w8 wx
theorem txg_lo {w : World} {t : TxD} {Ai : Option Addr} {ni ci : Nat} {Ao : Option Addr} {no co : Nat} (h : TxR w t Ai ni ci Ao no co) : TxG w (fun b => b < w.heap.size) t Ai ni ci Ao no co := ⟨h.ver, h.lock, h.i1, h.i2, h.ins.weak inR_mono fun _ _ hb => hb, h.o1, h.o2, h.outs.weak outR_mono fun _ _ hb => hb⟩
section
variable {P : Program} {ops : Array Oper} {Q : Exit → Act → World → Prop} {W : World} {md : Region.Mode}
theorem wpK_three {f i k j : Nat} {o p r : Oper} {listed : Array Bool} {a : Act} {w : World} (hr : Region.ready md ops listed = [i, k, j]) (ho : ops[i]? = some o) (hp : ops[k]? = some p) (hq : ops[j]? = some r) (hg : o.guard = none) (hgp : p.guard = none) (hgr : r.guard = none)
    (h : ∀ w', Grows w w' → ∀ K : Act → World → Prop, (∀ a' w'', Grows W w'' → wpK P md ops Q W f (listed.setIfInBounds i true) a' w'' → K a' w'') → o.wp P a w' K Q)
    (h2 : ∀ w', Grows w w' → ∀ K : Act → World → Prop, (∀ a' w'', Grows W w'' → wpK P md ops Q W f (listed.setIfInBounds k true) a' w'' → K a' w'') → p.wp P a w' K Q)
    (h3 : ∀ w', Grows w w' → ∀ K : Act → World → Prop, (∀ a' w'', Grows W w'' → wpK P md ops Q W f (listed.setIfInBounds j true) a' w'' → K a' w'') → r.wp P a w' K Q) :
    wpK P md ops Q W (f + 1) listed a w := fun w' g => by
  refine ⟨fun e => (by rw [hr] at e; cases e), fun z hz => ?_⟩
  rw [hr] at hz
  have want : Region.wanted o (yielded ops a.tmps) = true := by simp [Region.wanted, hg]
  have want2 : Region.wanted p (yielded ops a.tmps) = true := by simp [Region.wanted, hgp]
  have want3 : Region.wanted r (yielded ops a.tmps) = true := by simp [Region.wanted, hgr]
  rcases (by simpa using hz : z = i ∨ z = k ∨ z = j) with rfl | rfl | rfl
  · unfold wpOp
    simp only [ho, want, if_true]
    exact .inl (h w' g _ fun a' w'' g'' k => ⟨g'', k⟩)
  · unfold wpOp
    simp only [hp, want2, if_true]
    exact .inl (h2 w' g _ fun a' w'' g'' k => ⟨g'', k⟩)
  · unfold wpOp
    simp only [hq, want3, if_true]
    exact .inl (h3 w' g _ fun a' w'' g'' k => ⟨g'', k⟩)
end
end Go.Proofs.YtbdjcbdnhaddoaaDoor
