/- What merkle.Branch keeps between two rows. No condition. -/
import Derived.Test.YtdenibigefchpaaDoorRootI
import Derived.Test.YtdenibigefchpaaDoorInR
namespace Go.Proofs.YtdenibigefchpaaDoor
open Go.RowKit

theorem matesOf_len : ∀ (p : List (List (List Nat))) (k : Nat), (matesOf p k).length ≤ p.length
  | [], _ => Nat.le_refl _
  | r :: t, k => by
    rw [matesOf, List.length_append, List.length_cons]
    have := matesOf_len t (k / 2)
    split
    · simp; omega
    · simp; omega
theorem rows_at (J : List Nat → List Nat → List Nat) : ∀ (p : List (List (List Nat))) (l : List (List Nat)) (x : List (List Nat)) (r : List (List (List Nat))) (k : Nat), p ++ (x :: r) = rowsOf J l → k < l.length → k / 2 ^ p.length < x.length
  | [], l, x, r, k, h, hk => by
    by_cases h1 : 1 < l.length
    · rw [rows_up J h1] at h
      injection h with h2 h3
      subst h2
      simpa using hk
    · rw [rows_one J (by omega)] at h
      injection h with h2 h3
      subst h2
      simpa using hk
  | y :: p, l, x, r, k, h, hk => by
    by_cases h1 : 1 < l.length
    · rw [rows_up J h1] at h
      injection h with h2 h3
      have := rows_at J p (up J l) x r (k / 2) h3 (by rw [up_len]; omega)
      rw [Nat.div_div_eq_div_mul] at this
      rw [List.length_cons, Nat.pow_succ, Nat.mul_comm]
      exact this
    · rw [rows_one J (by omega)] at h
      injection h with h2 h3
      cases p <;> cases h3
theorem Gs.same {W W' : World} {A : Option Addr} {n : Nat} {l : List (List Nat)} (h : Gs W A n l) (hs : W.heap.size ≤ W'.heap.size) (hb : ∀ a, A = some a → W'.heap[a.block]? = W.heap[a.block]?) : Gs W' A n l :=
  ⟨h.len, h.ok, fun hn => by
    obtain ⟨b, o, e, hlt, hc⟩ := h.cel hn
    refine ⟨b, o, e, Nat.lt_of_lt_of_le hlt hs, fun j v hj => ?_⟩
    have h1 := hc j v hj
    rw [← h1]
    have h2 := hb _ e
    unfold World.cell?
    simp only at h2 ⊢
    rw [h2]⟩
theorem OwnG.keep {w W W' : World} {v : Value} {n : Nat} {l : List (List Nat)} (h : OwnG w v n l W) {row : Option Nat} (hg : W.grownBy W' row) (hr : ∀ r, row = some r → w.heap.size ≤ r ∧ ∃ o : Obj, W.heap[r]? = some o ∧ o.isCells = false) : OwnG w v n l W' := by
  refine ⟨⟨h.row.1, ?_⟩, h.ok, h.bel.grown hg h.bel.size (fun r e => (hr r e).1)⟩
  rcases h.row.2 with h2 | ⟨q, cap, cur, hv, hb, hh, r⟩
  · exact .inl h2
  · exact .inr ⟨q, cap, cur, hv, hb, (grownBy_keeps_cells hg (fun r e => (hr r e).2) hh rfl).trans hh, r⟩
theorem OwnG.set {w W : World} {v : Value} {n : Nat} {l : List (List Nat)} (h : OwnG w v n l W) {B : Nat} {u : Value} (hB : w.heap.size ≤ B) (hv : v.ownBlock ≠ some B) : OwnG w v n l (W.setCell ⟨B, 0, none⟩ u) := by
  refine ⟨?_, h.ok, h.bel.setCell hB _⟩
  refine h.row.kept (row := some B) ⟨rfl, rfl, rfl, by simp, fun q _ hq => Below.heap_setCell W ⟨B, 0, none⟩ u q (fun e => hq (by rw [e]))⟩ ?_
  cases hv' : v.ownBlock with
  | none => exact .inl rfl
  | some q => exact .inr (fun e => hv (by rw [hv', e]))
/-- The box of the number, the box of the branch, the branch. -/
structure BrJ (w : World) (q B : Nat) (M : List (List Nat)) (v : Value) (W : World) : Prop where
  kb : Boxed W w.heap.size 3 (.int .i64 (q : Nat))
  bb : Boxed W (w.heap.size + 1) 22 v
  own : ∃ j, j ≤ B ∧ OwnG w v j M W
  new : ∀ q, v.ownBlock = some q → w.heap.size + 3 ≤ q
  size : w.heap.size + 3 ≤ W.heap.size
section
variable {w W W' : World} {q B : Nat} {M : List (List Nat)} {v : Value}
theorem BrJ.bel (h : BrJ w q B M v W) : Below w.heap.size w W := by
  obtain ⟨j, _, o⟩ := h.own
  exact o.bel
theorem BrJ.later (h : BrJ w q B M v W) (g : Below W.heap.size W W') : BrJ w q B M v W' :=
  ⟨(g.block _ h.kb.lt).trans h.kb, (g.block _ h.bb.lt).trans h.bb, by
    obtain ⟨j, hj, o⟩ := h.own
    exact ⟨j, hj, o.later g⟩, h.new, Nat.le_trans h.size g.size⟩
theorem BrJ.keep (h : BrJ w q B M v W) {row : Option Nat} (hg : W.grownBy W' row) (hr : ∀ r, row = some r → w.heap.size ≤ r ∧ ∃ o : Obj, W.heap[r]? = some o ∧ o.isCells = false) : BrJ w q B M v W' :=
  ⟨(grownBy_keeps_cells hg (fun r e => (hr r e).2) h.kb rfl).trans h.kb, (grownBy_keeps_cells hg (fun r e => (hr r e).2) h.bb rfl).trans h.bb, by
    obtain ⟨j, hj, o⟩ := h.own
    exact ⟨j, hj, o.keep hg hr⟩, h.new, Nat.le_trans h.size hg.size⟩
theorem BrJ.setK (h : BrJ w q B M v W) (r : Nat) : BrJ w r B M v (W.setCell ⟨w.heap.size, 0, none⟩ (.int .i64 (r : Nat))) :=
  ⟨h.kb.set _, (Below.heap_setCell W ⟨w.heap.size, 0, none⟩ _ (w.heap.size + 1) (by show w.heap.size + 1 ≠ w.heap.size; omega)).trans h.bb, by
    obtain ⟨j, hj, o⟩ := h.own
    exact ⟨j, hj, o.set (Nat.le_refl _) (fun e => by have := h.new _ e; omega)⟩, h.new, by have := h.size; simpa [World.setCell] using this⟩
theorem BrJ.app (h : BrJ w q B M v W) {v6 : Value} {w6 : World} {j : Nat} {x : List Nat} (hj : j ≤ B) (O : OwnG w v6 (j + 1) (M ++ [x]) w6) (g : W.grownBy w6 v.ownBlock) (n : v6.ownBlock = v.ownBlock ∨ v6.ownBlock = some W.heap.size) : BrJ w q (B + 1) (M ++ [x]) v6 (w6.setCell ⟨w.heap.size + 1, 0, none⟩ v6) := by
  have hn : ∀ q, v6.ownBlock = some q → w.heap.size + 3 ≤ q := fun q hq => by
    rcases n with n | n
    · exact h.new q (by rw [← n]; exact hq)
    · rw [n] at hq
      injection hq with hq
      have := h.size
      omega
  have kb6 : Boxed w6 w.heap.size 3 _ := h.kb.kept g (fun e => by have := h.new _ e.symm; omega)
  have bb6 : Boxed w6 (w.heap.size + 1) 22 v := h.bb.kept g (fun e => by have := h.new _ e.symm; omega)
  exact ⟨(Below.heap_setCell w6 ⟨w.heap.size + 1, 0, none⟩ _ w.heap.size (by show w.heap.size ≠ w.heap.size + 1; omega)).trans kb6, bb6.set _, ⟨j + 1, by omega, O.set (by omega) (fun e => by have := hn _ e; omega)⟩, hn, by have := h.size; have := g.size; simp [World.setCell]; omega⟩
/-- What an iteration does to blocks of before. -/
def Kf (s : Nat) (W W' : World) : Prop := KeepsFrom s W W'
theorem Kf.below {s : Nat} (g : Below W.heap.size W W') : Kf s W W' := ⟨g.size, fun k o _ hk _ => by rw [g.block k (Array.getElem?_eq_some_iff.1 hk).1]; exact hk⟩
theorem Kf.set (s : Nat) (W : World) (a : Addr) (x : Value) : Kf s W (W.setCell a x) := (KeepsOthers.setCell W a x).from _
theorem Kf.row {s base : Nat} {e : TypeId} {size n : Nat} {xs : List Value} (hr : W.ownsRow base e size v n xs) (hg : W.grownBy W' v.ownBlock) : Kf s W W' :=
  (KeepsOthers.of_grownBy hg fun j o ej hj => by
    rcases hr.2 with ⟨rfl, _⟩ | ⟨g, cap, cur, rfl, _, hh, _⟩
    · cases ej
    · injection ej with ej
      subst ej
      have hh' : W.heap[g]? = some o := hj
      rw [hh] at hh'
      injection hh' with hh'
      subst hh'
      rfl).from _
theorem wp_appG6 {w0 : World} {ops : Array Oper} {o : Oper} {a : Act} {Q : Exit → Act → World → Prop} {K : Act → World → Prop} {d : Option Tmp} {b : Nat} (hd : o.dst = d) (s x : Operand) (ho : o.op = .call { callee := .builtin .append, args := #[s, x], argTypes := #[22, 22] })
    {v : Value} {m : Nat} {l : List (List Nat)} (hs : a.eval s = v) (hown : OwnG w0 v m l W) {h : List Nat} (hx : a.eval x = .slice (some ⟨b, 0, none⟩) 1 1) (hk : h.length = 32 ∧ AllB h) (hr : Ro W b 24 (vals h)) (hlen : m + 1 ≤ 1073741824)
    (hw : ∀ A' c' w', OwnG w0 (.slice A' (m + 1) c') (m + 1) (l ++ [h]) w' → W.grownBy w' v.ownBlock → (Value.ownBlock (.slice A' (m + 1) c') = v.ownBlock ∨ Value.ownBlock (.slice A' (m + 1) c') = some W.heap.size) → K (a.put d (.slice A' (m + 1) c')) w') : o.wp Tryd.prog a W K Q := by
  obtain ⟨A', c', w', r1, r2, r3, r4, r5⟩ := run_appG (w0 := w0) (w := W) (m := [h]) (k := 1) (c := 1) (b := b) (q := 0) o.type hown rfl (okG_one hk) (fun j u hj => by rw [gsV_one] at hj; rw [Nat.zero_add]; exact hr.cell hj) hlen
  have e := hw A' c' w' r2 r3 r5
  rw [← hd] at e
  unfold Oper.wp
  simp [execOp, ho, resolve, invoke, builtin, hs, hx, r1, Result.andThen]
  exact e
end
end Go.Proofs.YtdenibigefchpaaDoor
