/- Rows of lines that live on while other memory is written; append of lines onto such a row. No condition but a bound on the lengths. -/
import Derived.Test.YtfmfooocfcdalaaPartsM
namespace Go.Proofs.Ytfmfooocfcdalaa
open Go.RowKit

/-- As LinesV.imp, with what is known of a line's block. -/
theorem LinesV.imp' {W W' : World} {ok ok' : Nat → Prop} {us : List Value} {Ls : List (List Nat)} (h : LinesV W ok us Ls) (hb : ∀ A n L, Bs W A n L → (∀ a, A = some a → ok a.block ∧ a.block < W.heap.size) → Bs W' A n L) (hk : ∀ k, k < W.heap.size → ok k → ok' k) (hs : W.heap.size ≤ W'.heap.size) : LinesV W' ok' us Ls := by
  induction h with
  | nil => exact .nil
  | snoc _ hu ih =>
    refine .snoc ih ?_
    obtain ⟨A, n, c, e, hc, b, a⟩ := hu
    exact ⟨A, n, c, e, hc, hb A n _ b a, fun x hx => ⟨hk _ (a x hx).2 (a x hx).1, Nat.lt_of_lt_of_le (a x hx).2 hs⟩⟩

structure Tx (ok : Nat → Prop) (base : Nat) (tv : Value) (us : List Value) (Ls : List (List Nat)) (W : World) : Prop where
  row : W.ownsRow base 27 1 tv us.length us
  lines : LinesV W (fun k => ok k ∧ tv.ownBlock ≠ some k) us Ls
  apart : ∀ k, tv.ownBlock = some k → ok k
theorem Tx.nil (ok : Nat → Prop) (base : Nat) (W : World) : Tx ok base (.slice none 0 0) [] [] W := ⟨World.ownsRow_nil _ _ _ _, .nil, fun k e => by cases e⟩
theorem Tx.lt {ok : Nat → Prop} {base : Nat} {tv : Value} {us : List Value} {Ls : List (List Nat)} {W : World} (h : Tx ok base tv us Ls W) : ∀ k, tv.ownBlock = some k → base ≤ k ∧ k < W.heap.size := h.row.lt
theorem Tx.agree {ok ok' : Nat → Prop} {base : Nat} {tv : Value} {us : List Value} {Ls : List (List Nat)} {W W' : World} (h : Tx ok base tv us Ls W) (hs : W.heap.size ≤ W'.heap.size)
    (ha : ∀ k, k < W.heap.size → ok k → W'.heap[k]? = W.heap[k]?) (hk : ∀ k, k < W.heap.size → ok k → ok' k) : Tx ok' base tv us Ls W' := by
  refine ⟨⟨h.row.1, ?_⟩, ?_, fun k e => hk k (h.row.lt k e).2 (h.apart k e)⟩
  · rcases h.row.2 with h2 | ⟨g, cap, cur, hv, hb, hh, r⟩
    · exact .inl h2
    · have e : tv.ownBlock = some g := by rw [hv]; rfl
      exact .inr ⟨g, cap, cur, hv, hb, (ha g (h.row.lt g e).2 (h.apart g e)).trans hh, r⟩
  · refine h.lines.imp (fun A n L b hb => ?_) (fun k hlt hok => ⟨hk k hlt hok.1, hok.2⟩) hs
    refine b.kept fun hn a e => ?_
    obtain ⟨a2, e2, hb2, _⟩ := b.cel hn
    rw [e] at e2
    injection e2 with e2
    subst e2
    exact ha _ hb2 (hb a e).1
theorem Tx.later {ok ok' : Nat → Prop} {base : Nat} {tv : Value} {us : List Value} {Ls : List (List Nat)} {W W' : World} (h : Tx ok base tv us Ls W) (g : Below W.heap.size W W') (hk : ∀ k, k < W.heap.size → ok k → ok' k) : Tx ok' base tv us Ls W' :=
  h.agree g.size (fun k hlt _ => g.block k hlt) hk
theorem Tx.add {ok ok0 : Nat → Prop} {base : Nat} {tv : Value} {us : List Value} {Ls : List (List Nat)} {W : World} (ty : TypeId) (h : Tx ok base tv us Ls W) (hb : base ≤ W.heap.size)
    {A : Option Addr} {m c : Nat} {vs : List Value} {ls : List (List Nat)} (hm : vs.length = m) (hcells : ∀ a, A = some a → ∀ j u, vs[j]? = some u → W.cell? (a.add j) = some u) (hA : A = none → m = 0)
    (hl : LinesV W ok0 vs ls) (hok0 : ∀ k, k < W.heap.size → ok0 k → ok k ∧ tv.ownBlock ≠ some k) (hnew : ok W.heap.size) (hlen : us.length + vs.length ≤ 1099511627776) :
    ∃ tv' W', (Builtin.append_ #[30, 30] ty #[tv, .slice A m c]).run Try.prog W = .ok tv' W' ∧ Tx ok base tv' (us ++ vs) (Ls ++ ls) W' ∧ W.grownBy W' tv.ownBlock ∧ (tv'.ownBlock = tv.ownBlock ∨ tv'.ownBlock = some W.heap.size) := by
  obtain ⟨i0, hi, hz0, hz1, hz2⟩ := info_parts (P := Try.prog) (e := 27) (by kernel_rfl : (Try.prog.info? 27).map (fun i => (i.zero, i.size, i.bytes)) = some (some (.slice none 0 0), 1, 24))
  have hll := hl.len
  rcases A with _ | a
  · obtain rfl := hA rfl
    obtain rfl : vs = [] := List.eq_nil_of_length_eq_zero hm
    obtain rfl : ls = [] := List.eq_nil_of_length_eq_zero hll.symm
    have hrun : (Builtin.append_ #[30, 30] ty #[tv, .slice none 0 c]).run Try.prog W = .ok tv W := by
      rcases h.row.2 with ⟨rfl, _⟩ | ⟨g, cap, cur, rfl, _, _, hnc, _⟩
      · simp [Builtin.append_, run_underlying Try.underlying30, sizeOf, typeInfo, hi, Builtin.lenOf, Builtin.firstCells]
      · simp [Builtin.append_, run_underlying Try.underlying30, sizeOf, typeInfo, hi, Builtin.lenOf, Builtin.firstCells, hnc, storeCells]
    exact ⟨tv, W, hrun, by simpa using h, World.grownBy.refl _ _, .inl rfl⟩
  · subst hm
    obtain ⟨tv', W', a1, a2, a3, _, a5⟩ := run_append_own_at (P := Try.prog) W base 30 ty 27 i0 (.slice none 0 0) 1 24 Try.underlying30 hi hz0 hz1 hz2 rfl (by decide) tv us.length us h.row a vs.length c vs (by simp) (hcells a rfl) hl.one (by unfold maxLen; omega) (by omega) hb
    have nok : ∀ k, k < W.heap.size → tv.ownBlock ≠ some k → tv'.ownBlock ≠ some k := fun k hk hne e => by
      rcases a5 with e2 | e2
      · exact hne (by rw [← e2]; exact e)
      · rw [e2] at e
        injection e with e
        omega
    refine ⟨tv', W', a1, ⟨by rw [List.length_append]; exact a2, LinesV.app ?_ ?_, fun k e => ?_⟩, a3, a5⟩
    · exact h.lines.imp (fun A n L b ha => b.far a3 fun a e e2 => (ha a e).2 e2.symm) (fun k hk hok => ⟨hok.1, nok k hk hok.2⟩) a3.size
    · refine hl.imp' (fun A n L b ha => b.far a3 fun a e e2 => (hok0 _ (ha a e).2 (ha a e).1).2 e2.symm) (fun k hk hok => ⟨(hok0 k hk hok).1, nok k hk (hok0 k hk hok).2⟩) a3.size
    · rcases a5 with e2 | e2
      · exact h.apart k (by rw [← e2]; exact e)
      · rw [e2] at e
        injection e with e
        subst e
        exact hnew
theorem Tx.ll {ok : Nat → Prop} {base : Nat} {tv : Value} {us : List Value} {Ls : List (List Nat)} {W : World} (h : Tx ok base tv us Ls W) (hs : ∀ l ∈ Ls, l.length ≤ 65536) : ∃ B c, tv = .slice B Ls.length c ∧ Ll W B Ls.length Ls := by
  have hl := h.lines.len
  obtain ⟨B, c, rfl, hc⟩ := row_shape h.row
  rw [hl]
  refine ⟨B, c, rfl, rfl, fun hm => ?_⟩
  obtain ⟨g, cap, hv, _, hlt⟩ := h.row.form (by omega)
  have hB : B = some ⟨g, 0, Option.none⟩ := by injection hv
  subst hB
  refine ⟨_, rfl, hlt, fun i hi => ?_⟩
  obtain ⟨A, n, c', h1, h2, h3⟩ := h.lines.get i (by omega)
  refine ⟨A, n, c', h.row.cells (g := g) rfl i _ h1, ?_, h3⟩
  have e := h3.len
  have hm : Ls.getD i [] ∈ Ls := by
    simp only [List.getD, List.getElem?_eq_getElem hi, Option.getD_some]
    exact List.getElem_mem hi
  have := hs _ hm
  omega
end Go.Proofs.Ytfmfooocfcdalaa
