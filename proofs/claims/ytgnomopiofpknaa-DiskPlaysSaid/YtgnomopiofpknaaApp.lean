/- Blocks known whole; appends onto a row of bytes, and what else turns. No condition. -/
import Derived.Test.YtgnomopiofpknaaRw
import Derived.Maps.AppendAt
import Derived.Handy
namespace Go.Proofs.Ytgnomopiofpknaa
open Go.RowKit

/-- A block whose cells are these. -/
def Ro (w : World) (b : Nat) (T : TypeId) (vs : List Value) : Prop := w.heap[b]? = some (.cells vs.toArray T (0, 0))
section
variable {w w1 : World} {b c k : Nat} {T : TypeId} {vs : List Value}
theorem Ro.lt (h : Ro w b T vs) : b < w.heap.size := (Array.getElem?_eq_some_iff.1 h).1
theorem Ro.cell (h : Ro w b T vs) {v : Value} (hk : vs[k]? = some v) : w.cell? ⟨b, k, none⟩ = some v := by
  unfold Ro at h
  unfold World.cell?
  simp only [h]
  simpa using hk
theorem Ro.free (h : Ro w b T vs) (k : Nat) : w.frozen? ⟨b, k, none⟩ = false := by
  unfold Ro at h
  simp [World.frozen?, h]
theorem Ro.same (h : Ro w b T vs) (e : w1.heap[b]? = w.heap[b]?) : Ro w1 b T vs := e.trans h
theorem Ro.later (h : Ro w b T vs) (g : Below w.heap.size w w1) : Ro w1 b T vs := h.same (g.block b h.lt)
theorem Ro.set (h : Ro w b T vs) (k : Nat) (v : Value) : Ro (w.setCell ⟨b, k, none⟩ v) b T (vs.set k v) := by
  unfold Ro at *
  show (w.heap.modify b _)[b]? = _
  rw [Array.getElem?_modify, if_pos rfl, h]
  simp
theorem Ro.other (h : Ro w b T vs) (hc : b ≠ c) (u : Value) : Ro (w.setCell ⟨c, k, none⟩ u) b T vs := h.same (Below.heap_setCell _ _ _ _ hc)
theorem Ro.new (w : World) (T : TypeId) (vs : List Value) : Ro (w.alloc (.cells vs.toArray T)) w.heap.size T vs := heap_alloc_new w _
theorem Ro.alloc (h : Ro w b T vs) (o : Obj) : Ro (w.alloc o) b T vs := h.later ((Below.refl _ _).alloc (Nat.le_refl _) o)
theorem Ro.far {row : Option Nat} (h : Ro w b T vs) (g : w.grownBy w1 row) (hr : some b ≠ row) : Ro w1 b T vs := h.same (g.block b h.lt hr)
end
/-- Of what lay there nothing has turned but the row v; the row is v' now. -/
structure Grew (w w' : World) (v v' : Value) : Prop where
  g : w.grownBy w' v.ownBlock
  ne : v'.ownBlock = v.ownBlock ∨ ∀ b, v'.ownBlock = some b → w.heap.size ≤ b
theorem Grew.refl (w : World) (v : Value) : Grew w w v v := ⟨World.grownBy.refl _ _, .inl rfl⟩
theorem Grew.trans {w w1 w2 : World} {v v1 v2 : Value} (G : Grew w w1 v v1) (H : Grew w1 w2 v1 v2) : Grew w w2 v v2 := by
  have gs := G.g.size
  refine ⟨⟨H.g.os.trans G.g.os, H.g.tape.trans G.g.tape, H.g.output.trans G.g.output, Nat.le_trans gs H.g.size, fun k hk hne => ?_⟩, ?_⟩
  · rw [H.g.block k (Nat.lt_of_lt_of_le hk gs) ?_, G.g.block k hk hne]
    rcases G.ne with e | e
    · rw [e]; exact hne
    · intro q
      have := e k q.symm
      omega
  · rcases H.ne with e | e
    · rcases G.ne with e2 | e2
      · exact .inl (e.trans e2)
      · exact .inr fun b hb => e2 b (by rw [← e]; exact hb)
    · exact .inr fun b hb => Nat.le_trans gs (e b hb)
theorem Grew.below {w w1 : World} (v : Value) (g : Below w.heap.size w w1) : Grew w w1 v v := ⟨⟨g.os, g.tape, g.output, g.size, fun k hk _ => g.block k hk⟩, .inl rfl⟩
theorem Grew.kept {w w1 : World} {v v' : Value} {P : Nat → Prop} (G : Grew w w1 v v') (h : ∀ b, P b → some b ≠ v.ownBlock) : Kept P w w1 := Kept.of_grown G.g h
/-- A box that is not the row. -/
theorem Grew.box {w w1 : World} {v v' : Value} {b : Nat} {T : TypeId} {vs : List Value} (G : Grew w w1 v v') (h : Ro w b T vs) (hne : some b ≠ v.ownBlock) : Ro w1 b T vs := h.far G.g hne
/-- append of bytes, and in which block it lies. -/
theorem run_appB {w0 w : World} {v : Value} {n : Nat} {L M : List Nat} {A : Option Addr} {m c : Nat} (ty : TypeId) (hown : Own w0 v n L w) (hr : Bs w A m M) (hlen : n + m ≤ 1099511627776) :
    ∃ A' N c' w', (Builtin.append_ #[33, 33] ty #[v, .slice A m c]).run Try.prog w = .ok (.slice A' N c') w' ∧ N ≤ c' ∧ Own w0 (.slice A' N c') N (L ++ M) w' ∧ Grew w w' v (.slice A' N c') := by
  obtain ⟨i0, hi, hz0, hz1, hz2⟩ := info_parts Try.infoByte
  have hsz := hown.size
  have key : ∀ v' w', (Builtin.append_ #[33, 33] ty #[v, .slice A m c]).run Try.prog w = .ok v' w' → Own w0 v' (n + m) (L ++ M) w' → w.grownBy w' v.ownBlock → (v'.ownBlock = v.ownBlock ∨ v'.ownBlock = some w.heap.size) → ∃ A' N c' w', (Builtin.append_ #[33, 33] ty #[v, .slice A m c]).run Try.prog w = .ok (.slice A' N c') w' ∧ N ≤ c' ∧ Own w0 (.slice A' N c') N (L ++ M) w' ∧ Grew w w' v (.slice A' N c') := by
    intro v' w' h1 h2 h3 h4
    obtain ⟨A', c', rfl, hc⟩ := h2.shape
    refine ⟨A', n + m, c', w', h1, hc, h2, h3, ?_⟩
    rcases h4 with h4 | h4
    · exact .inl h4
    · exact .inr fun b hb => by rw [h4] at hb; injection hb with hb; omega
  rcases A with _ | ad
  · obtain rfl : m = 0 := by
      rcases Nat.eq_zero_or_pos m with h0 | h0
      · exact h0
      · obtain ⟨_, e, _⟩ := hr.cel h0
        cases e
    obtain rfl : M = [] := List.eq_nil_of_length_eq_zero hr.len
    have hrun : (Builtin.append_ #[33, 33] ty #[v, .slice none 0 c]).run Try.prog w = .ok v w := by
      rcases hown.row.2 with ⟨rfl, rfl⟩ | ⟨g, cap, cur, rfl, _, _, hnc, _⟩
      · simp [Builtin.append_, run_underlying Try.underlying33, sizeOf, typeInfo, hi, Builtin.lenOf, Builtin.firstCells]
      · simp [Builtin.append_, run_underlying Try.underlying33, sizeOf, typeInfo, hi, Builtin.lenOf, Builtin.firstCells, hnc, storeCells]
    exact key v w hrun (by simpa using hown) (World.grownBy.refl _ _) (.inl rfl)
  · obtain ⟨v', w', h1, h2, h3, _, h5⟩ := run_append_own_at (P := Try.prog) w w0.heap.size 33 ty 5 i0 (.int .u8 0) 1 1 Try.underlying33 hi hz0 hz1 hz2 rfl (by decide) v n (vals L) hown.row ad m c (vals M) (by rw [vals_length, hr.len]; omega) hr.cells (vals_one M) (by unfold maxLen; omega) (by omega) hsz
    exact key v' w' h1 (hown.grown hr.byt h2 h3) h3 h5
section
variable {w0 w : World} {ops : Array Oper} {rest : List Oper} {o : Oper} {a : Act} {Q : Exit → Act → World → Prop} {K : Act → World → Prop} {d : Option Tmp}
theorem wp_appB (hd : o.dst = d) (s x : Operand) (ho : o.op = .call { callee := .builtin .append, args := #[s, x], argTypes := #[33, 33] })
    {v : Value} {n m c : Nat} {L M : List Nat} {A : Option Addr} (hs : a.eval s = v) (hown : Own w0 v n L w) (hx : a.eval x = .slice A m c) (hr : Bs w A m M) (hlen : n + m ≤ 1099511627776)
    (hw : ∀ A' N c' w', N ≤ c' → Own w0 (.slice A' N c') N (L ++ M) w' → Grew w w' v (.slice A' N c') → K (a.put d (.slice A' N c')) w') : o.wp Try.prog a w K Q := by
  subst hd
  obtain ⟨A', N, c', w', r1, r2, r3, r4⟩ := run_appB (c := c) o.type hown hr hlen
  have e := hw A' N c' w' r2 r3 r4
  unfold Oper.wp
  simp [execOp, ho, resolve, invoke, builtin, hs, hx, r1, Result.andThen]
  exact e
theorem wpList_appB (hgd : o.guard = none) (s x : Operand) (ho : o.op = .call { callee := .builtin .append, args := #[s, x], argTypes := #[33, 33] })
    {v : Value} {n m c : Nat} {L M : List Nat} {A : Option Addr} (hs : a.eval s = v) (hown : Own w0 v n L w) (hx : a.eval x = .slice A m c) (hr : Bs w A m M) (hlen : n + m ≤ 1099511627776)
    (hw : ∀ A' N c' w', N ≤ c' → Own w0 (.slice A' N c') N (L ++ M) w' → Grew w w' v (.slice A' N c') → wpList Try.prog ops Q rest (a.put o.dst (.slice A' N c')) w') : wpList Try.prog ops Q (o :: rest) a w :=
  wpList_plain hgd fun _ hK => wp_appB rfl s x ho hs hown hx hr hlen fun A' N c' w' h1 h2 h3 => hK _ _ (hw A' N c' w' h1 h2 h3)
end
/-- What a function returns that puts M behind the row v, which reads as L. -/
def Puts (w0 w : World) (v : Value) (L M : List Nat) (e : Ending) (w' : World) : Prop := ∃ A N c, e = .returned (.slice A N c) ∧ N ≤ c ∧ Own w0 (.slice A N c) N (L ++ M) w' ∧ Grew w w' v (.slice A N c)

end Go.Proofs.Ytgnomopiofpknaa
