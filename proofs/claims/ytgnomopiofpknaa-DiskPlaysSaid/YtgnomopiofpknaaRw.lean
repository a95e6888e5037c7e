/- Slices whose elements lead to memory of their own: that read as a list, and rows of the call's own. No condition. -/
import Derived.Test.YtgnomopiofpknaaSc
import Derived.Laws.Tables
import Derived.RegionTactic
import Derived.LoopTactic
import Derived.Test.YtgnomopiofpknaaAfter
import Derived.Deep.MidRow
import Derived.Great.BuildSlice
namespace Go.Proofs.Ytgnomopiofpknaa
open Go.RowKit

/-- What lies in the blocks of P lies as it lay. -/
structure Kept (P : Nat → Prop) (w w' : World) : Prop where
  size : w.heap.size ≤ w'.heap.size
  blk : ∀ b, P b → b < w.heap.size → w'.heap[b]? = w.heap[b]?
theorem Kept.of_below {P : Nat → Prop} {w w' : World} (g : Below w.heap.size w w') : Kept P w w' := ⟨g.size, fun b _ hb => g.block b hb⟩
theorem Kept.of_grown {P : Nat → Prop} {w w' : World} {row : Option Nat} (g : w.grownBy w' row) (h : ∀ b, P b → some b ≠ row) : Kept P w w' := ⟨g.size, fun b hp hb => g.block b hb (h b hp)⟩
theorem Kept.cell {P : Nat → Prop} {w w' : World} (g : Kept P w w') {a : Addr} (hp : P a.block) (hb : a.block < w.heap.size) : w'.cell? a = w.cell? a := by
  unfold World.cell?
  rw [g.blk _ hp hb]
theorem Kept.trans {P : Nat → Prop} {w w1 w2 : World} (g : Kept P w w1) (h : Kept P w1 w2) : Kept P w w2 :=
  ⟨Nat.le_trans g.size h.size, fun b hp hb => by rw [h.blk b hp (Nat.lt_of_lt_of_le hb g.size), g.blk b hp hb]⟩
/-- Bytes that lie in a block of P. -/
structure BsP (w : World) (P : Nat → Prop) (A : Option Addr) (n : Nat) (L : List Nat) : Prop where
  bs : Bs w A n L
  inP : 0 < n → ∀ a, A = some a → P a.block
theorem BsP.keep {w w' : World} {P : Nat → Prop} {A : Option Addr} {n : Nat} {L : List Nat} (h : BsP w P A n L) (g : Kept P w w') : BsP w' P A n L :=
  ⟨⟨h.bs.len, h.bs.byt, fun hn => by
    obtain ⟨a, e, hb, hc⟩ := h.bs.cel hn
    have hp := h.inP hn a e
    exact ⟨a, e, Nat.lt_of_lt_of_le hb g.size, fun k hk => by rw [g.cell (by rw [add_block]; exact hp) (by rw [add_block]; exact hb)]; exact hc k hk⟩⟩, h.inP⟩
theorem BsP.weak {w : World} {P Q : Nat → Prop} {A : Option Addr} {n : Nat} {L : List Nat} (h : BsP w P A n L) (q : ∀ b, P b → b < w.heap.size → Q b) : BsP w Q A n L :=
  ⟨h.bs, fun hn a e => by
    obtain ⟨a', e', hb, _⟩ := h.bs.cel hn
    rw [e] at e'
    injection e' with e'
    subst e'
    exact q _ (h.inP hn a e) hb⟩
def anyP : Nat → Prop := fun _ => True
theorem Bs.p {w : World} {A : Option Addr} {n : Nat} {L : List Nat} (h : Bs w A n L) : BsP w anyP A n L := ⟨h, fun _ _ _ => trivial⟩
theorem BsP.nil (w : World) (P : Nat → Prop) (A : Option Addr) : BsP w P A 0 [] := ⟨Bs.nil w A, fun h => absurd h (by omega)⟩

/-- How an element reads. -/
abbrev Reads (α : Type) := World → (Nat → Prop) → List Value → α → Prop
structure Mono {α : Type} (R : Reads α) : Prop where
  keep : ∀ {w w' P V x}, R w P V x → Kept P w w' → R w' P V x
  weak : ∀ {w P Q V x}, R w P V x → (∀ b, P b → b < w.heap.size → Q b) → R w Q V x
/-- Cells that read as a list, element by element. -/
inductive Each {α : Type} (sz : Nat) (R : List Value → α → Prop) : List Value → List α → Prop
  | nil : Each sz R [] []
  | cons {V cs : List Value} {x : α} {l : List α} : V.length = sz → R V x → Each sz R cs l → Each sz R (V ++ cs) (x :: l)
section
variable {α : Type} {sz : Nat} {R S : List Value → α → Prop} {cs ds : List Value} {l m : List α}
theorem Each.len (h : Each sz R cs l) : cs.length = l.length * sz := by
  induction h with
  | nil => simp
  | cons h1 _ _ ih => rw [List.length_append, ih, h1, List.length_cons, Nat.add_mul]; omega
theorem Each.app (h : Each sz R cs l) (k : Each sz R ds m) : Each sz R (cs ++ ds) (l ++ m) := by
  induction h with
  | nil => exact k
  | cons h1 h2 _ ih => rw [List.append_assoc]; exact .cons h1 h2 ih
theorem Each.imp (h : Each sz R cs l) (k : ∀ V x, R V x → S V x) : Each sz S cs l := by
  induction h with
  | nil => exact .nil
  | cons h1 h2 _ ih => exact .cons h1 (k _ _ h2) ih
theorem Each.one {V : List Value} {x : α} (h : V.length = sz) (k : R V x) : Each sz R V [x] := by
  have := Each.cons h k (Each.nil (sz := sz) (R := R))
  rwa [List.append_nil] at this
theorem Each.at_ (h : Each sz R cs l) {k : Nat} (hk : k < l.length) : ∃ X V Z, cs = X ++ (V ++ Z) ∧ X.length = k * sz ∧ V.length = sz ∧ R V l[k] ∧ Each sz R X (l.take k) ∧ Each sz R Z (l.drop (k + 1)) := by
  induction h generalizing k with
  | nil => cases hk
  | @cons V cs x l h1 h2 h3 ih =>
    cases k with
    | zero => exact ⟨[], V, cs, rfl, by simp, h1, h2, .nil, h3⟩
    | succ k =>
      obtain ⟨X, V', Z, e, a1, a2, a3, a4, a5⟩ := ih (k := k) (by simpa using hk)
      subst e
      refine ⟨V ++ X, V', Z, by rw [List.append_assoc], by rw [List.length_append, h1, a1, Nat.add_mul]; omega, a2, a3, ?_, a5⟩
      rw [List.take_succ_cons]
      exact .cons h1 h2 a4
end
/-- A slice at A of n elements reads as l. -/
structure Rows {α : Type} (w : World) (P : Nat → Prop) (sz : Nat) (R : Reads α) (A : Option Addr) (n : Nat) (l : List α) : Prop where
  len : l.length = n
  cel : 0 < n → ∃ b o cs, A = some ⟨b, o, none⟩ ∧ b < w.heap.size ∧ P b ∧ w.rangeAt b o cs ∧ Each sz (R w P) cs l
section
variable {α : Type} {w w' : World} {P Q : Nat → Prop} {sz : Nat} {R : Reads α} {A : Option Addr} {n : Nat} {l : List α}
theorem Rows.nil (w : World) (P : Nat → Prop) (sz : Nat) (R : Reads α) (A : Option Addr) : Rows w P sz R A 0 [] := ⟨rfl, fun h => absurd h (by omega)⟩
theorem Rows.keep (M : Mono R) (h : Rows w P sz R A n l) (g : Kept P w w') : Rows w' P sz R A n l :=
  ⟨h.len, fun hn => by
    obtain ⟨b, o, cs, e, hb, hp, hr, he⟩ := h.cel hn
    exact ⟨b, o, cs, e, Nat.lt_of_lt_of_le hb g.size, hp, fun j v hj => by rw [g.cell hp hb]; exact hr j v hj, he.imp fun V x hx => M.keep hx g⟩⟩
theorem Rows.weak (M : Mono R) (h : Rows w P sz R A n l) (q : ∀ b, P b → b < w.heap.size → Q b) : Rows w Q sz R A n l :=
  ⟨h.len, fun hn => by
    obtain ⟨b, o, cs, e, hb, hp, hr, he⟩ := h.cel hn
    exact ⟨b, o, cs, e, hb, q b hp hb, hr, he.imp fun V x hx => M.weak hx q⟩⟩
theorem Rows.later (M : Mono R) (h : Rows w P sz R A n l) (g : Below w.heap.size w w') : Rows w' P sz R A n l := h.keep M (Kept.of_below g)
theorem Rows.at_ {b o : Nat} (h : Rows w P sz R (some ⟨b, o, none⟩) n l) {k : Nat} (hk : k < l.length) : b < w.heap.size ∧ P b ∧ ∃ V, V.length = sz ∧ w.rangeAt b (o + k * sz) V ∧ R w P V l[k] := by
  have hl := h.len
  obtain ⟨b', o', cs, e, hb, hp, hr, he⟩ := h.cel (by omega)
  injection e with e
  injection e with e1 e2
  subst e1 e2
  obtain ⟨X, V, Z, rfl, hX, hV, hR, _⟩ := he.at_ hk
  refine ⟨hb, hp, V, hV, fun j v hj => ?_, hR⟩
  have hj' := (List.getElem?_eq_some_iff.1 hj).1
  have := hr (k * sz + j) v (by rw [← hX, List.getElem?_append_right (Nat.le_add_right _ _), Nat.add_sub_cancel_left, List.getElem?_append_left hj']; exact hj)
  rwa [Nat.add_assoc]
end
/-- v is a row of the call's own that reads as l; what its elements lead to lies in blocks of P, and not in the row. -/
structure OwnRw {α : Type} (T : TypeId) (sz : Nat) (R : Reads α) (w0 : World) (P : Nat → Prop) (v : Value) (n : Nat) (l : List α) (wr : World) : Prop where
  row : ∃ cs, wr.ownsRow w0.heap.size T sz v n cs ∧ Each sz (R wr fun b => P b ∧ some b ≠ v.ownBlock) cs l ∧ ∀ u ∈ cs, u.oneCell' = true
  len : l.length = n
  bel : Below w0.heap.size w0 wr
section
variable {α : Type} {T : TypeId} {sz : Nat} {R : Reads α} {w0 wr w1 : World} {P Q : Nat → Prop} {v : Value} {n : Nat} {l : List α}
theorem OwnRw.new (h : OwnRw T sz R w0 P v n l wr) : ∀ k, v.ownBlock = some k → w0.heap.size ≤ k ∧ k < wr.heap.size := by
  obtain ⟨cs, h1, _⟩ := h.row
  exact h1.lt
theorem OwnRw.later (M : Mono R) (h : OwnRw T sz R w0 P v n l wr) (g : Below wr.heap.size wr w1) : OwnRw T sz R w0 P v n l w1 := by
  obtain ⟨cs, h1, h2, h3⟩ := h.row
  exact ⟨⟨cs, ownsRow_later h1 g, h2.imp fun V x hx => M.keep hx (Kept.of_below g), h3⟩, h.len, h.bel.trans (g.mono h.bel.size)⟩
theorem OwnRw.weak (M : Mono R) (h : OwnRw T sz R w0 P v n l wr) (q : ∀ b, P b → b < wr.heap.size → Q b) : OwnRw T sz R w0 Q v n l wr := by
  obtain ⟨cs, h1, h2, h3⟩ := h.row
  exact ⟨⟨cs, h1, h2.imp fun V x hx => M.weak hx fun b hb hl => ⟨q b hb.1 hl, hb.2⟩, h3⟩, h.len, h.bel⟩
theorem OwnRw.shape (h : OwnRw T sz R w0 P v n l wr) : ∃ A c, v = .slice A n c ∧ n ≤ c := by
  obtain ⟨cs, h1, _⟩ := h.row
  rcases h1.2 with ⟨rfl, rfl⟩ | ⟨g, cap, cur, rfl, _, _, hc, _⟩
  · exact ⟨none, 0, rfl, Nat.le_refl _⟩
  · exact ⟨_, _, rfl, hc⟩
theorem OwnRw.none_ {w : World} (b : Below w0.heap.size w0 w) : OwnRw T sz R w0 P (.slice none 0 0) 0 [] w := ⟨⟨[], World.ownsRow_nil _ _ _ _, .nil, fun u hu => by cases hu⟩, rfl, b⟩
theorem OwnRw.made {w : World} (b : Below w0.heap.size w0 w) : OwnRw T sz R w0 P (.slice (some ⟨w.heap.size, 0, none⟩) 0 0) 0 [] (w.alloc (.cells #[] T)) :=
  ⟨⟨[], World.ownsRow_made w #[] 0 b.size (by unfold maxLen; omega) (by simp), .nil, fun u hu => by cases hu⟩, rfl, b.alloc b.size _⟩
/-- Read as any slice is. -/
theorem OwnRw.reads (M : Mono R) {A : Option Addr} {c : Nat} (h : OwnRw T sz R w0 P (.slice A n c) n l wr) : Rows wr (fun b => P b ∨ A.map (·.block) = some b) sz R A n l := by
  obtain ⟨cs, h1, h2, h3⟩ := h.row
  refine ⟨h.len, fun hn => ?_⟩
  obtain ⟨g, cap, hv, _, hlt⟩ := h1.form hn
  have hA : A = some ⟨g, 0, none⟩ := by injection hv
  subst hA
  refine ⟨g, 0, cs, rfl, hlt, .inr rfl, fun j u hj => ?_, h2.imp fun V x hx => M.weak hx fun b hb _ => .inl hb.1⟩
  have := h1.cells (g := g) rfl j u hj
  have e : (⟨g, 0, none⟩ : Addr).add j = ⟨g, 0 + j, none⟩ := by unfold Addr.add; split <;> simp_all
  rwa [e] at this
end
/-- What is asked of a slice's type. -/
structure ElemT (S T : TypeId) (sz by_ : Nat) (Z : Value) : Prop where
  und : Try.prog.underlying S = some (.slice T)
  info : (Try.prog.info? T).map (fun i => (i.zero, i.size, i.bytes)) = some (some Z, sz, by_)
  zs : Z.cells.size = sz
  pos : 0 < sz
section
variable {α : Type} {S T : TypeId} {sz by_ : Nat} {Z : Value} {R : Reads α} {w0 w : World} {P : Nat → Prop} {v : Value} {n m c : Nat} {l k : List α} {A : Option Addr}
set_option maxRecDepth 100000 in
theorem run_appRw (E : ElemT S T sz by_ Z) (M : Mono R) (ty : TypeId) (hown : OwnRw T sz R w0 P v n l w) {cs : List Value} (hk : k.length = m) (hcs : 0 < m → ∃ b o, A = some ⟨b, o, none⟩ ∧ w.rangeAt b o cs) (he : Each sz (R w fun b => P b ∧ some b ≠ v.ownBlock ∧ b < w.heap.size) cs k) (h1 : ∀ u ∈ cs, u.oneCell' = true) (hlen : n + m ≤ 1073741824) (hby : (n + m) * by_ ≤ 140737488355328) :
    ∃ A' c' w', (Builtin.append_ #[S, S] ty #[v, .slice A m c]).run Try.prog w = .ok (.slice A' (n + m) c') w' ∧ OwnRw T sz R w0 P (.slice A' (n + m) c') (n + m) (l ++ k) w' ∧ w.grownBy w' v.ownBlock ∧ n + m ≤ c' ∧ (Value.ownBlock (.slice A' (n + m) c') = v.ownBlock ∨ Value.ownBlock (.slice A' (n + m) c') = some w.heap.size) := by
  obtain ⟨i0, hi, hz0, hz1, hz2⟩ := info_parts E.info
  obtain ⟨ds, hd, hed, hd1⟩ := hown.row
  by_cases hm : 0 < m
  · obtain ⟨b, o, rfl, hr⟩ := hcs hm
    obtain ⟨v', w', a1, a2, a3, _, a5⟩ := run_append_own_at (P := Try.prog) w w0.heap.size S ty T i0 Z sz by_ E.und hi hz0 hz1 hz2 E.zs E.pos v n ds hd ⟨b, o, none⟩ m c cs (by rw [he.len, hk]) (fun j u hj => by
      have e : (⟨b, o, none⟩ : Addr).add j = ⟨b, o + j, none⟩ := by unfold Addr.add; split <;> simp_all
      rw [e]; exact hr j u hj) h1 (by unfold maxLen; omega) hby hown.bel.size
    have ne : ∀ x, (P x ∧ some x ≠ v.ownBlock) → x < w.heap.size → P x ∧ some x ≠ v'.ownBlock := fun x hx hlt => ⟨hx.1, by
      rcases a5 with q | q
      · rw [q]; exact hx.2
      · rw [q]; intro e; injection e with e; omega⟩
    have O : OwnRw T sz R w0 P v' (n + m) (l ++ k) w' := by
      refine ⟨⟨ds ++ cs, a2, Each.app (hed.imp fun V x hx => ?_) (he.imp fun V x hx => ?_), fun u hu => ?_⟩, by rw [List.length_append, hown.len, hk], hown.bel.grown a3 hown.bel.size (fun q hq => (hown.new q hq).1)⟩
      · have y := M.weak hx (Q := fun b => (P b ∧ some b ≠ v'.ownBlock) ∧ some b ≠ v.ownBlock) fun b hb hlt => ⟨ne b hb hlt, hb.2⟩
        exact M.weak (M.keep y (Kept.of_grown a3 fun b hb => hb.2)) fun b hb _ => hb.1
      · have y := M.weak hx (Q := fun b => (P b ∧ some b ≠ v'.ownBlock) ∧ some b ≠ v.ownBlock) fun b hb hlt => ⟨ne b ⟨hb.1, hb.2.1⟩ hb.2.2, hb.2.1⟩
        exact M.weak (M.keep y (Kept.of_grown a3 fun b hb => hb.2)) fun b hb _ => hb.1
      · rcases List.mem_append.1 hu with h | h
        · exact hd1 u h
        · exact h1 u h
    obtain ⟨A', c', rfl, hc⟩ := O.shape
    exact ⟨A', c', w', a1, O, a3, hc, a5⟩
  · obtain rfl : m = 0 := by omega
    obtain rfl : k = [] := List.eq_nil_of_length_eq_zero hk
    rw [List.append_nil, Nat.add_zero]
    obtain ⟨A1, c1, rfl, hc1⟩ := hown.shape
    refine ⟨A1, c1, w, ?_, hown, World.grownBy.refl _ _, hc1, .inl rfl⟩
    have hc : ∀ x : Addr, (loadCells x 0).run Try.prog w = .ok #[] w := fun x => by simpa using run_loadCells_list (P := Try.prog) w x [] (by simp)
    rcases hd.2 with ⟨e, _⟩ | ⟨q, cap, cur, e, _, _, hnc, _⟩
    · injection e with e1 e2 e3
      subst e1 e2 e3
      cases A <;> simp [Builtin.append_, run_underlying E.und, sizeOf, typeInfo, hi, Builtin.lenOf, Builtin.firstCells, hc]
    · injection e with e1 e2 e3
      subst e1 e3
      cases A <;> simp [Builtin.append_, run_underlying E.und, sizeOf, typeInfo, hi, Builtin.lenOf, Builtin.firstCells, hnc, storeCells, hc]
end
section
variable {α : Type} {S T : TypeId} {sz by_ : Nat} {Z : Value} {R : Reads α} {w0 w : World} {P : Nat → Prop} {v : Value} {n m c N : Nat} {l k : List α} {A : Option Addr} {ops : Array Oper} {rest : List Oper} {o : Oper} {a : Act} {Q : Exit → Act → World → Prop} {K : Act → World → Prop} {d : Option Tmp}
set_option maxRecDepth 100000 in
theorem wp_appRw (E : ElemT S T sz by_ Z) (M : Mono R) (hd : o.dst = d) (s x : Operand) (ho : o.op = .call { callee := .builtin .append, args := #[s, x], argTypes := #[S, S] })
    (hs : a.eval s = v) (hown : OwnRw T sz R w0 P v n l w) (hx : a.eval x = .slice A m c) {cs : List Value} (hk : k.length = m) (hcs : 0 < m → ∃ b o, A = some ⟨b, o, none⟩ ∧ w.rangeAt b o cs) (he : Each sz (R w fun b => P b ∧ some b ≠ v.ownBlock ∧ b < w.heap.size) cs k) (h1 : ∀ u ∈ cs, u.oneCell' = true) (hN : n + m = N) (hlen : n + m ≤ 1073741824) (hby : (n + m) * by_ ≤ 140737488355328)
    (hw : ∀ A' c' w', N ≤ c' → OwnRw T sz R w0 P (.slice A' N c') N (l ++ k) w' → w.grownBy w' v.ownBlock → (Value.ownBlock (.slice A' N c') = v.ownBlock ∨ Value.ownBlock (.slice A' N c') = some w.heap.size) → K (a.put d (.slice A' N c')) w') : o.wp Try.prog a w K Q := by
  subst hd hN
  obtain ⟨A', c', w', r1, r2, r3, r4, r5⟩ := run_appRw (c := c) E M o.type hown hk hcs he h1 hlen hby
  have e := hw A' c' w' r4 r2 r3 r5
  unfold Oper.wp
  simp [execOp, ho, resolve, invoke, builtin, hs, hx, r1, Result.andThen]
  exact e
theorem wpList_appRw (E : ElemT S T sz by_ Z) (M : Mono R) (hgd : o.guard = none) (s x : Operand) (ho : o.op = .call { callee := .builtin .append, args := #[s, x], argTypes := #[S, S] })
    (hs : a.eval s = v) (hown : OwnRw T sz R w0 P v n l w) (hx : a.eval x = .slice A m c) {cs : List Value} (hk : k.length = m) (hcs : 0 < m → ∃ b o, A = some ⟨b, o, none⟩ ∧ w.rangeAt b o cs) (he : Each sz (R w fun b => P b ∧ some b ≠ v.ownBlock ∧ b < w.heap.size) cs k) (h1 : ∀ u ∈ cs, u.oneCell' = true) (hN : n + m = N) (hlen : n + m ≤ 1073741824) (hby : (n + m) * by_ ≤ 140737488355328)
    (hw : ∀ A' c' w', N ≤ c' → OwnRw T sz R w0 P (.slice A' N c') N (l ++ k) w' → w.grownBy w' v.ownBlock → (Value.ownBlock (.slice A' N c') = v.ownBlock ∨ Value.ownBlock (.slice A' N c') = some w.heap.size) → wpList Try.prog ops Q rest (a.put o.dst (.slice A' N c')) w') : wpList Try.prog ops Q (o :: rest) a w :=
  wpList_plain hgd fun _ hK => wp_appRw E M rfl s x ho hs hown hx hk hcs he h1 hN hlen hby fun A' c' w' h1 h2 h3 h4 => hK _ _ (hw A' c' w' h1 h2 h3 h4)
end
end Go.Proofs.Ytgnomopiofpknaa
