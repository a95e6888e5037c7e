/- A state as its cells, and what parts of a text are pieces. No condition. -/
import Derived.Test.YtbdjcbdnhaddoaaDoorGa
import Derived.Deep.MidRow
import Derived.WalkKit
import Derived.BigQuiet
import Derived.BigGuardPart
import Derived.Deep.QuietTactic
import Derived.WalkSpells
import Derived.LoopTactic
import Derived.StillTail

namespace Go.Proofs.YtbdjcbdnhaddoaaDoor
open Go.RowKit

/-! Splices. -/
theorem splice_mid {α : Type} {A B C D : List α} {k : Nat} (hk : A.length = k) (h : D.length = B.length) : splice (A ++ (B ++ C)) k D = A ++ (D ++ C) := by
  subst hk
  unfold splice
  rw [h, List.take_left, ← List.drop_drop, List.drop_left, List.drop_left]
theorem splice_in {α : Type} {A B C D : List α} {j k : Nat} (hk : A.length = j) (h : k + D.length ≤ B.length) : splice (A ++ (B ++ C)) (j + k) D = A ++ (splice B k D ++ C) := by
  subst hk
  unfold splice
  rw [List.take_length_add_append, List.take_append_of_le_length (by omega), Nat.add_assoc, ← List.drop_drop, List.drop_left, List.drop_append_of_le_length (by omega)]
  simp
theorem vals_splice (P M : List Nat) (k : Nat) : vals (splice P k M) = splice (vals P) k (vals M) := by simp [splice, vals, List.map_take, List.map_drop]
theorem splice_tail {α : Type} (A Z D : List α) (h : D.length ≤ Z.length) : splice (A ++ Z) A.length D = A ++ (D ++ Z.drop D.length) := by
  have _ := h
  unfold splice
  rw [List.take_left, ← List.drop_drop, List.drop_left]

/-! Parts of a text. -/
def rest (L : List Nat) : List Nat := L.drop (64 * (L.length / 64))
def partL (L : List Nat) : List Nat := rest L ++ List.replicate (64 - L.length % 64) 0
theorem rest_len (L : List Nat) : (rest L).length = L.length % 64 := by unfold rest; rw [List.length_drop]; omega
theorem partL_len (L : List Nat) : (partL L).length = 64 := by unfold partL; rw [List.length_append, rest_len, List.length_replicate]; omega
theorem allB_zeros (n : Nat) : AllB (List.replicate n 0) := fun x hx => by rw [List.eq_of_mem_replicate hx]; decide
theorem partL_byt {L : List Nat} (h : AllB L) : AllB (partL L) := AllB.app (fun x hx => h x (List.mem_of_mem_drop hx)) (allB_zeros _)
theorem part_nil : partL [] = List.replicate 64 0 := rfl
theorem pieces_pre (X Y : List Nat) : ∀ n, 64 * n ≤ X.length → pieces (X ++ Y) n = pieces X n
  | 0, _ => rfl
  | n + 1, h => by
    rw [pieces, pieces, pieces_pre X Y n (by omega), List.drop_append_of_le_length (by omega), List.take_append_of_le_length (by rw [List.length_drop]; omega)]
theorem comp_len (h p : List Nat) : (comp h p).length = 8 := rfl
theorem pieces_len (L : List Nat) : ∀ n, (pieces L n).length = 8
  | 0 => rfl
  | n + 1 => by rw [pieces, comp_len]
theorem part_add (X Y : List Nat) (h : X.length % 64 + Y.length < 64) : partL (X ++ Y) = splice (partL X) (X.length % 64) Y ∧ (X ++ Y).length / 64 = X.length / 64 := by
  have e : (X ++ Y).length / 64 = X.length / 64 := by rw [List.length_append]; omega
  refine ⟨?_, e⟩
  have h1 : rest (X ++ Y) = rest X ++ Y := by unfold rest; rw [e, List.drop_append_of_le_length (by omega)]
  unfold partL
  rw [h1, ← rest_len X, splice_tail _ _ _ (by rw [List.length_replicate, rest_len]; omega), List.drop_replicate, List.append_assoc, List.length_append, rest_len]
  congr 3
  omega
theorem part_full (X Y : List Nat) (h : X.length % 64 + Y.length = 64) : splice (partL X) (X.length % 64) Y = rest X ++ Y := by
  unfold partL
  rw [← rest_len X, splice_tail _ _ _ (by rw [List.length_replicate, rest_len]; omega), List.drop_replicate, rest_len, show 64 - X.length % 64 - Y.length = 0 by omega]
  simp
theorem piece_full (X Y : List Nat) (h : X.length % 64 + Y.length = 64) : pieces (X ++ Y) (X.length / 64 + 1) = comp (pieces X (X.length / 64)) (rest X ++ Y) := by
  rw [pieces, pieces_pre X Y _ (by omega), List.drop_append_of_le_length (by omega)]
  congr 1
  show (rest X ++ Y).take 64 = _
  rw [List.take_of_length_le (by rw [List.length_append, rest_len]; omega)]
theorem full_len (X Y : List Nat) (h : X.length % 64 + Y.length = 64) : (X ++ Y).length / 64 = X.length / 64 + 1 ∧ (X ++ Y).length % 64 = 0 ∧ partL (X ++ Y) = List.replicate 64 0 := by
  have e : (X ++ Y).length = 64 * (X.length / 64 + 1) := by rw [List.length_append]; omega
  refine ⟨by omega, by omega, ?_⟩
  have h1 : rest (X ++ Y) = [] := List.eq_nil_of_length_eq_zero (by rw [rest_len]; omega)
  unfold partL
  rw [h1, show 64 - (X ++ Y).length % 64 = 64 by omega]
  rfl
/-! What a text's end is. -/
theorem bits8_len (n : Nat) : (bits8 n).length = 8 := by simp [bits8]
def endA (L : List Nat) : List Nat := rest L ++ 128 :: List.replicate (55 - L.length % 64) 0
def endB (L : List Nat) : List Nat := rest L ++ 128 :: List.replicate (63 - L.length % 64) 0
theorem sha_short (L : List Nat) (h : L.length % 64 < 56) : shaS L = bytesS (comp (pieces L (L.length / 64)) (endA L ++ bits8 L.length)) := by
  have g : gapN L.length = 55 - L.length % 64 := by unfold gapN; omega
  have e : text L = L ++ (128 :: List.replicate (55 - L.length % 64) 0 ++ bits8 L.length) := by unfold text; rw [g, List.append_assoc]
  have hl : L.length % 64 + (128 :: List.replicate (55 - L.length % 64) 0 ++ bits8 L.length).length = 64 := by
    rw [List.length_append, bits8_len, List.length_cons, List.length_replicate]; omega
  unfold shaS
  rw [e, (full_len L _ hl).1, piece_full L _ hl]
  unfold endA
  rw [List.append_assoc]
theorem sha_long (L : List Nat) (h : 56 ≤ L.length % 64) : shaS L = bytesS (comp (comp (pieces L (L.length / 64)) (endB L)) (List.replicate 56 0 ++ bits8 L.length)) := by
  have g : gapN L.length = (63 - L.length % 64) + 56 := by unfold gapN; omega
  have e : text L = (L ++ (128 :: List.replicate (63 - L.length % 64) 0)) ++ (List.replicate 56 0 ++ bits8 L.length) := by
    unfold text; rw [g, ← List.replicate_append_replicate]; simp
  have hl : L.length % 64 + (128 :: List.replicate (63 - L.length % 64) 0).length = 64 := by
    rw [List.length_cons, List.length_replicate]; omega
  obtain ⟨f1, f2, f3⟩ := full_len L _ hl
  have hl2 : (L ++ (128 :: List.replicate (63 - L.length % 64) 0)).length % 64 + (List.replicate 56 0 ++ bits8 L.length).length = 64 := by
    rw [f2, List.length_append, bits8_len, List.length_replicate]
  have r0 : rest (L ++ (128 :: List.replicate (63 - L.length % 64) 0)) = [] := List.eq_nil_of_length_eq_zero (by rw [rest_len, f2])
  unfold shaS
  rw [e, (full_len _ _ hl2).1, piece_full _ _ hl2, r0, f1, piece_full L _ hl]
  rfl

/-! A state in memory. -/
def stV (W P : List Nat) (c : Nat) : List Value := u32s W ++ (vals P ++ [.int .u64 (c : Int)])
theorem stV_len {W P : List Nat} {c : Nat} (hW : W.length = 8) (hP : P.length = 64) : (stV W P c).length = 73 := by
  unfold stV; rw [List.length_append, List.length_append, u32s_len, vals_length, hW, hP]; rfl
theorem stV_one (W P : List Nat) (c : Nat) : ∀ u ∈ stV W P c, u.oneCell' = true := by
  intro u hu
  unfold stV at hu
  rcases List.mem_append.1 hu with h | h
  · exact u32s_one _ _ h
  rcases List.mem_append.1 h with h | h
  · exact vals_one _ _ h
  · rw [List.mem_singleton] at h; subst h; rfl
theorem stV_words {W W' P : List Nat} {c : Nat} (h : W'.length = W.length) : splice (stV W P c) 0 (u32s W') = stV W' P c := by
  unfold stV
  exact splice_mid (A := []) rfl (by rw [u32s_len, u32s_len, h])
theorem stV_part {W P P' : List Nat} {c : Nat} (hW : W.length = 8) (h : P'.length = P.length) : splice (stV W P c) 8 (vals P') = stV W P' c := by
  unfold stV
  exact splice_mid (by rw [u32s_len, hW]) (by rw [vals_length, vals_length, h])
theorem stV_in {W P M : List Nat} {c k : Nat} (hW : W.length = 8) (h : k + M.length ≤ P.length) : splice (stV W P c) (8 + k) (vals M) = stV W (splice P k M) c := by
  unfold stV
  rw [vals_splice]
  exact splice_in (by rw [u32s_len, hW]) (by rw [vals_length, vals_length]; exact h)
theorem stV_count {W P : List Nat} {c d : Nat} (hW : W.length = 8) (hP : P.length = 64) : (stV W P c).set 72 (.int .u64 (d : Int)) = stV W P d := by
  unfold stV
  rw [List.set_append_right _ _ (by rw [u32s_len]; omega), List.set_append_right _ _ (by rw [u32s_len, vals_length]; omega), u32s_len, vals_length, hW, hP]
  rfl
section
variable {w : World} {b c : Nat} {T : TypeId} {W P : List Nat}
theorem Ro.mid {A B C : List Value} {k : Nat} (h : Ro w b T (A ++ (B ++ C))) (hk : A.length = k) : w.rangeAt b k B := by
  subst hk
  intro j v hv
  have hj := (List.getElem?_eq_some_iff.1 hv).1
  exact h.cell (by rw [List.getElem?_append_right (Nat.le_add_right _ _), Nat.add_sub_cancel_left, List.getElem?_append_left hj]; exact hv)
theorem Ro.stW (h : Ro w b T (stV W P c)) : w.rangeAt b 0 (u32s W) := Ro.mid (A := []) h rfl
theorem Ro.stP (h : Ro w b T (stV W P c)) (hW : W.length = 8) : w.rangeAt b 8 (vals P) := Ro.mid h (by rw [u32s_len, hW])
theorem Ro.stC (h : Ro w b T (stV W P c)) (hW : W.length = 8) (hP : P.length = 64) : w.cell? ⟨b, 72, none⟩ = some (.int .u64 (c : Int)) := h.cell (by
  unfold stV
  rw [List.getElem?_append_right (by rw [u32s_len]; omega), List.getElem?_append_right (by rw [u32s_len, vals_length]; omega), u32s_len, vals_length, hW, hP]
  rfl)
end
section
variable {w : World} {ops : Array Oper} {rest : List Oper} {o : Oper} {a : Act} {Q : Exit → Act → World → Prop} {K : Act → World → Prop} {T S : TypeId} {n b k : Nat} {vs zs : List Value}
theorem wpList_load_part (hgd : o.guard = none) (x : Operand) (ho : o.op = .load T x) (hx : a.eval x = .pointer (some ⟨b, k, none⟩)) (hT : IsRow T n) (hr : w.rangeAt b k vs) (hl : vs.length = n)
    (h : wpList Tryd.prog ops Q rest (a.put o.dst (.agg vs.toArray)) w) : wpList Tryd.prog ops Q (o :: rest) a w := by
  obtain ⟨⟨f, h1⟩ | ⟨j, e, h1⟩, h3⟩ := hT
  · exact wpList_load_mid hgd T x ho b k hx vs _ hr h1 rfl (by rw [h3]; simp [hl]) h
  · exact wpList_load_mid hgd T x ho b k hx vs _ hr h1 rfl (by rw [h3]; simp [hl]) h
theorem wpList_store_part (hgd : o.guard = none) (x y : Operand) (ho : o.op = .store T x y) (hx : a.eval x = .pointer (some ⟨b, k, none⟩)) (hy : a.eval y = .agg vs.toArray) (hT : IsRow T n) (hr : Ro w b S zs) (hz : k + n ≤ zs.length) (hl : vs.length = n) (h1 : ∀ u ∈ vs, u.oneCell' = true)
    (h : ∀ w', Ro w' b S (splice zs k vs) → w.grownBy w' (some b) → wpList Tryd.prog ops Q rest (a.put o.dst undef) w') : wpList Tryd.prog ops Q (o :: rest) a w := by
  refine wpList_plain hgd fun K hK => ?_
  have e := hK _ _ (h _ (setRow_heap w b _ (zs.take k ++ (vs ++ zs.drop (k + vs.length))).toArray _ _ hr) (grownBy_setRow w b (zs.take k ++ (vs ++ zs.drop (k + vs.length))).toArray))
  have hst := run_storeCells_at (P := Tryd.prog) b k S vs 0 zs.toArray w hr (by simp; omega) h1
  have hs : (storeVar T ⟨b, k, none⟩ (.agg vs.toArray)).run Tryd.prog w = .ok () (w.setRow b (zs.take k ++ (vs ++ zs.drop (k + vs.length))).toArray) := by
    have hi := hT.info
    cases hq : Tryd.prog.info? T with
    | none => simp [hq] at hi
    | some i =>
      have hs : i.size = vs.length := by simp [hq] at hi; omega
      simp [storeVar, sizeOf, typeInfo, hq, Value.cells, hs, hst]
  unfold Oper.wp execOp
  simp only [ho, hx, hy, Instr.storeAt, Instr.sureAddr, Sem.run_bind, Sem.run_pure, Result.andThen_ok, hs]
  exact e
end
end Go.Proofs.YtbdjcbdnhaddoaaDoor

/- A region that leaves its order open, whose operations only read and whose callees make memory of their own and write nothing that was there: one walk in the order of the text serves every order. -/
namespace Go.Proofs.YtbdjcbdnhaddoaaDoor
open Go.RowKit

/-- A world behind W: of what lay in W nothing has turned. -/
structure After (W : World) where
  w : World
  below : Below W.heap.size W w

instance (W : World) : Nonempty (After W) := ⟨⟨W, Below.refl _ _⟩⟩

theorem After.cell {W : World} (u : After W) {a : Addr} {v : Value} (h : W.cell? a = some v) : u.w.cell? a = some v := cell_later u.below h

theorem after_call {P : Program} {f : FuncId} {args : Array Value} {W : World} {u : After W} {v : Value}
    (h : Calls P f args u.w fun e w' => e = .returned v ∧ Below u.w.heap.size u.w w') : Calls P f args u.w fun e w'' => e = .returned v ∧ ∃ u' : After W, w'' = u'.w :=
  h.mono fun _ w'' ⟨he, hb⟩ => ⟨he, ⟨w'', u.below.trans (hb.mono u.below.size)⟩, rfl⟩

theorem wp_region_after {P : Program} {id : Nat} {Q : Exit → Act → World → Prop} {a : Act} {W : World} {l : List Oper} (hm : P.follows .mixedOrders = true) (hB : Region.lexB .any l.toArray = true)
    (h : wpQuiet P l.toArray (fun w' => ∃ u : After W, w' = u.w) (fun a' => ∀ w', (∃ u : After W, w' = u.w) → Q .normal a' w') l a) : (Code.region id l.toArray true).wp P Q a W :=
  wp_region_quiet (C := fun w' => ∃ u : After W, w' = u.w) hm hB ⟨⟨{ W with drawn := W.drawn + 1 }, ⟨rfl, rfl, rfl, Nat.le_refl _, fun _ _ => rfl⟩⟩, rfl⟩ (by simpa using h)

end Go.Proofs.YtbdjcbdnhaddoaaDoor

/- A region that leaves its order open, whose operations read, call what makes memory of its own, and then lay new boxes and fill them: one walk of the reads and calls in the order of the text serves every order, if what stands behind holds however much memory has been made between. -/
namespace Go.Proofs.YtbdjcbdnhaddoaaDoor
open Go.RowKit

/-- The second world is the first one and new memory. -/
def Grows (w w' : World) : Prop := Below w.heap.size w w'
theorem Grows.refl (w : World) : Grows w w := Below.refl _ _
theorem Grows.trans {a b c : World} (h : Grows a b) (k : Grows b c) : Grows a c := Below.trans h (k.mono h.size)

section
variable {P : Program} {ops : Array Oper} {md : Region.Mode} {Q : Exit → Act → World → Prop} {W : World}

/-- Whatever order is picked from here on, and however much memory is made between two operations. -/
def wpK (P : Program) (md : Region.Mode) (ops : Array Oper) (Q : Exit → Act → World → Prop) (W : World) : Nat → Array Bool → Act → World → Prop
  | 0, listed, a, w => ∀ w', Grows w w' → Region.ready md ops listed = [] ∧ Q .normal a w'
  | f + 1, listed, a, w => ∀ w', Grows w w' → (Region.ready md ops listed = [] → Q .normal a w') ∧
      ∀ i ∈ Region.ready md ops listed, wpOp P ops Q i (fun a' w'' => Grows W w'' ∧ wpK P md ops Q W f (listed.setIfInBounds i true) a' w'') a w'

theorem wpK_later {f : Nat} {listed : Array Bool} {a : Act} {w w' : World} (h : wpK P md ops Q W f listed a w) (g : Grows w w') : wpK P md ops Q W f listed a w' := by
  cases f with
  | zero => exact fun w2 g2 => h w2 (g.trans g2)
  | succ f => exact fun w2 g2 => h w2 (g.trans g2)

theorem wpAny_of_wpK : ∀ (f : Nat) (listed : Array Bool) (a : Act) (w : World), wpK P md ops Q W f listed a w → wpAny P md ops Q f listed a w
  | 0, _, _, w, h => h w (.refl w)
  | f + 1, _, _, w, h => ⟨(h w (.refl w)).1, fun i hi => wpOp_mono (fun a' w' h' => wpAny_of_wpK f _ a' w' h'.2) ((h w (.refl w)).2 i hi)⟩

/-- In every world behind W the operation leaves the value v, and new memory at most. -/
def YieldsG (P : Program) (ops : Array Oper) (W : World) (o : Oper) (v : Value) (a : Act) : Prop :=
  (Region.wanted o (yielded ops a.tmps) = true ∧ ∀ w, Grows W w → o.quietAt P a (Grows w) w v) ∨ (Region.wanted o (yielded ops a.tmps) = false ∧ v = undef)

theorem YieldsG.wpOp {i : Nat} {o : Oper} {v : Value} {a : Act} {K : Act → World → Prop} {w : World} (hi : ops[i]? = some o) (hy : YieldsG P ops W o v a) (hw : Grows W w)
    (h : ∀ w', Grows w w' → K (a.put o.dst v) w') : wpOp P ops Q i K a w := by
  unfold Go.wpOp
  simp only [hi]
  rcases hy with ⟨want, hv⟩ | ⟨want, rfl⟩
  · simp only [want, if_true]
    refine .inl ?_
    have h3 := hv w hw
    unfold Oper.quietAt at h3
    unfold Oper.wp
    generalize (execOp a.eval o).run P w = r at *
    cases r with
    | halt x w' => exact h3.elim
    | ok n w' =>
      cases n <;> simp only [Oper.quietUpon] at h3 <;> simp only [Oper.upon]
      case value u => rw [h3.1, h3.2]; exact h _ (.refl _)
      case skip => rw [h3.1, ← h3.2]; exact h _ (.refl _)
      case enter f args =>
        rw [h3.1]
        exact h3.2.mono fun e w'' ⟨he, hw''⟩ => by subst he; exact h _ hw''
  · simp only [want, Bool.false_eq_true, if_false]; exact h _ (.refl _)

/-- What stays of a state whatever another operation writes, and that operation with a temporary more. -/
theorem wpOp_apart {j : Nat} {oi oj : Oper} {v : Value} {R : Act → Prop} (hj : ops[j]? = some oj) (hap : oi.apart ops oj = true) (hsj : ∀ cs b, oj.op ≠ .select cs b)
    (hQ : ∀ c a w, Q (.panic c) (a.put oi.dst v) w → Q (.panic c) a w) (hR : ∀ b u, R b → R (b.put oj.dst u)) (hD : ∀ (b : Act) d, R b → R { b with defers := d :: b.defers })
    {K : Act → World → Prop} {a : Act} {w : World} (ha : R a) (h : wpOp P ops Q j K (a.put oi.dst v) w) : wpOp P ops Q j (fun a' w' => R a' ∧ K (a'.put oi.dst v) w') a w := by
  obtain ⟨h1, h2, -⟩ := Oper.apart_spec hap
  have back : ∀ (b : Act) (u : Value) (w' : World), R b → K ((b.put oi.dst v).put oj.dst u) w' → R (b.put oj.dst u) ∧ K ((b.put oj.dst u).put oi.dst v) w' := fun b u w' hb hk =>
    ⟨hR b u hb, by rw [← Act.put_comm b v u h2]; exact hk⟩
  unfold wpOp at *
  simp only [hj] at *
  rw [wanted_put oj a oi.dst v h1] at h
  by_cases want : Region.wanted oj (yielded ops a.tmps) = true
  · rw [if_pos want] at h ⊢
    rcases h with h | ⟨asks, lets⟩
    · refine .inl ?_
      unfold Oper.wp at *
      rw [execOp_put oj hsj a oi.dst v h1] at h
      generalize (execOp a.eval oj).run P w = r at *
      cases r with
      | halt x w' =>
        cases x <;> simp only [Oper.upon] at h ⊢
        exact hQ _ _ _ h
      | ok n w' =>
        cases n <;> simp only [Oper.upon] at h ⊢
        case value u => exact back a u w' ha h
        case skip => exact back a undef w' ha h
        case defer d => exact back { a with defers := d :: a.defers } undef w' (hD a d ha) (by rw [← Act.put_defers]; exact h)
        case enter f args =>
          refine Calls.mono h fun e w'' he => ?_
          cases e with
          | returned u => exact back a u w'' ha he
          | panicked c => exact hQ _ _ _ he
          | outgrown => exact he
        case row row args => exact Rows.mono h fun u w'' he => back a u w'' ha he
    · refine .inr ⟨?_, lets⟩
      unfold Oper.asks at *
      rw [execOp_put oj hsj a oi.dst v h1] at asks
      exact asks
  · rw [if_neg want] at h ⊢
    exact back a undef w ha h

/-- An operation that may come up now, and yields its value in every world behind W, may be taken first. -/
theorem wpK_first {i : Nat} {oi : Oper} {v : Value} (hi : ops[i]? = some oi) (hsel : ∀ (j : Nat) (o : Oper) cs b, ops[j]? = some o → o.op ≠ .select cs b)
    (hQ : ∀ c a w, Q (.panic c) (a.put oi.dst v) w → Q (.panic c) a w) :
    ∀ (f : Nat) (listed : Array Bool) (a : Act) (w : World),
      (∀ j oj, ops[j]? = some oj → j ≠ i → listed.getD j true = false → (∀ e ∈ oj.after, Region.binds md e = true → e.on ≠ i) → oi.apart ops oj = true) →
      i ∈ Region.ready md ops listed → YieldsG P ops W oi v a → Grows W w →
      wpK P md ops Q W f (listed.setIfInBounds i true) (a.put oi.dst v) w → wpK P md ops Q W (f + 1) listed a w := by
  intro f
  induction f with
  | zero =>
    intro listed a w _ hr hy hW H w' g
    refine ⟨fun h => (by rw [h] at hr; cases hr), fun j hj => ?_⟩
    by_cases hji : j = i
    · subst hji
      exact hy.wpOp hi (hW.trans g) fun w'' g'' => ⟨hW.trans (g.trans g''), wpK_later H (g.trans g'')⟩
    · have := ready_mono hj hji
      rw [(H w (.refl w)).1] at this
      cases this
  | succ f ih =>
    intro listed a w hfree hr hy hW H w' g
    refine ⟨fun h => (by rw [h] at hr; cases hr), fun j hj => ?_⟩
    by_cases hji : j = i
    · subst hji
      exact hy.wpOp hi (hW.trans g) fun w'' g'' => ⟨hW.trans (g.trans g''), wpK_later H (g.trans g'')⟩
    · have h1 := (H w' g).2 j (ready_mono hj hji)
      obtain ⟨hjun, oj, hoj, hall⟩ := mem_ready.1 hj
      have iun := (mem_ready.1 hr).1
      have hnot : ∀ e ∈ oj.after, Region.binds md e = true → e.on ≠ i := fun e he hb heq => by
        have h1 := hall e he hb
        rw [heq] at h1
        rcases Nat.lt_or_ge i listed.size with h' | h'
        · simp [h'] at iun h1; rw [iun] at h1; cases h1
        · simp [Array.getElem?_eq_none h'] at h1
      have hap := hfree j oj hoj hji hjun hnot
      obtain ⟨-, -, h3⟩ := Oper.apart_spec hap
      have h2 := wpOp_apart (R := YieldsG P ops W oi v) hoj hap (fun cs b => hsel j oj cs b hoj) hQ
        (fun b u hb => by
          unfold YieldsG Oper.quietAt at *
          rw [execOp_put oi (fun cs b => hsel i oi cs b hi) b oj.dst u h3, wanted_put oi b oj.dst u h3]
          exact hb) (fun b d hb => hb) hy h1
      refine wpOp_mono (fun a' w'' h4 => ?_) h2
      refine ⟨h4.2.1, ih (listed.setIfInBounds j true) a' w'' (fun k ok hk hki hun hno => ?_) (ready_mono hr (Ne.symm hji)) h4.1 h4.2.1 ?_⟩
      · refine hfree k ok hk hki ?_ hno
        by_cases hjk : j = k
        · subst hjk; exact hjun
        · rw [getD_set_ne true hjk] at hun; exact hun
      · rw [Array.setIfInBounds_comm _ _ hji]
        exact h4.2.2

/-- The first operations, one by one: may each come up, and is each that may come ahead of it apart from it? -/
def preB (md : Region.Mode) (ops : Array Oper) : Nat → Nat → Array Bool → Bool
  | 0, _, _ => true
  | f + 1, k, listed => (Region.ready md ops listed).contains k && Region.free md ops listed k && preB md ops f (k + 1) (listed.setIfInBounds k true)
def preListed : Nat → Nat → Array Bool → Array Bool
  | 0, _, listed => listed
  | f + 1, k, listed => preListed f (k + 1) (listed.setIfInBounds k true)
/-- Each writes a temporary of its own. -/
def ownB (size : Nat) : List Oper → Bool
  | [] => true
  | o :: l => (match o.dst with | none => false | some d => decide (d < size) && l.all fun x => x.dst != some d) && ownB size l

/-- The worlds behind W, as the walks have them. -/
def behind (W : World) (w' : World) : Prop := ∃ u : After W, w' = u.w

theorem put_size (a : Act) (d : Option Tmp) (v : Value) : (a.put d v).tmps.size = a.tmps.size := by
  cases d <;> simp [Act.put]

theorem quiet_keeps {C : World → Prop} {fin : Act} {d : Nat} : ∀ (l : List Oper) (a : Act), (∀ x ∈ l, x.dst ≠ some d) → wpQuiet P ops C (fun a' => a' = fin) l a → fin.tmps[d]? = a.tmps[d]?
  | [], a, _, h => by have h : a = fin := h; rw [h]
  | o :: l, a, hd, h => by
    have key : ∀ v, (a.put o.dst v).tmps[d]? = a.tmps[d]? := fun v => by
      have hne := hd o (by simp)
      cases e : o.dst with
      | none => rfl
      | some k =>
        have : k ≠ d := fun h => hne (by rw [e, h])
        simp [Act.put, this]
    unfold wpQuiet at h
    split at h
    · obtain ⟨v, _, h2⟩ := h
      rw [quiet_keeps l _ (fun x hx => hd x (by simp [hx])) h2, key]
    · rw [quiet_keeps l _ (fun x hx => hd x (by simp [hx])) h, key]

theorem quietAt_grows {o : Oper} {a : Act} {w : World} {v : Value} (h : o.quietAt P a (behind w) w v) : o.quietAt P a (Grows w) w v := by
  unfold Oper.quietAt at *
  generalize (execOp a.eval o).run P w = r at *
  cases r with
  | halt x w' => exact h
  | ok n w' =>
    cases n <;> simp only [Oper.quietUpon] at h ⊢
    case value u => exact h
    case skip => exact h
    case enter f args => exact ⟨h.1, h.2.mono fun e w'' ⟨he, u, hu⟩ => ⟨he, by rw [hu]; exact u.below⟩⟩

theorem wpK_lex (hs : Region.noSelect ops = true) (hQ : ∀ c a (d : Tmp) v w, Q (.panic c) (Act.put a (some d) v) w → Q (.panic c) a w) {fin : Act} {f : Nat} :
    ∀ (l : List Oper) (k : Nat) (listed : Array Bool) (a : Act) (w : World), (∀ j, j < l.length → l[j]? = ops[k + j]?) → preB md ops l.length k listed = true → ownB a.tmps.size l = true → Grows W w →
    (∀ w', Grows W w' → wpQuiet P ops (behind w') (fun a' => a' = fin) l a) → wpK P md ops Q W f (preListed l.length k listed) fin w → wpK P md ops Q W (f + l.length) listed a w
  | [], k, listed, a, w, _, _, _, _, hq, h => by
    have e : a = fin := hq w ‹_›
    rw [e]; exact h
  | o :: l, k, listed, a, w, hl, hB, hO, hW, hq, h => by
    have h0 : ops[k]? = some o := by simpa using (hl 0 (by simp)).symm
    simp only [List.length_cons, preB, Bool.and_eq_true] at hB
    obtain ⟨⟨hr, hf⟩, hB'⟩ := hB
    simp only [ownB, Bool.and_eq_true] at hO
    obtain ⟨hO1, hO2⟩ := hO
    cases hd : o.dst with
    | none => rw [hd] at hO1; cases hO1
    | some d =>
      simp only [hd, Bool.and_eq_true, decide_eq_true_eq] at hO1
      obtain ⟨hlt, hno⟩ := hO1
      have hno' : ∀ x ∈ l, x.dst ≠ some d := fun x hx => by simpa using List.all_eq_true.1 hno x hx
      have hit : ∀ v, (a.put o.dst v).tmps[d]? = some v := fun v => by rw [hd]; simp [Act.put, hlt]
      have step : ∃ v, YieldsG P ops W o v a ∧ ∀ w', Grows W w' → wpQuiet P ops (behind w') (fun a' => a' = fin) l (a.put o.dst v) := by
        by_cases want : Region.wanted o (yielded ops a.tmps) = true
        · have hq2 : ∀ w', Grows W w' → o.quiet P a (behind w') (wpQuiet P ops (behind w') (fun a' => a' = fin) l) := fun w' g => by
            have := hq w' g
            unfold wpQuiet at this
            rwa [if_pos want] at this
          obtain ⟨v, _, hv2⟩ := hq2 w hW
          have ev := (quiet_keeps l _ hno' hv2).trans (hit v)
          have same : ∀ w', Grows W w' → (∀ u, behind w' u → o.quietAt P a (behind w') u v) ∧ wpQuiet P ops (behind w') (fun a' => a' = fin) l (a.put o.dst v) := fun w' g => by
            obtain ⟨v', hv1', hv2'⟩ := hq2 w' g
            have ev' := (quiet_keeps l _ hno' hv2').trans (hit v')
            have : v' = v := Option.some.inj (ev'.symm.trans ev)
            subst this
            exact ⟨hv1', hv2'⟩
          exact ⟨v, .inl ⟨want, fun w' g => quietAt_grows ((same w' g).1 w' ⟨⟨w', Below.refl _ _⟩, rfl⟩)⟩, fun w' g => (same w' g).2⟩
        · refine ⟨undef, .inr ⟨by simpa using want, rfl⟩, fun w' g => ?_⟩
          have := hq w' g
          unfold wpQuiet at this
          rwa [if_neg want] at this
      obtain ⟨v, hy, hq3⟩ := step
      have more := wpK_lex hs hQ (fin := fin) (f := f) l (k + 1) (listed.setIfInBounds k true) (a.put o.dst v) w (fun j hj => by have := hl (j + 1) (by simp; omega); simpa [Nat.add_assoc, Nat.add_comm 1 j] using this)
        hB' (by rw [put_size]; exact hO2) hW hq3 h
      exact wpK_first h0 (Region.noSelect_spec hs) (fun c a w h => hQ c a d v w (by rw [hd] at h; exact h)) (f + l.length) listed a w (Region.free_spec h0 hf) (by simpa using hr) hy hW more

/-- The reads and calls are walked in the order of the text; what is left over is asked of every world behind. -/
theorem wp_region_grow {id : Nat} {a : Act} {l : List Oper} (n : Nat) (hm : P.follows .mixedOrders = true) (hn : n ≤ l.length)
    (hB : (Region.noSelect l.toArray && preB .any l.toArray n 0 (Array.replicate l.length false)) = true) (hO : ownB a.tmps.size (l.take n) = true)
    (hQ : ∀ c a (d : Tmp) v w, Q (.panic c) (Act.put a (some d) v) w → Q (.panic c) a w)
    (h : ∃ fin, (∀ w', Grows W w' → wpQuiet P l.toArray (fun w'' => ∃ u : After w', w'' = u.w) (fun a' => a' = fin) (l.take n) a) ∧
      ∀ w', Grows W w' → wpK P .any l.toArray Q W (l.length - n) (preListed n 0 (Array.replicate l.length false)) fin w') : (Code.region id l.toArray true).wp P Q a W := by
  obtain ⟨fin, hq, ht⟩ := h
  simp only [Bool.and_eq_true] at hB
  have g0 : Grows W { W with drawn := W.drawn + 1 } := ⟨rfl, rfl, rfl, Nat.le_refl _, fun _ _ => rfl⟩
  have len : (l.take n).length = n := by simp; omega
  refine wp_region_any hm (wpAny_of_wpK (W := W) _ _ _ _ ?_)
  have := wpK_lex (md := .any) (Q := Q) (f := l.length - n) hB.1 hQ (l.take n) 0 (Array.replicate l.length false) a _ (fun j hj => by
    rw [len] at hj
    simp [hj]) (by rw [len]; exact hB.2) hO g0 hq (by rw [len]; exact ht _ g0)
  rw [len, show l.length - n + n = l.toArray.size by simp; omega] at this
  simpa using this

/-- One operation alone may come up. -/
theorem wpK_one {f i : Nat} {o : Oper} {listed : Array Bool} {a : Act} {w : World} (hr : Region.ready md ops listed = [i]) (ho : ops[i]? = some o) (hg : o.guard = none)
    (h : ∀ w', Grows w w' → ∀ K : Act → World → Prop, (∀ a' w'', Grows W w'' → wpK P md ops Q W f (listed.setIfInBounds i true) a' w'' → K a' w'') → o.wp P a w' K Q) :
    wpK P md ops Q W (f + 1) listed a w := fun w' g => by
  refine ⟨fun e => (by rw [hr] at e; cases e), fun j hj => ?_⟩
  rw [hr] at hj
  have hji : j = i := by simpa using hj
  subst hji
  unfold wpOp
  have want : Region.wanted o (yielded ops a.tmps) = true := by simp [Region.wanted, hg]
  simp only [ho, want, if_true]
  exact .inl (h w' g _ fun a' w'' g'' k => ⟨g'', k⟩)

/-- Either of two operations may come up. -/
theorem wpK_two {f i k : Nat} {o p : Oper} {listed : Array Bool} {a : Act} {w : World} (hr : Region.ready md ops listed = [i, k]) (ho : ops[i]? = some o) (hp : ops[k]? = some p) (hg : o.guard = none) (hgp : p.guard = none)
    (h : ∀ w', Grows w w' → ∀ K : Act → World → Prop, (∀ a' w'', Grows W w'' → wpK P md ops Q W f (listed.setIfInBounds i true) a' w'' → K a' w'') → o.wp P a w' K Q)
    (h2 : ∀ w', Grows w w' → ∀ K : Act → World → Prop, (∀ a' w'', Grows W w'' → wpK P md ops Q W f (listed.setIfInBounds k true) a' w'' → K a' w'') → p.wp P a w' K Q) :
    wpK P md ops Q W (f + 1) listed a w := fun w' g => by
  refine ⟨fun e => (by rw [hr] at e; cases e), fun j hj => ?_⟩
  rw [hr] at hj
  have want : Region.wanted o (yielded ops a.tmps) = true := by simp [Region.wanted, hg]
  have want2 : Region.wanted p (yielded ops a.tmps) = true := by simp [Region.wanted, hgp]
  rcases (by simpa using hj : j = i ∨ j = k) with rfl | rfl
  · unfold wpOp
    simp only [ho, want, if_true]
    exact .inl (h w' g _ fun a' w'' g'' k => ⟨g'', k⟩)
  · unfold wpOp
    simp only [hp, want2, if_true]
    exact .inl (h2 w' g _ fun a' w'' g'' k => ⟨g'', k⟩)

/-- None may come up any more. -/
theorem wpK_end {f : Nat} {listed : Array Bool} {a : Act} {w : World} (hr : Region.ready md ops listed = []) (h : ∀ w', Grows w w' → Q .normal a w') : wpK P md ops Q W f listed a w := by
  cases f with
  | zero => exact fun w' g => ⟨hr, h w' g⟩
  | succ f => exact fun w' g => ⟨fun _ => h w' g, fun i hi => by rw [hr] at hi; cases hi⟩

/-- Block b holds these cells, each of which may be written. -/
def Holds (w : World) (b : Nat) (c : Array Value) (T : TypeId) : Prop := w.heap[b]? = some (.cells c T (0, 0))
theorem Holds.cell {w : World} {b : Nat} {c : Array Value} {T : TypeId} (h : Holds w b c T) (q : Nat) : w.cell? ⟨b, q, none⟩ = c[q]? := by
  unfold Holds at h; simp [World.cell?, h]
theorem Holds.free {w : World} {b : Nat} {c : Array Value} {T : TypeId} (h : Holds w b c T) (q : Nat) : w.frozen? ⟨b, q, none⟩ = false := by
  unfold Holds at h; simp [World.frozen?, h]
theorem Holds.lt {w : World} {b : Nat} {c : Array Value} {T : TypeId} (h : Holds w b c T) : b < w.heap.size := by
  unfold Holds at h
  exact (Array.getElem?_eq_some_iff.1 h).1
theorem Holds.later {w w' : World} {b : Nat} {c : Array Value} {T : TypeId} (h : Holds w b c T) (g : Below w.heap.size w w') : Holds w' b c T := by
  unfold Holds at *
  rw [g.block b (Holds.lt h)]; exact h
theorem Holds.new (w : World) (c : Array Value) (T : TypeId) : Holds (w.alloc (.cells c T)) w.heap.size c T := by
  show (w.heap.push _)[w.heap.size]? = _
  simp
theorem Holds.set {w : World} {b q : Nat} {c : Array Value} {T : TypeId} (h : Holds w b c T) (v : Value) : Holds (w.setCell ⟨b, q, none⟩ v) b (c.setIfInBounds q v) T := by
  unfold Holds at *
  show (w.heap.modify b _)[b]? = _
  rw [Array.getElem?_modify, if_pos rfl, h]
  rfl
theorem Holds.other {w : World} {b k q : Nat} {c : Array Value} {T : TypeId} (h : Holds w b c T) (hk : k ≠ b) (v : Value) : Holds (w.setCell ⟨k, q, none⟩ v) b c T := by
  unfold Holds at *
  rw [Below.heap_setCell _ _ _ _ (by simpa using fun e => hk e.symm)]
  exact h

/-- A new box, laid by the one operation that may come up. -/
theorem wpK_box1 {f i : Nat} {o : Oper} {d : Tmp} {c : Array Value} {T : TypeId} {listed : Array Bool} {a : Act} {w : World} (hr : Region.ready md ops listed = [i]) (ho : ops[i]? = some o) (hg : o.guard = none) (hd : o.dst = some d)
    (hz : ∀ w, (execOp a.eval o).run P w = .ok (.value (.pointer (some ⟨w.heap.size, 0, none⟩))) (w.alloc (.cells c T))) (hW : Grows W w)
    (h : ∀ (B : Nat) (w' : World), Grows w w' → w.heap.size ≤ B → Holds w' B c T → wpK P md ops Q W f (listed.setIfInBounds i true) (a.put (some d) (.pointer (some ⟨B, 0, none⟩))) w') :
    wpK P md ops Q W (f + 1) listed a w := by
  refine wpK_one hr ho hg fun w' g K hK => ?_
  unfold Oper.wp
  rw [hz w']
  simp only [Oper.upon]
  have g2 : Grows w' (w'.alloc (.cells c T)) := (Below.refl _ _).alloc (Nat.le_refl _) _
  rw [hd]
  exact hK _ _ ((hW.trans g).trans g2) (h _ _ (g.trans g2) g.size (Holds.new _ _ _))

/-- Two new boxes, laid in either order. -/
theorem wpK_box2 {f i k : Nat} {o p : Oper} {d e : Tmp} {c c2 : Array Value} {T T2 : TypeId} {listed : Array Bool} {a : Act} {w : World} (hr : Region.ready md ops listed = [i, k]) (hri : Region.ready md ops (listed.setIfInBounds i true) = [k])
    (hrk : Region.ready md ops (listed.setIfInBounds k true) = [i]) (hik : i ≠ k) (ho : ops[i]? = some o) (hp : ops[k]? = some p) (hg : o.guard = none) (hgp : p.guard = none) (hd : o.dst = some d) (he : p.dst = some e) (hde : d ≠ e)
    (hz : ∀ a w, (execOp (Act.eval a) o).run P w = .ok (.value (.pointer (some ⟨w.heap.size, 0, none⟩))) (w.alloc (.cells c T)))
    (hzp : ∀ a w, (execOp (Act.eval a) p).run P w = .ok (.value (.pointer (some ⟨w.heap.size, 0, none⟩))) (w.alloc (.cells c2 T2))) (hW : Grows W w)
    (h : ∀ (B C : Nat) (w' : World), Grows w w' → w.heap.size ≤ B → w.heap.size ≤ C → B ≠ C → Holds w' B c T → Holds w' C c2 T2 →
      wpK P md ops Q W f ((listed.setIfInBounds i true).setIfInBounds k true) ((a.put (some d) (.pointer (some ⟨B, 0, none⟩))).put (some e) (.pointer (some ⟨C, 0, none⟩))) w') :
    wpK P md ops Q W (f + 2) listed a w := by
  have gr : ∀ (w : World) (x : Obj), Grows w (w.alloc x) := fun w x => (Below.refl _ _).alloc (Nat.le_refl _) _
  refine wpK_two (f := f + 1) hr ho hp hg hgp (fun w1 g1 K hK => ?_) (fun w1 g1 K hK => ?_)
  · unfold Oper.wp
    rw [hz a w1]
    simp only [Oper.upon]
    have n1 := Holds.new w1 c T
    rw [hd]
    refine hK _ _ ((hW.trans g1).trans (gr _ _)) (wpK_one hri hp hgp fun w2 g2 K hK => ?_)
    unfold Oper.wp
    rw [hzp _ w2]
    simp only [Oper.upon]
    rw [he]
    have s1 := g1.size
    have n2 := n1.later g2
    refine hK _ _ (((hW.trans g1).trans (gr _ _)).trans (g2.trans (gr _ _))) (h _ _ _ ((g1.trans (gr _ _)).trans (g2.trans (gr _ _))) s1 ?_ ?_ (n2.later (gr _ _)) (Holds.new _ _ _))
    · have := n2.lt; omega
    · have := n2.lt; omega
  · unfold Oper.wp
    rw [hzp a w1]
    simp only [Oper.upon]
    have n1 := Holds.new w1 c2 T2
    rw [he]
    refine hK _ _ ((hW.trans g1).trans (gr _ _)) (wpK_one hrk ho hg fun w2 g2 K hK => ?_)
    unfold Oper.wp
    rw [hz _ w2]
    simp only [Oper.upon]
    rw [hd]
    have s1 := g1.size
    have n2 := n1.later g2
    refine hK _ _ (((hW.trans g1).trans (gr _ _)).trans (g2.trans (gr _ _))) ?_
    rw [Array.setIfInBounds_comm _ _ (Ne.symm hik), Act.put_comm _ _ _ (fun x hx => by cases hx; intro h; exact hde (Option.some.inj h))]
    refine h _ _ _ ((g1.trans (gr _ _)).trans (g2.trans (gr _ _))) ?_ s1 ?_ (Holds.new _ _ _) (n2.later (gr _ _))
    · have := n2.lt; omega
    · have := n2.lt; omega

end
end Go.Proofs.YtbdjcbdnhaddoaaDoor

/- Lists of words of 32 bits in memory, as XB has them for bytes. No condition. -/
namespace Go.Proofs.YtbdjcbdnhaddoaaDoor
open Go.RowKit

theorem Tryd.infoWord : (Tryd.prog.info? 22).map (fun i => (i.zero, i.size, i.bytes)) = some (some (.int .u32 0), 1, 4) := by kernel_rfl
def AllW (_ : List Nat) : Prop := True
theorem AllW.app {L M : List Nat} (_ : AllW L) (_ : AllW M) : AllW (L ++ M) := trivial
theorem AllW.left {L M : List Nat} (_ : AllW (L ++ M)) : AllW L := trivial
theorem allW_nil : AllW [] := trivial
theorem allW_one {x : Nat} (_ : x < 4294967296) : AllW [x] := trivial
theorem u32s_append (L M : List Nat) : u32s (L ++ M) = u32s L ++ u32s M := by simp [u32s]
theorem u32s_get? {L : List Nat} {k : Nat} {u : Value} (h : (u32s L)[k]? = some u) : k < L.length ∧ u = .int .u32 (nth L k : Nat) := by
  have hk : k < L.length := by have := (List.getElem?_eq_some_iff.1 h).1; rwa [u32s_len] at this
  rw [u32s_get L k hk] at h
  exact ⟨hk, (Option.some.inj h).symm⟩

/-- A slice at A of n elements reads as the bytes L. -/
structure Ws (w : World) (A : Option Addr) (n : Nat) (L : List Nat) : Prop where
  len : L.length = n
  byt : AllW L
  cel : 0 < n → ∃ a, A = some a ∧ a.block < w.heap.size ∧ ∀ k, k < n → w.cell? (a.add k) = some (.int .u32 (nth L k : Nat))
theorem Ws.nil (w : World) (A : Option Addr) : Ws w A 0 [] := ⟨rfl, allW_nil, fun h => absurd h (by omega)⟩
theorem Ws.later {w w1 : World} {A : Option Addr} {n : Nat} {L : List Nat} (h : Ws w A n L) (g : Below w.heap.size w w1) : Ws w1 A n L :=
  ⟨h.len, h.byt, fun hn => by
    obtain ⟨a, e, hb, hc⟩ := h.cel hn
    exact ⟨a, e, Nat.lt_of_lt_of_le hb g.size, fun k hk => by rw [← hc k hk]; exact g.cell (by rw [add_block]; exact hb)⟩⟩
theorem Ws.far {w w1 : World} {A : Option Addr} {n : Nat} {L : List Nat} {row : Option Nat} (h : Ws w A n L) (g : w.grownBy w1 row) (hr : ∀ a, A = some a → some a.block ≠ row) : Ws w1 A n L :=
  ⟨h.len, h.byt, fun hn => by
    obtain ⟨a, e, hb, hc⟩ := h.cel hn
    exact ⟨a, e, Nat.lt_of_lt_of_le hb g.size, fun k hk => g.cell (hc k hk) (by rw [add_block]; exact hr a e)⟩⟩
theorem Ws.cells {w : World} {a : Addr} {n : Nat} {L : List Nat} (h : Ws w (some a) n L) : ∀ j u, (u32s L)[j]? = some u → w.cell? (a.add j) = some u := by
  intro j u hu
  obtain ⟨hj, rfl⟩ := u32s_get? hu
  have hl := h.len
  obtain ⟨b, e, _, hc⟩ := h.cel (by omega)
  injection e with e
  subst e
  exact hc j (by omega)
/-- A part of a slice, from k on, m long, as the walk spells its address. -/
theorem Ws.cut {w : World} {A : Option Addr} {n c : Nat} {L : List Nat} (h : Ws w A n L) {k m : Nat} (hk : k + m ≤ n) (hc : n ≤ c) :
    Ws w (if c = k then A else A.map (·.add k)) m ((L.drop k).take m) := by
  have hl := h.len
  refine ⟨by simp; omega, trivial, fun hm => ?_⟩
  obtain ⟨a, rfl, hb, hcel⟩ := h.cel (by omega)
  rw [if_neg (by omega)]
  refine ⟨a.add k, rfl, by rw [add_block]; exact hb, fun j hj => ?_⟩
  rw [add_add', hcel (k + j) (by omega)]
  have : nth ((L.drop k).take m) j = nth L (k + j) := by
    simp [nth, List.getD, hj]
  rw [this]
theorem Ws.head {w : World} {A : Option Addr} {n : Nat} {L M : List Nat} (h : Ws w A n (L ++ M)) {m : Nat} (hm : L.length = m) : Ws w A m L := by
  have hl := h.len
  rw [List.length_append] at hl
  refine ⟨hm, h.byt.left, fun hp => ?_⟩
  obtain ⟨a, e, hb, hc⟩ := h.cel (by omega)
  exact ⟨a, e, hb, fun k hk => by rw [hc k (by omega), nth_left (by omega)]⟩

/-- v is a row of the call's own that reads as L; of what lay in w0 nothing has turned. -/
structure Wn (w0 : World) (v : Value) (n : Nat) (L : List Nat) (wr : World) : Prop where
  row : wr.ownsRow w0.heap.size 22 1 v n (u32s L)
  byt : AllW L
  bel : Below w0.heap.size w0 wr
theorem Wn.len {w0 wr : World} {v : Value} {n : Nat} {L : List Nat} (h : Wn w0 v n L wr) : L.length = n := by
  have := h.row.1
  rw [u32s_len] at this; omega
theorem Wn.later {w0 wr w1 : World} {v : Value} {n : Nat} {L : List Nat} (h : Wn w0 v n L wr) (g : Below wr.heap.size wr w1) : Wn w0 v n L w1 :=
  ⟨ownsRow_later h.row g, h.byt, h.bel.trans (g.mono h.bel.size)⟩
theorem Wn.size {w0 wr : World} {v : Value} {n : Nat} {L : List Nat} (h : Wn w0 v n L wr) : w0.heap.size ≤ wr.heap.size := h.bel.size
theorem Wn.reads {w0 wr : World} {A : Option Addr} {n c : Nat} {L : List Nat} (h : Wn w0 (.slice A n c) n L wr) : Ws wr A n L := by
  have hl := h.len
  refine ⟨hl, h.byt, fun hn => ?_⟩
  obtain ⟨g, cap, hv, _, hlt⟩ := h.row.form hn
  have hA : A = some ⟨g, 0, none⟩ := by injection hv
  subst hA
  exact ⟨_, rfl, hlt, fun k hk => h.row.cells (g := g) rfl k _ (u32s_get L k (by omega))⟩
theorem Wn.shape {w0 wr : World} {v : Value} {n : Nat} {L : List Nat} (h : Wn w0 v n L wr) : ∃ A c, v = .slice A n c ∧ n ≤ c := by
  rcases h.row.2 with ⟨rfl, rfl⟩ | ⟨g, cap, cur, rfl, _, _, hc, _⟩
  · exact ⟨none, 0, rfl, Nat.le_refl _⟩
  · exact ⟨_, _, rfl, hc⟩
/-- The row's block is none of what lay in w0. -/
theorem Wn.new {w0 wr : World} {v : Value} {n : Nat} {L : List Nat} (h : Wn w0 v n L wr) : ∀ k, v.ownBlock = some k → w0.heap.size ≤ k ∧ k < wr.heap.size := h.row.lt
theorem Wn.grown {w0 wr w1 : World} {v v' : Value} {n m : Nat} {L M : List Nat} (h : Wn w0 v n L wr) (hM : AllW M) (hown : w1.ownsRow w0.heap.size 22 1 v' (n + m) (u32s L ++ u32s M)) (hg : wr.grownBy w1 v.ownBlock) : Wn w0 v' (n + m) (L ++ M) w1 :=
  ⟨by rw [u32s_append]; exact hown, h.byt.app hM, h.bel.grown hg h.bel.size (fun k hk => (h.new k hk).1)⟩
theorem Wn.weaken {w0 w2 wr : World} {v : Value} {n : Nat} {L : List Nat} (h : Wn w2 v n L wr) (b : Below w0.heap.size w0 w2) : Wn w0 v n L wr :=
  ⟨by
    obtain ⟨h1, h2⟩ := h.row
    refine ⟨h1, ?_⟩
    rcases h2 with h2 | ⟨g, cap, cur, hv, hb, hh, r⟩
    · exact Or.inl h2
    · exact Or.inr ⟨g, cap, cur, hv, Nat.le_trans b.size hb, hh, r⟩, h.byt, b.trans (h.bel.mono b.size)⟩

/-- A list of a literal. -/
theorem Ws.lit (w : World) (L : List Nat) (h : AllW L) : Ws (w.alloc (.cells (u32s L).toArray 22)) (some ⟨w.heap.size, 0, none⟩) L.length L := by
  refine ⟨rfl, h, fun _ => ⟨_, rfl, by simp, fun k hk => ?_⟩⟩
  have e : (⟨w.heap.size, 0, none⟩ : Addr).add k = ⟨w.heap.size, k, none⟩ := by unfold Addr.add; split <;> simp_all
  rw [e]
  have hh := heap_alloc_new w (.cells (u32s L).toArray 22)
  unfold World.cell?
  simp only [hh]
  simpa using u32s_get L k hk
theorem Ws.lit1 (w : World) {x : Nat} (h : x < 4294967296) : Ws (w.alloc (.cells #[.int .u32 (x : Int)] 22)) (some ⟨w.heap.size, 0, none⟩) 1 [x] := Ws.lit w [x] (allW_one h)
/-- A new row, empty, of whatever capacity. -/
theorem Wn.made {w0 w : World} (b : Below w0.heap.size w0 w) (cur : Array Value) (cap : Nat) (hm : cap ≤ maxLen) (hs : cur.size = cap) :
    Wn w0 (.slice (some ⟨w.heap.size, 0, none⟩) 0 cap) 0 [] (w.alloc (.cells cur 22)) :=
  ⟨World.ownsRow_made w cur cap b.size hm (by omega), allW_nil, b.alloc b.size _⟩
theorem Wn.full {w0 w : World} (b : Below w0.heap.size w0 w) (L : List Nat) (hL : AllW L) (cap : Nat) (hm : cap ≤ maxLen) (cur : Array Value) (hs : cur.size = cap) (hn : L.length ≤ cap) (ht : cur.toList.take L.length = u32s L)
    {g : Nat} (hg : w0.heap.size ≤ g) (hw : w.heap[g]? = some (.cells cur 22 (0, 0))) :
    Wn w0 (.slice (some ⟨g, 0, none⟩) L.length cap) L.length L w :=
  ⟨⟨by rw [u32s_len]; omega, .inr ⟨g, cap, cur, rfl, hg, hw, hn, hm, by omega, by simpa using ht⟩⟩, hL, b⟩

section
variable {w0 w : World} {ops : Array Oper} {rest : List Oper} {o : Oper} {a : Act} {Q : Exit → Act → World → Prop}
/-- append onto a row of the call's own. -/
theorem wp_appw {K : Act → World → Prop} (s x : Operand) (ho : o.op = .call { callee := .builtin .append, args := #[s, x], argTypes := #[93, 93] })
    {v : Value} {n : Nat} {L : List Nat} (hs : a.eval s = v) (hown : Wn w0 v n L w) {A : Option Addr} {m c : Nat} {M : List Nat} (hx : a.eval x = .slice A m c) (hr : Ws w A m M) (hlen : n + m ≤ 1099511627776)
    (h : ∀ A' c' w', n + m ≤ c' → Wn w0 (.slice A' (n + m) c') (n + m) (L ++ M) w' → w.grownBy w' v.ownBlock → K (a.put o.dst (.slice A' (n + m) c')) w') : o.wp Tryd.prog a w K Q := by
  obtain ⟨i0, hi, hz0, hz1, hz2⟩ := info_parts Tryd.infoWord
  have key : ∀ v' w', Wn w0 v' (n + m) (L ++ M) w' → w.grownBy w' v.ownBlock → K (a.put o.dst v') w' := fun v' w' h1 h2 => by
    obtain ⟨A', c', rfl, hc⟩ := h1.shape
    exact h A' c' w' hc h1 h2
  have hsz := hown.size
  rcases A with _ | ad
  · obtain rfl : m = 0 := by
      rcases Nat.eq_zero_or_pos m with h0 | h0
      · exact h0
      · obtain ⟨_, e, _⟩ := hr.cel h0
        cases e
    obtain rfl : M = [] := List.eq_nil_of_length_eq_zero hr.len
    have hrun : (Builtin.append_ #[93, 93] o.type #[v, .slice none 0 c]).run Tryd.prog w = .ok v w := by
      rcases hown.row.2 with ⟨rfl, rfl⟩ | ⟨g, cap, cur, rfl, _, _, hnc, _⟩
      · simp [Builtin.append_, run_underlying Tryd.underlying93, sizeOf, typeInfo, hi, Builtin.lenOf, Builtin.firstCells]
      · simp [Builtin.append_, run_underlying Tryd.underlying93, sizeOf, typeInfo, hi, Builtin.lenOf, Builtin.firstCells, hnc, storeCells]
    unfold Oper.wp
    simp [execOp, ho, resolve, invoke, builtin, hs, hx, hrun, Result.andThen]
    exact key v w (by simpa using hown) (World.grownBy.refl _ _)
  · refine wp_append_own w s x 93 ho w0.heap.size 22 i0 (.int .u32 0) 1 4 Tryd.underlying93 hi hz0 hz1 hz2 rfl (by decide) v n (u32s L) hs hown.row ad m c (u32s M) hx (by rw [u32s_len, hr.len]; omega) hr.cells (u32s_one M) (by unfold maxLen; omega) (by omega) hsz ?_
    intro v' w' h1 h2 _
    exact key v' w' (hown.grown hr.byt h1 h2) h2
theorem wpList_appw (hgd : o.guard = none) (s x : Operand) (ho : o.op = .call { callee := .builtin .append, args := #[s, x], argTypes := #[93, 93] })
    {v : Value} {n : Nat} {L : List Nat} (hs : a.eval s = v) (hown : Wn w0 v n L w) {A : Option Addr} {m c : Nat} {M : List Nat} (hx : a.eval x = .slice A m c) (hr : Ws w A m M) (hlen : n + m ≤ 1099511627776)
    (h : ∀ A' c' w', n + m ≤ c' → Wn w0 (.slice A' (n + m) c') (n + m) (L ++ M) w' → w.grownBy w' v.ownBlock → wpList Tryd.prog ops Q rest (a.put o.dst (.slice A' (n + m) c')) w') : wpList Tryd.prog ops Q (o :: rest) a w :=
  wpList_plain hgd fun _ hK => wp_appw s x ho hs hown hx hr hlen fun A' c' w' h1 h2 h3 => hK _ _ (h A' c' w' h1 h2 h3)
theorem step_appw {K : Act → World → Prop} {E : Prop} (hgd : o.guard = none) (s x : Operand) (ho : o.op = .call { callee := .builtin .append, args := #[s, x], argTypes := #[93, 93] })
    {v : Value} {n : Nat} {L : List Nat} (hs : a.eval s = v) (hown : Wn w0 v n L w) {A : Option Addr} {m c : Nat} {M : List Nat} (hx : a.eval x = .slice A m c) (hr : Ws w A m M) (hlen : n + m ≤ 1099511627776)
    (h : ∀ A' c' w', n + m ≤ c' → Wn w0 (.slice A' (n + m) c') (n + m) (L ++ M) w' → w.grownBy w' v.ownBlock → K (a.put o.dst (.slice A' (n + m) c')) w') :
    if Region.wanted o (yielded ops a.tmps) = true then Oper.wp Tryd.prog o a w K Q else E := by
  have hw : Region.wanted o (yielded ops a.tmps) = true := by simp [Region.wanted, hgd]
  rw [if_pos hw]
  exact wp_appw s x ho hs hown hx hr hlen h
theorem wpList_appw_eq (hgd : o.guard = none) (s x : Operand) (ho : o.op = .call { callee := .builtin .append, args := #[s, x], argTypes := #[93, 93] })
    {v : Value} {n : Nat} {L : List Nat} (hs : a.eval s = v) (hown : Wn w0 v n L w) {A : Option Addr} {m m' c : Nat} {M : List Nat} (hx : a.eval x = .slice A m' c) (e : m' = m) (hr : Ws w A m M) (hlen : n + m ≤ 1099511627776)
    (h : ∀ A' c' w', n + m ≤ c' → Wn w0 (.slice A' (n + m) c') (n + m) (L ++ M) w' → w.grownBy w' v.ownBlock → wpList Tryd.prog ops Q rest (a.put o.dst (.slice A' (n + m) c')) w') : wpList Tryd.prog ops Q (o :: rest) a w := by
  subst e; exact wpList_appw hgd s x ho hs hown hx hr hlen h
end

end Go.Proofs.YtbdjcbdnhaddoaaDoor

/- Eight words as 32 bytes, as the code does it. No condition. -/
namespace Go.Proofs.YtbdjcbdnhaddoaaDoor
open Go.RowKit

theorem Tryd.info33 : (Tryd.prog.info? 22).map (·.size) = some 1 := by kernel_rfl
theorem Tryd.agg33 (w : World) : (isAgg 22).run Tryd.prog w = .ok false w := by kernel_rfl
theorem run_index34 {L : List Nat} (hl : L.length = 8) (w : World) {t : Nat} (ht : t < 8) : (Instr.index 86 (.agg (u32s L).toArray) (.int .i64 (t : Int))).run Tryd.prog w = .ok (.int .u32 (nth L t : Nat)) w := by
  have h1 : (u32s L)[t]? = some (.int .u32 (nth L t : Nat)) := u32s_get L t (by omega)
  have hi := Tryd.info33
  cases hq : Tryd.prog.info? 22 with
  | none => simp [hq] at hi
  | some i =>
    have hs : i.size = 1 := by simpa [hq] using hi
    simp [Instr.index, asIntOf, run_underlying Tryd.underlying86, ht, part, Sem.run_bind, sizeOf, typeInfo, hq, hs, h1]
theorem bytesS_len (h : List Nat) : (bytesS h).length = 32 := by simp [bytesS]
theorem byteAt_lt (h : List Nat) (i : Nat) : byteAt h i < 256 := Nat.mod_lt _ (by decide)
theorem bytesS_byt (h : List Nat) : AllB (bytesS h) := fun x hx => by
  simp only [bytesS, List.mem_map] at hx
  obtain ⟨i, _, rfl⟩ := hx
  exact byteAt_lt h i
def byT (h : List Nat) (i : Nat) : List Nat := (List.range i).map (byteAt h)
theorem byT_len (h : List Nat) (i : Nat) : (byT h i).length = i := by simp [byT]
theorem byT_next (h : List Nat) (i : Nat) : byT h (i + 1) = byT h i ++ [byteAt h i] := by simp [byT, List.range_succ]
theorem byT_full (h : List Nat) : upW (byT h 32) 32 = bytesS h := upW_full (byT_len h 32)
structure BoA (w : World) (h : List Nat) (i : Nat) (wr : World) : Prop where
  a : Ro wr w.heap.size 86 (u32s h)
  r : Ro wr (w.heap.size + 1) 32 (vals (List.replicate 32 0))
  o : Ro wr (w.heap.size + 2) 32 (vals (upW (byT h i) 32))
  bel : Below w.heap.size w wr
theorem BoA.step {w : World} {h : List Nat} {i x : Nat} {wr : World} (s : BoA w h i wr) (hi : i < 32) (hx : x = byteAt h i) : BoA w h (i + 1) (wr.setCell ⟨w.heap.size + 2, i, none⟩ (.int .u8 (x : Int))) := by
  refine ⟨s.a.other (by omega) _, s.r.other (by omega) _, ?_, s.bel.setCell (by simp) _⟩
  have h1 := s.o.set8 i x
  have h2 := upW_set (W := byT h i) (n := 32) x (by rw [byT_len]; exact hi)
  rw [byT_len] at h2
  rw [h2, hx, ← byT_next] at h1
  rw [hx]
  exact h1
theorem BoA.start (w : World) (h : List Nat) : BoA w h 0 (((w.alloc (.cells (u32s h).toArray 86)).alloc (.cells (vals (List.replicate 32 0)).toArray 32)).alloc (.cells (vals (List.replicate 32 0)).toArray 32)) := by
  refine ⟨((Ro.new w _ _).alloc _).alloc _, ?_, ?_, (((Below.refl _ _).alloc (Nat.le_refl _) _).alloc (by simp) _).alloc (by simp; omega) _⟩
  · have := (Ro.new (w.alloc (.cells (u32s h).toArray 86)) 32 (vals (List.replicate 32 0))).alloc (.cells (vals (List.replicate 32 0)).toArray 32)
    rwa [World.size_alloc] at this
  · have := Ro.new ((w.alloc (.cells (u32s h).toArray 86)).alloc (.cells (vals (List.replicate 32 0)).toArray 32)) 32 (vals (List.replicate 32 0))
    rw [World.size_alloc, World.size_alloc] at this
    exact this
theorem byte_at {h : List Nat} {t j x : Nat} (hj : j < 4) (hx : nth h t = x) : byteAt h (4 * t + j) = x / 2 ^ (24 - 8 * j) % 256 := by
  unfold byteAt
  rw [show (4 * t + j) / 4 = t by omega, show (4 * t + j) % 4 = j by omega, hx]

set_option maxRecDepth 100000 in
set_option maxHeartbeats 4000000 in
theorem bytesOf_any {h : List Nat} (hh : h.length = 8) (w : World) : Calls Tryd.prog 78 #[.agg (u32s h).toArray] w fun e w' => e = .returned (.agg (vals (bytesS h)).toArray) ∧ Below w.heap.size w w' := by
  have HH := Lib.hid hh
  have ix := fun w t => run_index34 (t := t) HH.out w
  clear hh
  go_enter Tryd.func78, Tryd.ntmps78
  go_wp2_with (refine wpList_load_ro rfl (.tmp 1) rfl rfl row34 (BoA.start w h).a (by rw [u32s_len, HH.out]) ?_)
  go_loopw [7] (fun i wr => ∃ t : Nat, t ≤ 8 ∧ i = .int .i64 (t : Nat) ∧ BoA w h (4 * t) wr) (fun i _ => 8 - (intOf i).toNat)
  case atStart => exact ⟨0, by omega, rfl, BoA.start w h⟩
  case round =>
    obtain ⟨t, ht, rfl, S⟩ := hrel
    by_cases hlt : t < 8
    · have t1 : decide ((t : Int) < 8) = true := decide_eq_true (by omega)
      have i1 := fun w => ix w t hlt
      obtain ⟨x, hx⟩ : ∃ x, nth h t = x := ⟨_, rfl⟩
      rw [hx] at i1
      have c0 := S.o.u8 (k := 4 * t) (by rw [upW_len (by rw [byT_len]; omega)]; omega)
      have c1 := S.o.u8 (k := 4 * t + 1) (by rw [upW_len (by rw [byT_len]; omega)]; omega)
      have c2 := S.o.u8 (k := 4 * t + 2) (by rw [upW_len (by rw [byT_len]; omega)]; omega)
      have c3 := S.o.u8 (k := 4 * t + 3) (by rw [upW_len (by rw [byT_len]; omega)]; omega)
      have f0 := S.o.free (4 * t)
      have f1 := S.o.free (4 * t + 1)
      have f2 := S.o.free (4 * t + 2)
      have f3 := S.o.free (4 * t + 3)
      have e0 := byte_at (j := 0) (by decide) hx
      have e1 := byte_at (j := 1) (by decide) hx
      have e2 := byte_at (j := 2) (by decide) hx
      have e3 := byte_at (j := 3) (by decide) hx
      have HE : Hid (BoA w h (4 * (t + 1)) ((((wr.setCell ⟨w.heap.size + 2, 4 * t, none⟩ (.int .u8 ((x / 16777216 % 256 : Nat) : Int))).setCell ⟨w.heap.size + 2, 4 * t + 1, none⟩ (.int .u8 ((x / 65536 % 256 : Nat) : Int))).setCell ⟨w.heap.size + 2, 4 * t + 2, none⟩ (.int .u8 ((x / 256 % 256 : Nat) : Int))).setCell ⟨w.heap.size + 2, 4 * t + 3, none⟩ (.int .u8 ((x % 256 : Nat) : Int)))) :=
        Lib.hid ((((S.step (by omega) e0.symm).step (by omega) e1.symm).step (by omega) e2.symm).step (by omega) (by rw [e3]; simp))
      clear hx S e0 e1 e2 e3 ix
      go_wp2_with fail
      exact ⟨⟨t + 1, by omega, by go_num, HE.out⟩, by simp [intOf]; omega⟩
    · obtain rfl : t = 8 := by omega
      have o1 := S.o
      rw [byT_full] at o1
      have O1 := Lib.hid o1
      have HS := Lib.hid S
      clear o1 S ix
      go_wp2_with (first | (refine wpList_load_ro rfl (.tmp 3) rfl rfl row26 O1.out (by rw [vals_length, bytesS_len]) ?_) | (refine wpList_store_ro rfl (.tmp 2) (.tmp 38) rfl rfl rfl row26 HS.out.r (by simp [vals]) (by rw [vals_length, bytesS_len]) (vals_one _) ?_))
      intro w4 R4 g4
      go_wp2_with fail
      exact bodyPost_ret (results_ro Tryd.results78 _ rfl row26 R4 (by rw [vals_length, bytesS_len])) rfl ⟨rfl, HS.out.bel.grown g4 HS.out.bel.size (fun q e => by cases e; omega)⟩
end Go.Proofs.YtbdjcbdnhaddoaaDoor

/- The reference's text of bytes. No condition but a bound on the length. -/
namespace Go.Proofs.YtbdjcbdnhaddoaaDoor
open Go.RowKit

def textA (L : List Nat) (j : Nat) : List Nat := L ++ 128 :: List.replicate j 0
theorem textA_len (L : List Nat) (j : Nat) : (textA L j).length = L.length + 1 + j := by unfold textA; rw [List.length_append, List.length_cons, List.length_replicate]; omega
theorem textA_next (L : List Nat) (j : Nat) : textA L j ++ [0] = textA L (j + 1) := by
  unfold textA
  rw [List.append_assoc, List.cons_append, ← List.replicate_append_replicate (n := j) (m := 1)]
  rfl
def lenOf' : Value → Nat | .slice _ n _ => n | _ => 0
theorem textA_one (L : List Nat) : L ++ [128] = textA L 0 := rfl
theorem text_eq (L : List Nat) : text L = textA L (gapN L.length) ++ bits8 L.length := rfl
theorem bits8_take (n t : Nat) (h : t < 8) : (bits8 n).take (t + 1) = (bits8 n).take t ++ [n * 8 % 18446744073709551616 / 2 ^ (56 - 8 * t) % 256] := by
  rw [List.take_add_one]
  congr 1
  have : (bits8 n)[t]? = some (n * 8 % 18446744073709551616 / 2 ^ (56 - 8 * t) % 256) := by simp [bits8, h]
  rw [this]
  rfl

theorem Bs.litE (w : World) {V : Int} {x : Nat} (hV : V = (x : Int)) (h : x < 256) : Bs (w.alloc (.cells #[.int .u8 V] 5)) (some ⟨w.heap.size, 0, none⟩) 1 [x] := by subst hV; exact Bs.lit1 w h

set_option maxRecDepth 100000 in
set_option maxHeartbeats 4000000 in
theorem text_any {A : Option Addr} {n c : Nat} {L : List Nat} (w : World) (hn : n ≤ 549755813888) (hL : Bs w A n L) : Calls Tryd.prog 66 #[.slice A n c] w (GivesB w (text L)) := by
  have HL := Lib.hid hL
  have HN := Lib.hid hL.len
  clear hL
  go_enter Tryd.func66, Tryd.ntmps66
  go_wp2_with (at_builtin; refine wpList_app rfl _ _ rfl rfl (Own.made (Below.refl _ _) _ _ ?c1 ?c2) rfl (HL.out.later ((Below.refl _ _).alloc (Nat.le_refl _) _)) ?c3 ?_)
  case c1 => decide
  case c2 => rfl
  case c3 => omega
  intro A1 c1 w1 hc1 h1 _
  have O1 := Lib.hid h1
  clear h1
  go_wp2_with (at_builtin; refine wpList_app rfl _ _ rfl rfl (O1.out.later ((Below.refl _ _).alloc (Nat.le_refl _) _)) rfl (Bs.lit1 _ (x := 128) (by decide)) ?d3 ?_)
  case d3 => omega
  intro A2 c2 w2 hc2 h2 _
  have O2 : Hid (Own w (.slice A2 (n + 1) c2) (n + 1) (textA L 0) w2) := Lib.hid h2
  clear h2 O1
  go_wp2_with fail
  go_loopw [3] (fun v wr => ∃ (j : Nat) (A' : Option Addr) (c' : Nat), j ≤ gapN n ∧ v = .slice A' (n + 1 + j) c' ∧ Own w (.slice A' (n + 1 + j) c') (n + 1 + j) (textA L j) wr) (fun v _ => gapN n - (lenOf' v - n - 1))
  case atStart => exact ⟨0, A2, c2, Nat.zero_le _, rfl, O2.out⟩
  case round =>
    clear O2
    obtain ⟨j, A', c', hj, rfl, O⟩ := hrel
    have HO := Lib.hid O
    clear O
    have g64 : gapN n < 64 := Nat.mod_lt _ (by decide)
    have gf := gap_full n
    by_cases hlt : j < gapN n
    · have e1 : ¬ (((n + 1 + j : Nat) : Int) % 64 = 56) := by unfold gapN at *; omega
      have t1 : decide (((n + 1 + j : Nat) : Int) % 64 = 56) = false := decide_eq_false e1
      have t2 : (((n + 1 + j : Nat) : Int) % 64 != 56) = true := by rw [bne_iff_ne]; exact e1
      go_wp2_with (at_builtin; refine wpList_app rfl _ _ rfl rfl (HO.out.later ((Below.refl _ _).alloc (Nat.le_refl _) _)) rfl (Bs.lit1 _ (x := 0) (by decide)) ?d3 ?_)
      case d3 => omega
      intro A3 c3 w3 hc3 h3 _
      have O3 := Lib.hid h3
      clear h3
      go_wp2_with fail
      exact ⟨⟨j + 1, A3, c3, by omega, rfl, by rw [← textA_next]; exact O3.out⟩, by simp [lenOf']; omega⟩
    · obtain rfl : j = gapN n := by omega
      obtain ⟨j, hjj⟩ : ∃ j, gapN n = j := ⟨_, rfl⟩
      rw [hjj] at HO g64 gf ⊢
      have e1 : ((n + 1 + j : Nat) : Int) % 64 = 56 := by omega
      have t1 : decide (((n + 1 + j : Nat) : Int) % 64 = 56) = true := decide_eq_true e1
      have t2 : (((n + 1 + j : Nat) : Int) % 64 != 56) = false := by simp only [bne_eq_false_iff_eq]; exact e1
      have HJ := Lib.hid hjj
      have LJ : n + 1 + j + 8 ≤ 1099511627776 := by omega
      clear hlt gf hjj hj
      have E0 : Hid (Own w (.slice A' (n + 1 + j + 0) c') (n + 1 + j + 0) (textA L j ++ (bits8 n).take 0) wr) := Lib.hid (by rw [List.take_zero, List.append_nil]; exact HO.out)
      clear HO
      go_wp2_with fail
      have t3 : (((n : Int) + 1 + (j : Int)) % 64 != 56) = false := by simp only [bne_eq_false_iff_eq]; omega
      rw [t3]
      clear t1 t2 e1 t3
      go_loopw [3, 5] (fun v i wr => ∃ (t : Nat) (A' : Option Addr) (c' : Nat), t ≤ 8 ∧ v = .slice A' (n + 1 + j + t) c' ∧ i = .int .i64 (7 - (t : Int)) ∧ Own w (.slice A' (n + 1 + j + t) c') (n + 1 + j + t) (textA L j ++ (bits8 n).take t) wr) (fun _ i _ => (intOf i + 1).toNat)
      case atStart => exact ⟨0, A', c', by omega, rfl, rfl, E0.out⟩
      case round =>
        clear E0
        obtain ⟨t, A4, c4, ht, rfl, rfl, O⟩ := hrel
        have HQ := Lib.hid O
        clear O
        by_cases hlt : t < 8
        · have BT := Lib.hid (bits8_take n t hlt)
          have z8 : t = 0 ∨ t = 1 ∨ t = 2 ∨ t = 3 ∨ t = 4 ∨ t = 5 ∨ t = 6 ∨ t = 7 := by omega
          clear hlt ht
          rcases z8 with rfl | rfl | rfl | rfl | rfl | rfl | rfl | rfl
          · go_wp2_with (at_builtin; refine wpList_app rfl _ _ rfl rfl (HQ.out.later ((Below.refl _ _).alloc (Nat.le_refl _) _)) rfl (Bs.litE _ (x := n * 8 % 18446744073709551616 / 72057594037927936 % 256) ?e1 (Nat.mod_lt _ (by decide))) ?e2 ?_)
            case e1 => omega
            case e2 => omega
            intro A3 c3 w3 hc3 h3 _
            have O3 := Lib.hid h3
            clear h3
            go_wp2_with fail
            exact ⟨⟨1, A3, c3, by omega, rfl, rfl, by have h := O3.out; rw [BT.out, ← List.append_assoc]; first | exact h | simpa using h⟩, by simp [intOf]⟩
          · go_wp2_with (at_builtin; refine wpList_app rfl _ _ rfl rfl (HQ.out.later ((Below.refl _ _).alloc (Nat.le_refl _) _)) rfl (Bs.litE _ (x := n * 8 % 18446744073709551616 / 281474976710656 % 256) ?e1 (Nat.mod_lt _ (by decide))) ?e2 ?_)
            case e1 => omega
            case e2 => omega
            intro A3 c3 w3 hc3 h3 _
            have O3 := Lib.hid h3
            clear h3
            go_wp2_with fail
            exact ⟨⟨2, A3, c3, by omega, rfl, rfl, by have h := O3.out; rw [BT.out, ← List.append_assoc]; first | exact h | simpa using h⟩, by simp [intOf]⟩
          · go_wp2_with (at_builtin; refine wpList_app rfl _ _ rfl rfl (HQ.out.later ((Below.refl _ _).alloc (Nat.le_refl _) _)) rfl (Bs.litE _ (x := n * 8 % 18446744073709551616 / 1099511627776 % 256) ?e1 (Nat.mod_lt _ (by decide))) ?e2 ?_)
            case e1 => omega
            case e2 => omega
            intro A3 c3 w3 hc3 h3 _
            have O3 := Lib.hid h3
            clear h3
            go_wp2_with fail
            exact ⟨⟨3, A3, c3, by omega, rfl, rfl, by have h := O3.out; rw [BT.out, ← List.append_assoc]; first | exact h | simpa using h⟩, by simp [intOf]⟩
          · go_wp2_with (at_builtin; refine wpList_app rfl _ _ rfl rfl (HQ.out.later ((Below.refl _ _).alloc (Nat.le_refl _) _)) rfl (Bs.litE _ (x := n * 8 % 18446744073709551616 / 4294967296 % 256) ?e1 (Nat.mod_lt _ (by decide))) ?e2 ?_)
            case e1 => omega
            case e2 => omega
            intro A3 c3 w3 hc3 h3 _
            have O3 := Lib.hid h3
            clear h3
            go_wp2_with fail
            exact ⟨⟨4, A3, c3, by omega, rfl, rfl, by have h := O3.out; rw [BT.out, ← List.append_assoc]; first | exact h | simpa using h⟩, by simp [intOf]⟩
          · go_wp2_with (at_builtin; refine wpList_app rfl _ _ rfl rfl (HQ.out.later ((Below.refl _ _).alloc (Nat.le_refl _) _)) rfl (Bs.litE _ (x := n * 8 % 18446744073709551616 / 16777216 % 256) ?e1 (Nat.mod_lt _ (by decide))) ?e2 ?_)
            case e1 => omega
            case e2 => omega
            intro A3 c3 w3 hc3 h3 _
            have O3 := Lib.hid h3
            clear h3
            go_wp2_with fail
            exact ⟨⟨5, A3, c3, by omega, rfl, rfl, by have h := O3.out; rw [BT.out, ← List.append_assoc]; first | exact h | simpa using h⟩, by simp [intOf]⟩
          · go_wp2_with (at_builtin; refine wpList_app rfl _ _ rfl rfl (HQ.out.later ((Below.refl _ _).alloc (Nat.le_refl _) _)) rfl (Bs.litE _ (x := n * 8 % 18446744073709551616 / 65536 % 256) ?e1 (Nat.mod_lt _ (by decide))) ?e2 ?_)
            case e1 => omega
            case e2 => omega
            intro A3 c3 w3 hc3 h3 _
            have O3 := Lib.hid h3
            clear h3
            go_wp2_with fail
            exact ⟨⟨6, A3, c3, by omega, rfl, rfl, by have h := O3.out; rw [BT.out, ← List.append_assoc]; first | exact h | simpa using h⟩, by simp [intOf]⟩
          · go_wp2_with (at_builtin; refine wpList_app rfl _ _ rfl rfl (HQ.out.later ((Below.refl _ _).alloc (Nat.le_refl _) _)) rfl (Bs.litE _ (x := n * 8 % 18446744073709551616 / 256 % 256) ?e1 (Nat.mod_lt _ (by decide))) ?e2 ?_)
            case e1 => omega
            case e2 => omega
            intro A3 c3 w3 hc3 h3 _
            have O3 := Lib.hid h3
            clear h3
            go_wp2_with fail
            exact ⟨⟨7, A3, c3, by omega, rfl, rfl, by have h := O3.out; rw [BT.out, ← List.append_assoc]; first | exact h | simpa using h⟩, by simp [intOf]⟩
          · go_wp2_with (at_builtin; refine wpList_app rfl _ _ rfl rfl (HQ.out.later ((Below.refl _ _).alloc (Nat.le_refl _) _)) rfl (Bs.litE _ (x := n * 8 % 18446744073709551616 / 1 % 256) ?e1 (Nat.mod_lt _ (by decide))) ?e2 ?_)
            case e1 => omega
            case e2 => omega
            intro A3 c3 w3 hc3 h3 _
            have O3 := Lib.hid h3
            clear h3
            go_wp2_with fail
            exact ⟨⟨8, A3, c3, by omega, rfl, rfl, by have h := O3.out; rw [BT.out, ← List.append_assoc]; first | exact h | simpa using h⟩, by simp [intOf]⟩
        · obtain rfl : t = 8 := by omega
          go_wp2_with fail
          go_ret
          refine ⟨A4, _, c4, rfl, ?_, ?_⟩
          · have h := HQ.out.shape
            obtain ⟨a, b, h1, h2⟩ := h
            injection h1 with _ _ h3
            omega
          · have h := HQ.out
            rw [List.take_of_length_le (by rw [bits8_len]; exact Nat.le_refl _)] at h
            rw [text_eq, HN.out, HJ.out]
            exact h
end Go.Proofs.YtbdjcbdnhaddoaaDoor

/- A region that leaves its order open, whose first operations read and call what makes memory of its own; the last ones wait for all of these, come in one order, and may write what was there. -/
namespace Go.Proofs.YtbdjcbdnhaddoaaDoor
open Go.RowKit

section
variable {P : Program} {ops : Array Oper} {md : Region.Mode} {Q : Exit → Act → World → Prop} {W : World} {n g : Nat}

/-- Whatever order is picked, down to the last operations. -/
def wpL (P : Program) (md : Region.Mode) (ops : Array Oper) (Q : Exit → Act → World → Prop) (W : World) (n g : Nat) : Nat → Array Bool → Act → World → Prop
  | 0, listed, a, w => (∀ j ∈ Region.ready md ops listed, n ≤ j) ∧ ∀ w', Grows w w' → wpAny P md ops Q g listed a w'
  | f + 1, listed, a, w => ∀ w', Grows w w' → Region.ready md ops listed ≠ [] ∧
      ∀ i ∈ Region.ready md ops listed, i < n ∧ wpOp P ops Q i (fun a' w'' => Grows W w'' ∧ wpL P md ops Q W n g f (listed.setIfInBounds i true) a' w'') a w'

theorem wpL_later {f : Nat} {listed : Array Bool} {a : Act} {w w' : World} (h : wpL P md ops Q W n g f listed a w) (k : Grows w w') : wpL P md ops Q W n g f listed a w' := by
  cases f with
  | zero => exact ⟨h.1, fun w2 g2 => h.2 w2 (k.trans g2)⟩
  | succ f => exact fun w2 g2 => h w2 (k.trans g2)

theorem wpAny_of_wpL : ∀ (f : Nat) (listed : Array Bool) (a : Act) (w : World), wpL P md ops Q W n g f listed a w → wpAny P md ops Q (f + g) listed a w
  | 0, listed, a, w, h => by rw [Nat.zero_add]; exact h.2 w (.refl w)
  | f + 1, _, _, w, h => by
    rw [show f + 1 + g = (f + g) + 1 by omega]
    exact ⟨fun e => absurd e (h w (.refl w)).1, fun i hi => wpOp_mono (fun a' w' h' => wpAny_of_wpL f _ a' w' h'.2) ((h w (.refl w)).2 i hi).2⟩

/-- Whatever order is picked, for f steps none of the last operations may come up. -/
def reachB (md : Region.Mode) (ops : Array Oper) (n : Nat) : Nat → Array Bool → Bool
  | 0, _ => true
  | f + 1, listed => (Region.ready md ops listed).all fun j => decide (j < n) && reachB md ops n f (listed.setIfInBounds j true)
theorem reachB_ready {f : Nat} {listed : Array Bool} (h : reachB md ops n (f + 1) listed = true) {j : Nat} (hj : j ∈ Region.ready md ops listed) : j < n ∧ reachB md ops n f (listed.setIfInBounds j true) = true := by
  have := List.all_eq_true.1 h j hj
  simp only [Bool.and_eq_true, decide_eq_true_eq] at this
  exact this

theorem wpL_first {i : Nat} {oi : Oper} {v : Value} (hi : ops[i]? = some oi) (hsel : ∀ (j : Nat) (o : Oper) cs b, ops[j]? = some o → o.op ≠ .select cs b)
    (hQ : ∀ c a w, Q (.panic c) (a.put oi.dst v) w → Q (.panic c) a w) (hit : i < n) :
    ∀ (f : Nat) (listed : Array Bool) (a : Act) (w : World), reachB md ops n (f + 1) listed = true →
      (∀ j oj, ops[j]? = some oj → j ≠ i → listed.getD j true = false → (∀ e ∈ oj.after, Region.binds md e = true → e.on ≠ i) → oi.apart ops oj = true) →
      i ∈ Region.ready md ops listed → YieldsG P ops W oi v a → Grows W w →
      wpL P md ops Q W n g f (listed.setIfInBounds i true) (a.put oi.dst v) w → wpL P md ops Q W n g (f + 1) listed a w := by
  have away : ∀ (listed : Array Bool) (j : Nat) (oj : Oper), i ∈ Region.ready md ops listed → ops[j]? = some oj → (∀ e ∈ oj.after, Region.binds md e = true → listed.getD e.on false = true) → ∀ e ∈ oj.after, Region.binds md e = true → e.on ≠ i := by
    intro listed j oj hr _ hall e he hb heq
    have iun := (mem_ready.1 hr).1
    have h1 := hall e he hb
    rw [heq] at h1
    rcases Nat.lt_or_ge i listed.size with h' | h'
    · simp [h'] at iun h1; rw [iun] at h1; cases h1
    · simp [Array.getElem?_eq_none h'] at h1
  intro f
  induction f with
  | zero =>
    intro listed a w hre _ hr hy hW H w' k
    refine ⟨fun h => (by rw [h] at hr; cases hr), fun j hj => ?_⟩
    by_cases hji : j = i
    · subst hji
      exact ⟨hit, hy.wpOp hi (hW.trans k) fun w'' g'' => ⟨hW.trans (k.trans g''), wpL_later H (k.trans g'')⟩⟩
    · have h1 := H.1 j (ready_mono hj hji)
      have h2 := (reachB_ready hre hj).1
      omega
  | succ f ih =>
    intro listed a w hre hfree hr hy hW H w' k
    refine ⟨fun h => (by rw [h] at hr; cases hr), fun j hj => ?_⟩
    by_cases hji : j = i
    · subst hji
      exact ⟨hit, hy.wpOp hi (hW.trans k) fun w'' g'' => ⟨hW.trans (k.trans g''), wpL_later H (k.trans g'')⟩⟩
    · have h1 := ((H w' k).2 j (ready_mono hj hji)).2
      obtain ⟨hjun, oj, hoj, hall⟩ := mem_ready.1 hj
      have hap := hfree j oj hoj hji hjun (away listed j oj hr hoj hall)
      obtain ⟨-, -, h3⟩ := Oper.apart_spec hap
      have h2 := wpOp_apart (R := YieldsG P ops W oi v) hoj hap (fun cs b => hsel j oj cs b hoj) hQ
        (fun b u hb => by
          unfold YieldsG Oper.quietAt at *
          rw [execOp_put oi (fun cs b => hsel i oi cs b hi) b oj.dst u h3, wanted_put oi b oj.dst u h3]
          exact hb) (fun b d hb => hb) hy h1
      refine ⟨(reachB_ready hre hj).1, wpOp_mono (fun a' w'' h4 => ?_) h2⟩
      refine ⟨h4.2.1, ih (listed.setIfInBounds j true) a' w'' (reachB_ready hre hj).2 (fun k ok hk hki hun hno => ?_) (ready_mono hr (Ne.symm hji)) h4.1 h4.2.1 ?_⟩
      · refine hfree k ok hk hki ?_ hno
        by_cases hjk : j = k
        · subst hjk; exact hjun
        · rw [getD_set_ne true hjk] at hun; exact hun
      · rw [Array.setIfInBounds_comm _ _ hji]
        exact h4.2.2

theorem wpL_lex (hs : Region.noSelect ops = true) (hQ : ∀ c a (d : Tmp) v w, Q (.panic c) (Act.put a (some d) v) w → Q (.panic c) a w) {fin : Act} {f : Nat} :
    ∀ (l : List Oper) (k : Nat) (listed : Array Bool) (a : Act) (w : World), k + l.length ≤ n → reachB md ops n (f + l.length) listed = true → (∀ j, j < l.length → l[j]? = ops[k + j]?) → preB md ops l.length k listed = true → ownB a.tmps.size l = true → Grows W w →
    (∀ w', Grows W w' → wpQuiet P ops (behind w') (fun a' => a' = fin) l a) → wpL P md ops Q W n g f (preListed l.length k listed) fin w → wpL P md ops Q W n g (f + l.length) listed a w
  | [], k, listed, a, w, _, _, _, _, _, hW, hq, h => by
    have e : a = fin := hq w hW
    rw [e]; exact h
  | o :: l, k, listed, a, w, hkt, hre, hl, hB, hO, hW, hq, h => by
    have h0 : ops[k]? = some o := by simpa using (hl 0 (by simp)).symm
    simp only [List.length_cons, preB, Bool.and_eq_true] at hB
    obtain ⟨⟨hr, hf⟩, hB'⟩ := hB
    simp only [ownB, Bool.and_eq_true] at hO
    obtain ⟨hO1, hO2⟩ := hO
    simp only [List.length_cons] at hkt
    have hre' : reachB md ops n (f + l.length + 1) listed = true := hre
    cases hd : o.dst with
    | none => rw [hd] at hO1; cases hO1
    | some d =>
      simp only [hd, Bool.and_eq_true, decide_eq_true_eq] at hO1
      obtain ⟨hlt, hno⟩ := hO1
      have hno' : ∀ x ∈ l, x.dst ≠ some d := fun x hx => by simpa using List.all_eq_true.1 hno x hx
      have hit : ∀ v, (a.put o.dst v).tmps[d]? = some v := fun v => by rw [hd]; simp [Act.put, hlt]
      have step : ∃ v, YieldsG P ops W o v a ∧ ∀ w', Grows W w' → wpQuiet P ops (behind w') (fun a' => a' = fin) l (a.put o.dst v) := by
        by_cases want : Region.wanted o (yielded ops a.tmps) = true
        · have hq2 : ∀ w', Grows W w' → o.quiet P a (behind w') (wpQuiet P ops (behind w') (fun a' => a' = fin) l) := fun w' g => by
            have := hq w' g
            unfold wpQuiet at this
            rwa [if_pos want] at this
          obtain ⟨v, _, hv2⟩ := hq2 w hW
          have ev := (quiet_keeps l _ hno' hv2).trans (hit v)
          have same : ∀ w', Grows W w' → (∀ u, behind w' u → o.quietAt P a (behind w') u v) ∧ wpQuiet P ops (behind w') (fun a' => a' = fin) l (a.put o.dst v) := fun w' g => by
            obtain ⟨v', hv1', hv2'⟩ := hq2 w' g
            have ev' := (quiet_keeps l _ hno' hv2').trans (hit v')
            have : v' = v := Option.some.inj (ev'.symm.trans ev)
            subst this
            exact ⟨hv1', hv2'⟩
          exact ⟨v, .inl ⟨want, fun w' g => quietAt_grows ((same w' g).1 w' ⟨⟨w', Below.refl _ _⟩, rfl⟩)⟩, fun w' g => (same w' g).2⟩
        · refine ⟨undef, .inr ⟨by simpa using want, rfl⟩, fun w' g => ?_⟩
          have := hq w' g
          unfold wpQuiet at this
          rwa [if_neg want] at this
      obtain ⟨v, hy, hq3⟩ := step
      have more := wpL_lex hs hQ (fin := fin) (f := f) l (k + 1) (listed.setIfInBounds k true) (a.put o.dst v) w (by omega) (reachB_ready hre' (by simpa using hr)).2
        (fun j hj => by have := hl (j + 1) (by simp; omega); simpa [Nat.add_assoc, Nat.add_comm 1 j] using this) hB' (by rw [put_size]; exact hO2) hW hq3 h
      exact wpL_first h0 (Region.noSelect_spec hs) (fun c a w h => hQ c a d v w (by rw [hd] at h; exact h)) (by omega) (f + l.length) listed a w hre' (Region.free_spec h0 hf) (by simpa using hr) hy hW more

/-- The reads and calls are walked in the order of the text, then the last operations, in every world behind. -/
theorem wp_region_last {id : Nat} {a : Act} {l : List Oper} (n : Nat) (hm : P.follows .mixedOrders = true) (hn : n ≤ l.length)
    (hB : (Region.noSelect l.toArray && preB .any l.toArray n 0 (Array.replicate l.length false) && reachB .any l.toArray n (0 + n) (Array.replicate l.length false)) = true) (hO : ownB a.tmps.size (l.take n) = true)
    (hr : (Region.ready .any l.toArray (preListed n 0 (Array.replicate l.length false))).all (fun j => decide (n ≤ j)) = true) (hseq : Region.seqB .any l.toArray (l.drop n).length n (preListed n 0 (Array.replicate l.length false)) = true)
    (hQ : ∀ c a (d : Tmp) v w, Q (.panic c) (Act.put a (some d) v) w → Q (.panic c) a w)
    (h : ∃ fin, (∀ w', Grows W w' → wpQuiet P l.toArray (fun w'' => ∃ u : After w', w'' = u.w) (fun a' => a' = fin) (l.take n) a) ∧
      ∀ w', Grows W w' → wpList P l.toArray Q (l.drop n) fin w') : (Code.region id l.toArray true).wp P Q a W := by
  obtain ⟨fin, hq, ht⟩ := h
  simp only [Bool.and_eq_true] at hB
  obtain ⟨⟨hB1, hB2⟩, hB3⟩ := hB
  have g0 : Grows W { W with drawn := W.drawn + 1 } := ⟨rfl, rfl, rfl, Nat.le_refl _, fun _ _ => rfl⟩
  have len : (l.take n).length = n := by simp; omega
  refine wp_region_any hm ?_
  have := wpL_lex (md := .any) (Q := Q) (n := n) (g := (l.drop n).length) (f := 0) hB1 hQ (l.take n) 0 (Array.replicate l.length false) a _ (by rw [len]; omega) (by rw [len]; exact hB3) (fun j hj => by
    rw [len] at hj
    simp [hj]) (by rw [len]; exact hB2) hO g0 hq (by
    rw [len]
    refine ⟨fun j hj => of_decide_eq_true (List.all_eq_true.1 hr j hj), fun w' k => ?_⟩
    exact wpAny_of_seq (md := .any) (Q' := Q) (l.drop n) n _ fin w' (fun j => by simp [List.getElem?_drop]) hseq (ht w' (g0.trans k)))
  have k := wpAny_of_wpL _ _ _ _ this
  rw [len, show 0 + n + (l.drop n).length = l.toArray.size by simp; omega] at k
  simpa using k

end
end Go.Proofs.YtbdjcbdnhaddoaaDoor
