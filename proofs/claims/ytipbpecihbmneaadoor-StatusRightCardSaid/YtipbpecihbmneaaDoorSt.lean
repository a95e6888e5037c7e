/- A state as its cells, and what parts of a text are pieces. No condition. -/
import Derived.Test.YtipbpecihbmneaaDoorSpread
import Derived.Deep.MidRow
namespace Go.Proofs.YtipbpecihbmneaaDoor
open Go.RowKit

/-! Splices. -/
theorem splice_mid {α : Type} {A B C D : List α} {k : Nat} (hk : A.length = k) (h : D.length = B.length) : splice (A ++ (B ++ C)) k D = A ++ (D ++ C) := by
  subst hk
  unfold splice
  rw [h, List.take_left, ← List.drop_drop, List.drop_left, List.drop_left]
theorem splice_in {α : Type} {A B C D : List α} {j k : Nat} (hk : A.length = j) (h : k + D.length ≤ B.length) : splice (A ++ (B ++ C)) (j + k) D = A ++ (splice B k D ++ C) := by
  subst hk
  unfold splice
  rw [List.take_length_add_append, List.take_append_of_le_length (by omega), Nat.add_assoc, ← List.drop_drop, List.drop_left, List.drop_append_of_le_length (by omega)]
  simp
theorem vals_splice (P M : List Nat) (k : Nat) : vals (splice P k M) = splice (vals P) k (vals M) := by simp [splice, vals, List.map_take, List.map_drop]
theorem splice_tail {α : Type} (A Z D : List α) (h : D.length ≤ Z.length) : splice (A ++ Z) A.length D = A ++ (D ++ Z.drop D.length) := by
  have _ := h
  unfold splice
  rw [List.take_left, ← List.drop_drop, List.drop_left]

/-! Parts of a text. -/
def rest (L : List Nat) : List Nat := L.drop (64 * (L.length / 64))
def partL (L : List Nat) : List Nat := rest L ++ List.replicate (64 - L.length % 64) 0
theorem rest_len (L : List Nat) : (rest L).length = L.length % 64 := by unfold rest; rw [List.length_drop]; omega
theorem partL_len (L : List Nat) : (partL L).length = 64 := by unfold partL; rw [List.length_append, rest_len, List.length_replicate]; omega
theorem allB_zeros (n : Nat) : AllB (List.replicate n 0) := fun x hx => by rw [List.eq_of_mem_replicate hx]; decide
theorem partL_byt {L : List Nat} (h : AllB L) : AllB (partL L) := AllB.app (fun x hx => h x (List.mem_of_mem_drop hx)) (allB_zeros _)
theorem part_nil : partL [] = List.replicate 64 0 := rfl
theorem pieces_pre (X Y : List Nat) : ∀ n, 64 * n ≤ X.length → pieces (X ++ Y) n = pieces X n
  | 0, _ => rfl
  | n + 1, h => by
    rw [pieces, pieces, pieces_pre X Y n (by omega), List.drop_append_of_le_length (by omega), List.take_append_of_le_length (by rw [List.length_drop]; omega)]
theorem comp_len (h p : List Nat) : (comp h p).length = 8 := rfl
theorem pieces_len (L : List Nat) : ∀ n, (pieces L n).length = 8
  | 0 => rfl
  | n + 1 => by rw [pieces, comp_len]
theorem part_add (X Y : List Nat) (h : X.length % 64 + Y.length < 64) : partL (X ++ Y) = splice (partL X) (X.length % 64) Y ∧ (X ++ Y).length / 64 = X.length / 64 := by
  have e : (X ++ Y).length / 64 = X.length / 64 := by rw [List.length_append]; omega
  refine ⟨?_, e⟩
  have h1 : rest (X ++ Y) = rest X ++ Y := by unfold rest; rw [e, List.drop_append_of_le_length (by omega)]
  unfold partL
  rw [h1, ← rest_len X, splice_tail _ _ _ (by rw [List.length_replicate, rest_len]; omega), List.drop_replicate, List.append_assoc, List.length_append, rest_len]
  congr 3
  omega
theorem part_full (X Y : List Nat) (h : X.length % 64 + Y.length = 64) : splice (partL X) (X.length % 64) Y = rest X ++ Y := by
  unfold partL
  rw [← rest_len X, splice_tail _ _ _ (by rw [List.length_replicate, rest_len]; omega), List.drop_replicate, rest_len, show 64 - X.length % 64 - Y.length = 0 by omega]
  simp
theorem piece_full (X Y : List Nat) (h : X.length % 64 + Y.length = 64) : pieces (X ++ Y) (X.length / 64 + 1) = comp (pieces X (X.length / 64)) (rest X ++ Y) := by
  rw [pieces, pieces_pre X Y _ (by omega), List.drop_append_of_le_length (by omega)]
  congr 1
  show (rest X ++ Y).take 64 = _
  rw [List.take_of_length_le (by rw [List.length_append, rest_len]; omega)]
theorem full_len (X Y : List Nat) (h : X.length % 64 + Y.length = 64) : (X ++ Y).length / 64 = X.length / 64 + 1 ∧ (X ++ Y).length % 64 = 0 ∧ partL (X ++ Y) = List.replicate 64 0 := by
  have e : (X ++ Y).length = 64 * (X.length / 64 + 1) := by rw [List.length_append]; omega
  refine ⟨by omega, by omega, ?_⟩
  have h1 : rest (X ++ Y) = [] := List.eq_nil_of_length_eq_zero (by rw [rest_len]; omega)
  unfold partL
  rw [h1, show 64 - (X ++ Y).length % 64 = 64 by omega]
  rfl
/-! What a text's end is. -/
theorem bits8_len (n : Nat) : (bits8 n).length = 8 := by simp [bits8]
def endA (L : List Nat) : List Nat := rest L ++ 128 :: List.replicate (55 - L.length % 64) 0
def endB (L : List Nat) : List Nat := rest L ++ 128 :: List.replicate (63 - L.length % 64) 0
theorem sha_short (L : List Nat) (h : L.length % 64 < 56) : shaS L = bytesS (comp (pieces L (L.length / 64)) (endA L ++ bits8 L.length)) := by
  have g : gapN L.length = 55 - L.length % 64 := by unfold gapN; omega
  have e : text L = L ++ (128 :: List.replicate (55 - L.length % 64) 0 ++ bits8 L.length) := by unfold text; rw [g, List.append_assoc]
  have hl : L.length % 64 + (128 :: List.replicate (55 - L.length % 64) 0 ++ bits8 L.length).length = 64 := by
    rw [List.length_append, bits8_len, List.length_cons, List.length_replicate]; omega
  unfold shaS
  rw [e, (full_len L _ hl).1, piece_full L _ hl]
  unfold endA
  rw [List.append_assoc]
theorem sha_long (L : List Nat) (h : 56 ≤ L.length % 64) : shaS L = bytesS (comp (comp (pieces L (L.length / 64)) (endB L)) (List.replicate 56 0 ++ bits8 L.length)) := by
  have g : gapN L.length = (63 - L.length % 64) + 56 := by unfold gapN; omega
  have e : text L = (L ++ (128 :: List.replicate (63 - L.length % 64) 0)) ++ (List.replicate 56 0 ++ bits8 L.length) := by
    unfold text; rw [g, ← List.replicate_append_replicate]; simp
  have hl : L.length % 64 + (128 :: List.replicate (63 - L.length % 64) 0).length = 64 := by
    rw [List.length_cons, List.length_replicate]; omega
  obtain ⟨f1, f2, f3⟩ := full_len L _ hl
  have hl2 : (L ++ (128 :: List.replicate (63 - L.length % 64) 0)).length % 64 + (List.replicate 56 0 ++ bits8 L.length).length = 64 := by
    rw [f2, List.length_append, bits8_len, List.length_replicate]
  have r0 : rest (L ++ (128 :: List.replicate (63 - L.length % 64) 0)) = [] := List.eq_nil_of_length_eq_zero (by rw [rest_len, f2])
  unfold shaS
  rw [e, (full_len _ _ hl2).1, piece_full _ _ hl2, r0, f1, piece_full L _ hl]
  rfl

/-! A state in memory. -/
def stV (W P : List Nat) (c : Nat) : List Value := u32s W ++ (vals P ++ [.int .u64 (c : Int)])
theorem stV_len {W P : List Nat} {c : Nat} (hW : W.length = 8) (hP : P.length = 64) : (stV W P c).length = 73 := by
  unfold stV; rw [List.length_append, List.length_append, u32s_len, vals_length, hW, hP]; rfl
theorem stV_one (W P : List Nat) (c : Nat) : ∀ u ∈ stV W P c, u.oneCell' = true := by
  intro u hu
  unfold stV at hu
  rcases List.mem_append.1 hu with h | h
  · exact u32s_one _ _ h
  rcases List.mem_append.1 h with h | h
  · exact vals_one _ _ h
  · rw [List.mem_singleton] at h; subst h; rfl
theorem stV_words {W W' P : List Nat} {c : Nat} (h : W'.length = W.length) : splice (stV W P c) 0 (u32s W') = stV W' P c := by
  unfold stV
  exact splice_mid (A := []) rfl (by rw [u32s_len, u32s_len, h])
theorem stV_part {W P P' : List Nat} {c : Nat} (hW : W.length = 8) (h : P'.length = P.length) : splice (stV W P c) 8 (vals P') = stV W P' c := by
  unfold stV
  exact splice_mid (by rw [u32s_len, hW]) (by rw [vals_length, vals_length, h])
theorem stV_in {W P M : List Nat} {c k : Nat} (hW : W.length = 8) (h : k + M.length ≤ P.length) : splice (stV W P c) (8 + k) (vals M) = stV W (splice P k M) c := by
  unfold stV
  rw [vals_splice]
  exact splice_in (by rw [u32s_len, hW]) (by rw [vals_length, vals_length]; exact h)
theorem stV_count {W P : List Nat} {c d : Nat} (hW : W.length = 8) (hP : P.length = 64) : (stV W P c).set 72 (.int .u64 (d : Int)) = stV W P d := by
  unfold stV
  rw [List.set_append_right _ _ (by rw [u32s_len]; omega), List.set_append_right _ _ (by rw [u32s_len, vals_length]; omega), u32s_len, vals_length, hW, hP]
  rfl
section
variable {w : World} {b c : Nat} {T : TypeId} {W P : List Nat}
theorem Ro.mid {A B C : List Value} {k : Nat} (h : Ro w b T (A ++ (B ++ C))) (hk : A.length = k) : w.rangeAt b k B := by
  subst hk
  intro j v hv
  have hj := (List.getElem?_eq_some_iff.1 hv).1
  exact h.cell (by rw [List.getElem?_append_right (Nat.le_add_right _ _), Nat.add_sub_cancel_left, List.getElem?_append_left hj]; exact hv)
theorem Ro.stW (h : Ro w b T (stV W P c)) : w.rangeAt b 0 (u32s W) := Ro.mid (A := []) h rfl
theorem Ro.stP (h : Ro w b T (stV W P c)) (hW : W.length = 8) : w.rangeAt b 8 (vals P) := Ro.mid h (by rw [u32s_len, hW])
theorem Ro.stC (h : Ro w b T (stV W P c)) (hW : W.length = 8) (hP : P.length = 64) : w.cell? ⟨b, 72, none⟩ = some (.int .u64 (c : Int)) := h.cell (by
  unfold stV
  rw [List.getElem?_append_right (by rw [u32s_len]; omega), List.getElem?_append_right (by rw [u32s_len, vals_length]; omega), u32s_len, vals_length, hW, hP]
  rfl)
end
section
variable {w : World} {ops : Array Oper} {rest : List Oper} {o : Oper} {a : Act} {Q : Exit → Act → World → Prop} {K : Act → World → Prop} {T S : TypeId} {n b k : Nat} {vs zs : List Value}
theorem wpList_load_part (hgd : o.guard = none) (x : Operand) (ho : o.op = .load T x) (hx : a.eval x = .pointer (some ⟨b, k, none⟩)) (hT : IsRow T n) (hr : w.rangeAt b k vs) (hl : vs.length = n)
    (h : wpList Tryd.prog ops Q rest (a.put o.dst (.agg vs.toArray)) w) : wpList Tryd.prog ops Q (o :: rest) a w := by
  obtain ⟨⟨f, h1⟩ | ⟨j, e, h1⟩, h3⟩ := hT
  · exact wpList_load_mid hgd T x ho b k hx vs _ hr h1 rfl (by rw [h3]; simp [hl]) h
  · exact wpList_load_mid hgd T x ho b k hx vs _ hr h1 rfl (by rw [h3]; simp [hl]) h
theorem wpList_store_part (hgd : o.guard = none) (x y : Operand) (ho : o.op = .store T x y) (hx : a.eval x = .pointer (some ⟨b, k, none⟩)) (hy : a.eval y = .agg vs.toArray) (hT : IsRow T n) (hr : Ro w b S zs) (hz : k + n ≤ zs.length) (hl : vs.length = n) (h1 : ∀ u ∈ vs, u.oneCell' = true)
    (h : ∀ w', Ro w' b S (splice zs k vs) → w.grownBy w' (some b) → wpList Tryd.prog ops Q rest (a.put o.dst undef) w') : wpList Tryd.prog ops Q (o :: rest) a w := by
  refine wpList_plain hgd fun K hK => ?_
  have e := hK _ _ (h _ (setRow_heap w b _ (zs.take k ++ (vs ++ zs.drop (k + vs.length))).toArray _ _ hr) (grownBy_setRow w b (zs.take k ++ (vs ++ zs.drop (k + vs.length))).toArray))
  have hst := run_storeCells_at (P := Tryd.prog) b k S vs 0 zs.toArray w hr (by simp; omega) h1
  have hs : (storeVar T ⟨b, k, none⟩ (.agg vs.toArray)).run Tryd.prog w = .ok () (w.setRow b (zs.take k ++ (vs ++ zs.drop (k + vs.length))).toArray) := by
    have hi := hT.info
    cases hq : Tryd.prog.info? T with
    | none => simp [hq] at hi
    | some i =>
      have hs : i.size = vs.length := by simp [hq] at hi; omega
      simp [storeVar, sizeOf, typeInfo, hq, Value.cells, hs, hst]
  unfold Oper.wp execOp
  simp only [ho, hx, hy, Instr.storeAt, Instr.sureAddr, Sem.run_bind, Sem.run_pure, Result.andThen_ok, hs]
  exact e
end
end Go.Proofs.YtipbpecihbmneaaDoor
