/- Slices of hashes: that read as a list of hashes, and rows of the call's own. No condition. -/
import Derived.Test.YtdenibigefchpaaDoorTree2
import Derived.Test.YtdenibigefchpaaDoorEq
import Derived.Great.BuildSlice
namespace Go.Proofs.YtdenibigefchpaaDoor
open Go.RowKit

def gsV : List (List Nat) → List Value
  | [] => []
  | h :: t => vals h ++ gsV t
def OkG (l : List (List Nat)) : Prop := ∀ h ∈ l, h.length = 32 ∧ AllB h
theorem OkG.tail {h : List Nat} {t : List (List Nat)} (k : OkG (h :: t)) : OkG t := fun x hx => k x (List.mem_cons_of_mem _ hx)
theorem OkG.head {h : List Nat} {t : List (List Nat)} (k : OkG (h :: t)) : h.length = 32 ∧ AllB h := k h List.mem_cons_self
theorem OkG.app {a b : List (List Nat)} (h : OkG a) (k : OkG b) : OkG (a ++ b) := fun x hx => by
  rcases List.mem_append.1 hx with h1 | h1
  · exact h x h1
  · exact k x h1
theorem OkG.take {l : List (List Nat)} (h : OkG l) (k : Nat) : OkG (l.take k) := fun x hx => h x (List.mem_of_mem_take hx)
theorem OkG.drop {l : List (List Nat)} (h : OkG l) (k : Nat) : OkG (l.drop k) := fun x hx => h x (List.mem_of_mem_drop hx)
theorem okG_nil : OkG [] := fun x hx => by cases hx
theorem okG_one {h : List Nat} (k : h.length = 32 ∧ AllB h) : OkG [h] := fun x hx => by rw [List.mem_singleton] at hx; subst hx; exact k
theorem gsV_app : ∀ a b : List (List Nat), gsV (a ++ b) = gsV a ++ gsV b
  | [], _ => rfl
  | h :: t, b => by rw [List.cons_append, gsV, gsV, gsV_app t b, List.append_assoc]
theorem gsV_one (h : List Nat) : gsV [h] = vals h := by rw [gsV, gsV, List.append_nil]
theorem gsV_len : ∀ {l : List (List Nat)}, OkG l → (gsV l).length = l.length * 32
  | [], _ => rfl
  | h :: t, k => by rw [gsV, List.length_append, vals_length, k.head.1, gsV_len k.tail, List.length_cons]; omega
theorem gsV_ones : ∀ l : List (List Nat), ∀ u ∈ gsV l, u.oneCell' = true
  | [], u, hu => by cases hu
  | _ :: _, u, hu => by
    rcases List.mem_append.1 hu with h1 | h1
    · exact vals_one _ u h1
    · exact gsV_ones _ u h1
theorem nt_ok {l : List (List Nat)} (h : OkG l) {k : Nat} (hk : k < l.length) : (nt l k).length = 32 ∧ AllB (nt l k) := by
  have e : nt l k = l[k] := by simp [nt, hk]
  rw [e]
  exact h _ (List.getElem_mem hk)
theorem nt_get {l : List (List Nat)} {k : Nat} (h : k < l.length) : l[k] = nt l k := by simp [nt, h]
theorem take_nt {l : List (List Nat)} {k : Nat} (h : k < l.length) : l.take (k + 1) = l.take k ++ [nt l k] := by
  rw [List.take_succ_eq_append_getElem h, nt_get h]
theorem split_nt {l : List (List Nat)} {k : Nat} (h : k < l.length) : l = l.take k ++ ([nt l k] ++ l.drop (k + 1)) := by
  rw [← List.append_assoc, ← take_nt h, List.take_append_drop]
theorem nt_ext {l m : List (List Nat)} (hl : l.length = m.length) (h : ∀ k, k < l.length → nt l k = nt m k) : l = m := by
  apply List.ext_getElem hl
  intro k h1 h2
  rw [nt_get h1, nt_get h2, h k h1]
theorem nt_take {l : List (List Nat)} {k j : Nat} (h : j < k) : nt (l.take k) j = nt l j := by simp [nt, h]
theorem nt_drop (l : List (List Nat)) (k j : Nat) : nt (l.drop k) j = nt l (k + j) := by simp [nt]

/-- A slice at A of n elements reads as the hashes l. -/
structure Gs (w : World) (A : Option Addr) (n : Nat) (l : List (List Nat)) : Prop where
  len : l.length = n
  ok : OkG l
  cel : 0 < n → ∃ b o, A = some ⟨b, o, none⟩ ∧ b < w.heap.size ∧ w.rangeAt b o (gsV l)
theorem Gs.nil (w : World) (A : Option Addr) : Gs w A 0 [] := ⟨rfl, okG_nil, fun h => absurd h (by omega)⟩
theorem Gs.later {w w1 : World} {A : Option Addr} {n : Nat} {l : List (List Nat)} (h : Gs w A n l) (g : Below w.heap.size w w1) : Gs w1 A n l :=
  ⟨h.len, h.ok, fun hn => by
    obtain ⟨b, o, e, hb, hc⟩ := h.cel hn
    exact ⟨b, o, e, Nat.lt_of_lt_of_le hb g.size, fun j v hj => by rw [← hc j v hj]; exact g.cell hb⟩⟩
theorem range_mid {w : World} {b o k : Nat} {X Y Z : List Value} (h : w.rangeAt b o (X ++ (Y ++ Z))) (hk : X.length = k) : w.rangeAt b (o + k) Y := fun j v hv => by
  have := h (k + j) v (by rw [← hk, List.getElem?_append_right (Nat.le_add_right _ _), Nat.add_sub_cancel_left, List.getElem?_append_left (List.getElem?_eq_some_iff.1 hv).1]; exact hv)
  rw [Nat.add_assoc]; exact this
theorem Gs.at_ {w : World} {b o n k : Nat} {l : List (List Nat)} (h : Gs w (some ⟨b, o, none⟩) n l) (hk : k < n) : b < w.heap.size ∧ w.rangeAt b (o + k * 32) (vals (nt l k)) := by
  obtain ⟨b', o', e, hb, hc⟩ := h.cel (by omega)
  injection e with e
  injection e with e1 e2
  subst e1 e2
  have hl := h.len
  refine ⟨hb, ?_⟩
  rw [split_nt (l := l) (k := k) (by omega), gsV_app, gsV_app, gsV_one] at hc
  exact range_mid hc (by rw [gsV_len (h.ok.take k), List.length_take]; congr 1; omega)
theorem Gs.left {w : World} {A : Option Addr} {n k : Nat} {l : List (List Nat)} (h : Gs w A n l) (hk : k ≤ n) : Gs w A k (l.take k) := by
  have hl := h.len
  refine ⟨by rw [List.length_take]; omega, h.ok.take k, fun hp => ?_⟩
  obtain ⟨b, o, e, hb, hc⟩ := h.cel (by omega)
  refine ⟨b, o, e, hb, ?_⟩
  rw [← List.take_append_drop k l, gsV_app] at hc
  exact range_mid (X := []) hc rfl
theorem Gs.right {w : World} {b o n k : Nat} {l : List (List Nat)} (h : Gs w (some ⟨b, o, none⟩) n l) (hk : k < n) : Gs w (some ⟨b, o + k * 32, none⟩) (n - k) (l.drop k) := by
  have hl := h.len
  refine ⟨by rw [List.length_drop]; omega, h.ok.drop k, fun hp => ?_⟩
  obtain ⟨b', o', e, hb, hc⟩ := h.cel (by omega)
  injection e with e
  injection e with e1 e2
  subst e1 e2
  refine ⟨b, o + k * 32, rfl, hb, ?_⟩
  rw [← List.take_append_drop k l, gsV_app] at hc
  rw [← List.append_nil (gsV (l.drop k))] at hc
  exact range_mid hc (by rw [gsV_len (h.ok.take k), List.length_take]; congr 1; omega)
theorem add_at (b o i : Nat) : (⟨b, o, none⟩ : Addr).add i = ⟨b, o + i, none⟩ := by
  unfold Addr.add
  split
  · simp_all
  · rfl

/-- v is a row of the call's own that reads as the hashes l. -/
structure OwnG (w0 : World) (v : Value) (n : Nat) (l : List (List Nat)) (wr : World) : Prop where
  row : wr.ownsRow w0.heap.size 24 32 v n (gsV l)
  ok : OkG l
  bel : Below w0.heap.size w0 wr
theorem OwnG.len {w0 wr : World} {v : Value} {n : Nat} {l : List (List Nat)} (h : OwnG w0 v n l wr) : l.length = n := by
  have := h.row.1
  rw [gsV_len h.ok] at this; omega
theorem OwnG.later {w0 wr w1 : World} {v : Value} {n : Nat} {l : List (List Nat)} (h : OwnG w0 v n l wr) (g : Below wr.heap.size wr w1) : OwnG w0 v n l w1 :=
  ⟨ownsRow_later h.row g, h.ok, h.bel.trans (g.mono h.bel.size)⟩
theorem OwnG.reads {w0 wr : World} {A : Option Addr} {n c : Nat} {l : List (List Nat)} (h : OwnG w0 (.slice A n c) n l wr) : Gs wr A n l := by
  refine ⟨h.len, h.ok, fun hn => ?_⟩
  obtain ⟨g, cap, hv, _, hlt⟩ := h.row.form hn
  have hA : A = some ⟨g, 0, none⟩ := by injection hv
  subst hA
  refine ⟨g, 0, rfl, hlt, fun j v hj => ?_⟩
  have := h.row.cells (g := g) rfl j v hj
  rwa [add_at] at this
theorem OwnG.shape {w0 wr : World} {v : Value} {n : Nat} {l : List (List Nat)} (h : OwnG w0 v n l wr) : ∃ A c, v = .slice A n c ∧ n ≤ c := by
  rcases h.row.2 with ⟨rfl, rfl⟩ | ⟨g, cap, cur, rfl, _, _, hc, _⟩
  · exact ⟨none, 0, rfl, Nat.le_refl _⟩
  · exact ⟨_, _, rfl, hc⟩
theorem OwnG.new {w0 wr : World} {v : Value} {n : Nat} {l : List (List Nat)} (h : OwnG w0 v n l wr) : ∀ k, v.ownBlock = some k → w0.heap.size ≤ k ∧ k < wr.heap.size := h.row.lt
theorem OwnG.none_ {w0 w : World} (b : Below w0.heap.size w0 w) : OwnG w0 (.slice none 0 0) 0 [] w := ⟨World.ownsRow_nil _ _ _ _, okG_nil, b⟩
theorem OwnG.weaken {w0 w2 wr : World} {v : Value} {n : Nat} {l : List (List Nat)} (h : OwnG w2 v n l wr) (b : Below w0.heap.size w0 w2) : OwnG w0 v n l wr :=
  ⟨by
    obtain ⟨h1, h2⟩ := h.row
    refine ⟨h1, ?_⟩
    rcases h2 with h2 | ⟨g, cap, cur, hv, hb, hh, r⟩
    · exact Or.inl h2
    · exact Or.inr ⟨g, cap, cur, hv, Nat.le_trans b.size hb, hh, r⟩, h.ok, b.trans (h.bel.mono b.size)⟩
theorem OwnG.cap {w0 wr : World} {A : Option Addr} {n c : Nat} {l : List (List Nat)} (h : OwnG w0 (.slice A n c) n l wr) : n ≤ c := by
  obtain ⟨A', c', e, hc⟩ := h.shape
  injection e with e1 e2 e3
  omega
theorem Own.cap {w0 wr : World} {A : Option Addr} {n c : Nat} {L : List Nat} (h : Own w0 (.slice A n c) n L wr) : n ≤ c := by
  obtain ⟨A', c', e, hc⟩ := h.shape
  injection e with e1 e2 e3
  omega
theorem box_store {wa wb : World} {o : Obj} (g : (wa.alloc o).grownBy wb (some wa.heap.size)) : Below wa.heap.size wa wb := ((Below.refl wa.heap.size wa).alloc (Nat.le_refl _) o).grown g (by simp) (fun q e => by injection e; omega)
theorem Tryd.infoG : (Tryd.prog.info? 24).map (fun i => (i.zero, i.size, i.bytes)) = some (some (.agg (vals (List.replicate 32 0)).toArray), 32, 32) := by kernel_rfl
section
variable {w0 w : World} {ops : Array Oper} {rest : List Oper} {o : Oper} {a : Act} {Q : Exit → Act → World → Prop}
theorem run_appG {v : Value} {n : Nat} {l m : List (List Nat)} {k c b q : Nat} (ty : TypeId) (hown : OwnG w0 v n l w) (hm : m.length = k) (ho : OkG m) (hS : w.rangeAt b q (gsV m)) (hlen : n + k ≤ 1073741824) :
    ∃ A' c' w', (Builtin.append_ #[22, 22] ty #[v, .slice (some ⟨b, q, none⟩) k c]).run Tryd.prog w = .ok (.slice A' (n + k) c') w' ∧ OwnG w0 (.slice A' (n + k) c') (n + k) (l ++ m) w' ∧ w.grownBy w' v.ownBlock ∧ n + k ≤ c' ∧ (Value.ownBlock (.slice A' (n + k) c') = v.ownBlock ∨ Value.ownBlock (.slice A' (n + k) c') = some w.heap.size) := by
  obtain ⟨i0, hi, hz0, hz1, hz2⟩ := info_parts Tryd.infoG
  obtain ⟨v', w', a1, a2, a3, _, a5⟩ := run_append_own_at (P := Tryd.prog) w w0.heap.size 22 ty 24 i0 _ 32 32 Tryd.underlying22 hi hz0 hz1 hz2 rfl (by decide) v n (gsV l) hown.row ⟨b, q, none⟩ k c (gsV m) (by rw [gsV_len ho, hm]) (fun j u hj => by
    rw [add_at]; exact hS j u hj) (gsV_ones _) (by unfold maxLen; omega) (by omega) hown.bel.size
  have O : OwnG w0 v' (n + k) (l ++ m) w' := ⟨by rw [gsV_app]; exact a2, hown.ok.app ho, hown.bel.grown a3 hown.bel.size (fun q hq => (hown.new q hq).1)⟩
  obtain ⟨A', c', rfl, hc⟩ := O.shape
  exact ⟨A', c', w', a1, O, a3, hc, a5⟩
theorem wpList_appG (hgd : o.guard = none) (s x : Operand) (ho : o.op = .call { callee := .builtin .append, args := #[s, x], argTypes := #[22, 22] })
    {v : Value} {n : Nat} {l : List (List Nat)} (hs : a.eval s = v) (hown : OwnG w0 v n l w) {b : Nat} {h : List Nat} (hx : a.eval x = .slice (some ⟨b, 0, none⟩) 1 1) (hk : h.length = 32 ∧ AllB h) (hr : Ro w b 24 (vals h)) (hlen : n + 1 ≤ 1073741824)
    (hw : ∀ A' c' w', n + 1 ≤ c' → OwnG w0 (.slice A' (n + 1) c') (n + 1) (l ++ [h]) w' → w.grownBy w' v.ownBlock → wpList Tryd.prog ops Q rest (a.put o.dst (.slice A' (n + 1) c')) w') : wpList Tryd.prog ops Q (o :: rest) a w := by
  refine wpList_plain hgd fun K hK => ?_
  obtain ⟨A', c', w', r1, r2, r3, r4, _⟩ := run_appG (w0 := w0) (w := w) (m := [h]) (k := 1) (c := 1) (b := b) (q := 0) o.type hown rfl (okG_one hk) (fun j u hj => by rw [gsV_one] at hj; rw [Nat.zero_add]; exact hr.cell hj) hlen
  have e := hK _ _ (hw A' c' w' r4 r2 r3)
  unfold Oper.wp
  simp [execOp, ho, resolve, invoke, builtin, hs, hx, r1, Result.andThen]
  exact e
theorem fill_g (S : List Value) (hl : S.length = 32) (Z : Array Value) (hZ : Z.size = 32) : Instr.fill (fun i => some (i * 32, 32)) Z [(0, .agg S.toArray)] = some S.toArray := by
  have h := Go.Great.fill_whole (s := 32) (by decide) [.agg S.toArray] Z (by simp [Value.cells, hl]) (by simp [hZ])
  simpa [Value.cells] using h
theorem wpList_litG (hgd : o.guard = none) (x : Operand) (ho : o.op = .buildSlice 22 1 #[(0, x)]) {S : List Value} (hx : a.eval x = .agg S.toArray) (hl : S.length = 32)
    (h : wpList Tryd.prog ops Q rest (a.put o.dst (.slice (some ⟨w.heap.size, 0, none⟩) 1 1)) (w.alloc (.cells S.toArray 24))) : wpList Tryd.prog ops Q (o :: rest) a w := by
  obtain ⟨i0, hi, hz0, hz1, hz2⟩ := info_parts Tryd.infoG
  refine wpList_buildSlice hgd 22 24 1 _ ho S.toArray i0 _ Tryd.underlying22 hi hz0 (by rw [hz1]; decide) (by rw [hz1]; decide) ?_ h
  rw [hz1]
  have e : (#[((0 : Nat), x)].map fun (y : Nat × Operand) => (y.1, a.eval y.2)).toList = [(0, .agg S.toArray)] := by simp [hx]
  exact (congrArg _ e).trans (fill_g S hl _ (by simp))
end
end Go.Proofs.YtdenibigefchpaaDoor
