/- Slices of headers: that read as a list of headers, and rows of the call's own. No condition. -/
import Derived.Test.YtkocbkckfkbmhaaDoorIds
import Derived.Great.BuildSlice
namespace Go.Proofs.YtkocbkckfkbmhaaDoor
open Go.RowKit

def hsV : List Hd → List Value
  | [] => []
  | h :: t => hdV h ++ hsV t
def hsB : List Hd → List Nat
  | [] => []
  | h :: t => hdB h ++ hsB t
def OkAll (l : List Hd) : Prop := ∀ h ∈ l, h.Ok
theorem OkAll.tail {h : Hd} {t : List Hd} (k : OkAll (h :: t)) : OkAll t := fun x hx => k x (List.mem_cons_of_mem _ hx)
theorem OkAll.head {h : Hd} {t : List Hd} (k : OkAll (h :: t)) : h.Ok := k h List.mem_cons_self
theorem OkAll.app {a b : List Hd} (h : OkAll a) (k : OkAll b) : OkAll (a ++ b) := fun x hx => by
  rcases List.mem_append.1 hx with h1 | h1
  · exact h x h1
  · exact k x h1
theorem OkAll.take {l : List Hd} (h : OkAll l) (k : Nat) : OkAll (l.take k) := fun x hx => h x (List.mem_of_mem_take hx)
theorem OkAll.drop {l : List Hd} (h : OkAll l) (k : Nat) : OkAll (l.drop k) := fun x hx => h x (List.mem_of_mem_drop hx)
theorem okAll_nil : OkAll [] := fun x hx => by cases hx
theorem okAll_one {h : Hd} (k : h.Ok) : OkAll [h] := fun x hx => by rw [List.mem_singleton] at hx; subst hx; exact k
theorem hsV_app : ∀ a b : List Hd, hsV (a ++ b) = hsV a ++ hsV b
  | [], _ => rfl
  | h :: t, b => by rw [List.cons_append, hsV, hsV, hsV_app t b, List.append_assoc]
theorem hsB_app : ∀ a b : List Hd, hsB (a ++ b) = hsB a ++ hsB b
  | [], _ => rfl
  | h :: t, b => by rw [List.cons_append, hsB, hsB, hsB_app t b, List.append_assoc]
theorem hsV_one (h : Hd) : hsV [h] = hdV h := by rw [hsV, hsV, List.append_nil]
theorem hsB_one (h : Hd) : hsB [h] = hdB h := by rw [hsB, hsB, List.append_nil]
theorem hsV_len : ∀ {l : List Hd}, OkAll l → (hsV l).length = l.length * 68
  | [], _ => rfl
  | h :: t, k => by rw [hsV, List.length_append, hdV_len k.head, hsV_len k.tail, List.length_cons]; omega
theorem hsB_len : ∀ {l : List Hd}, OkAll l → (hsB l).length = l.length * 80
  | [], _ => rfl
  | h :: t, k => by rw [hsB, List.length_append, hdB_len k.head, hsB_len k.tail, List.length_cons]; omega
theorem hsB_byt : ∀ {l : List Hd}, OkAll l → AllB (hsB l)
  | [], _ => allB_nil
  | _ :: _, k => (hdB_byt k.head).app (hsB_byt k.tail)
theorem hsV_ones : ∀ l : List Hd, ∀ u ∈ hsV l, u.oneCell' = true
  | [], u, hu => by cases hu
  | _ :: _, u, hu => by
    rcases List.mem_append.1 hu with h1 | h1
    · exact hdV_one _ u h1
    · exact hsV_ones _ u h1
/-- The k-th of headers. -/
def nthH (l : List Hd) (k : Nat) : Hd := l.getD k zeroH
theorem nthH_ok {l : List Hd} (h : OkAll l) (k : Nat) : (nthH l k).Ok := by
  unfold nthH
  rw [List.getD_eq_getElem?_getD]
  cases e : l[k]? with
  | none => exact zeroH_ok
  | some x => exact h x (List.mem_of_getElem? e)
theorem nthH_get {l : List Hd} {k : Nat} (h : k < l.length) : l[k] = nthH l k := by simp [nthH, List.getD, h]
theorem take_nthH {l : List Hd} {k : Nat} (h : k < l.length) : l.take (k + 1) = l.take k ++ [nthH l k] := by
  rw [List.take_succ_eq_append_getElem h, nthH_get h]
theorem split_nthH {l : List Hd} {k : Nat} (h : k < l.length) : l = l.take k ++ ([nthH l k] ++ l.drop (k + 1)) := by
  rw [← List.append_assoc, ← take_nthH h, List.take_append_drop]
theorem nthH_ext {l m : List Hd} (hl : l.length = m.length) (h : ∀ k, k < l.length → nthH l k = nthH m k) : l = m := by
  apply List.ext_getElem hl
  intro k h1 h2
  rw [nthH_get h1, nthH_get h2, h k h1]
theorem nthH_take {l : List Hd} {k j : Nat} (h : j < k) : nthH (l.take k) j = nthH l j := by simp [nthH, List.getD, h]
theorem nthH_drop (l : List Hd) (k j : Nat) : nthH (l.drop k) j = nthH l (k + j) := by simp [nthH, List.getD]

/-- A slice at A of n elements reads as the headers l. -/
structure Hs (w : World) (A : Option Addr) (n : Nat) (l : List Hd) : Prop where
  len : l.length = n
  ok : OkAll l
  cel : 0 < n → ∃ b o, A = some ⟨b, o, none⟩ ∧ b < w.heap.size ∧ w.rangeAt b o (hsV l)
theorem Hs.nil (w : World) (A : Option Addr) : Hs w A 0 [] := ⟨rfl, okAll_nil, fun h => absurd h (by omega)⟩
theorem Hs.later {w w1 : World} {A : Option Addr} {n : Nat} {l : List Hd} (h : Hs w A n l) (g : Below w.heap.size w w1) : Hs w1 A n l :=
  ⟨h.len, h.ok, fun hn => by
    obtain ⟨b, o, e, hb, hc⟩ := h.cel hn
    exact ⟨b, o, e, Nat.lt_of_lt_of_le hb g.size, fun j v hj => by rw [← hc j v hj]; exact g.cell hb⟩⟩
theorem range_mid {w : World} {b o k : Nat} {X Y Z : List Value} (h : w.rangeAt b o (X ++ (Y ++ Z))) (hk : X.length = k) : w.rangeAt b (o + k) Y := fun j v hv => by
  have := h (k + j) v (by rw [← hk, List.getElem?_append_right (Nat.le_add_right _ _), Nat.add_sub_cancel_left, List.getElem?_append_left (List.getElem?_eq_some_iff.1 hv).1]; exact hv)
  rw [Nat.add_assoc]; exact this
theorem Hs.at_ {w : World} {b o n k : Nat} {l : List Hd} (h : Hs w (some ⟨b, o, none⟩) n l) (hk : k < n) : b < w.heap.size ∧ w.rangeAt b (o + k * 68) (hdV (nthH l k)) := by
  obtain ⟨b', o', e, hb, hc⟩ := h.cel (by omega)
  injection e with e
  injection e with e1 e2
  subst e1 e2
  have hl := h.len
  refine ⟨hb, ?_⟩
  rw [split_nthH (l := l) (k := k) (by omega), hsV_app, hsV_app, hsV_one] at hc
  exact range_mid hc (by rw [hsV_len (h.ok.take k), List.length_take]; congr 1; omega)
theorem Hs.left {w : World} {A : Option Addr} {n k : Nat} {l : List Hd} (h : Hs w A n l) (hk : k ≤ n) : Hs w A k (l.take k) := by
  have hl := h.len
  refine ⟨by rw [List.length_take]; omega, h.ok.take k, fun hp => ?_⟩
  obtain ⟨b, o, e, hb, hc⟩ := h.cel (by omega)
  refine ⟨b, o, e, hb, ?_⟩
  rw [← List.take_append_drop k l, hsV_app] at hc
  exact range_mid (X := []) hc rfl
theorem Hs.right {w : World} {b o n k : Nat} {l : List Hd} (h : Hs w (some ⟨b, o, none⟩) n l) (hk : k < n) : Hs w (some ⟨b, o + k * 68, none⟩) (n - k) (l.drop k) := by
  have hl := h.len
  refine ⟨by rw [List.length_drop]; omega, h.ok.drop k, fun hp => ?_⟩
  obtain ⟨b', o', e, hb, hc⟩ := h.cel (by omega)
  injection e with e
  injection e with e1 e2
  subst e1 e2
  refine ⟨b, o + k * 68, rfl, hb, ?_⟩
  rw [← List.take_append_drop k l, hsV_app] at hc
  rw [← List.append_nil (hsV (l.drop k))] at hc
  exact range_mid hc (by rw [hsV_len (h.ok.take k), List.length_take]; congr 1; omega)
theorem range_prev {w : World} {b o : Nat} {h : Hd} (hr : w.rangeAt b o (hdV h)) : w.rangeAt b (o + 1) (vals h.p) :=
  range_mid (X := [u32v h.v]) hr rfl
theorem range_root {w : World} {b o : Nat} {h : Hd} (k : h.Ok) (hr : w.rangeAt b o (hdV h)) : w.rangeAt b (o + 33) (vals h.r) :=
  range_mid (X := u32v h.v :: vals h.p) (Y := vals h.r) (Z := [u32v h.t, u32v h.b, u32v h.n]) (by simpa [hdV] using hr) (by simp [vals_length, k.p])
theorem add_at (b o i : Nat) : (⟨b, o, none⟩ : Addr).add i = ⟨b, o + i, none⟩ := by
  unfold Addr.add
  split
  · simp_all
  · rfl

/-- v is a row of the call's own that reads as the headers l. -/
structure OwnH (w0 : World) (v : Value) (n : Nat) (l : List Hd) (wr : World) : Prop where
  row : wr.ownsRow w0.heap.size 26 68 v n (hsV l)
  ok : OkAll l
  bel : Below w0.heap.size w0 wr
theorem OwnH.len {w0 wr : World} {v : Value} {n : Nat} {l : List Hd} (h : OwnH w0 v n l wr) : l.length = n := by
  have := h.row.1
  rw [hsV_len h.ok] at this; omega
theorem OwnH.later {w0 wr w1 : World} {v : Value} {n : Nat} {l : List Hd} (h : OwnH w0 v n l wr) (g : Below wr.heap.size wr w1) : OwnH w0 v n l w1 :=
  ⟨ownsRow_later h.row g, h.ok, h.bel.trans (g.mono h.bel.size)⟩
theorem OwnH.reads {w0 wr : World} {A : Option Addr} {n c : Nat} {l : List Hd} (h : OwnH w0 (.slice A n c) n l wr) : Hs wr A n l := by
  refine ⟨h.len, h.ok, fun hn => ?_⟩
  obtain ⟨g, cap, hv, _, hlt⟩ := h.row.form hn
  have hA : A = some ⟨g, 0, none⟩ := by injection hv
  subst hA
  refine ⟨g, 0, rfl, hlt, fun j v hj => ?_⟩
  have := h.row.cells (g := g) rfl j v hj
  rwa [add_at] at this
theorem OwnH.shape {w0 wr : World} {v : Value} {n : Nat} {l : List Hd} (h : OwnH w0 v n l wr) : ∃ A c, v = .slice A n c ∧ n ≤ c := by
  rcases h.row.2 with ⟨rfl, rfl⟩ | ⟨g, cap, cur, rfl, _, _, hc, _⟩
  · exact ⟨none, 0, rfl, Nat.le_refl _⟩
  · exact ⟨_, _, rfl, hc⟩
theorem OwnH.new {w0 wr : World} {v : Value} {n : Nat} {l : List Hd} (h : OwnH w0 v n l wr) : ∀ k, v.ownBlock = some k → w0.heap.size ≤ k ∧ k < wr.heap.size := h.row.lt
theorem OwnH.none_ {w0 w : World} (b : Below w0.heap.size w0 w) : OwnH w0 (.slice none 0 0) 0 [] w := ⟨World.ownsRow_nil _ _ _ _, okAll_nil, b⟩
theorem OwnH.weaken {w0 w2 wr : World} {v : Value} {n : Nat} {l : List Hd} (h : OwnH w2 v n l wr) (b : Below w0.heap.size w0 w2) : OwnH w0 v n l wr :=
  ⟨by
    obtain ⟨h1, h2⟩ := h.row
    refine ⟨h1, ?_⟩
    rcases h2 with h2 | ⟨g, cap, cur, hv, hb, hh, r⟩
    · exact Or.inl h2
    · exact Or.inr ⟨g, cap, cur, hv, Nat.le_trans b.size hb, hh, r⟩, h.ok, b.trans (h.bel.mono b.size)⟩
theorem OwnH.cap {w0 wr : World} {A : Option Addr} {n c : Nat} {l : List Hd} (h : OwnH w0 (.slice A n c) n l wr) : n ≤ c := by
  obtain ⟨A', c', e, hc⟩ := h.shape
  injection e with e1 e2 e3
  omega
theorem Own.cap {w0 wr : World} {A : Option Addr} {n c : Nat} {L : List Nat} (h : Own w0 (.slice A n c) n L wr) : n ≤ c := by
  obtain ⟨A', c', e, hc⟩ := h.shape
  injection e with e1 e2 e3
  omega
theorem box_store {wa wb : World} {o : Obj} (g : (wa.alloc o).grownBy wb (some wa.heap.size)) : Below wa.heap.size wa wb := ((Below.refl wa.heap.size wa).alloc (Nat.le_refl _) o).grown g (by simp) (fun q e => by injection e; omega)
theorem Tryd.infoHd : (Tryd.prog.info? 26).map (fun i => (i.zero, i.size, i.bytes)) = some (some (.agg (hdV zeroH).toArray), 68, 80) := by kernel_rfl
section
variable {w0 w : World} {ops : Array Oper} {rest : List Oper} {o : Oper} {a : Act} {Q : Exit → Act → World → Prop}
theorem run_appH {v : Value} {n : Nat} {l m : List Hd} {k c b q : Nat} (ty : TypeId) (hown : OwnH w0 v n l w) (hm : m.length = k) (ho : OkAll m) (hS : w.rangeAt b q (hsV m)) (hlen : n + k ≤ 1073741824) :
    ∃ A' c' w', (Builtin.append_ #[38, 38] ty #[v, .slice (some ⟨b, q, none⟩) k c]).run Tryd.prog w = .ok (.slice A' (n + k) c') w' ∧ OwnH w0 (.slice A' (n + k) c') (n + k) (l ++ m) w' ∧ w.grownBy w' v.ownBlock ∧ n + k ≤ c' ∧ (Value.ownBlock (.slice A' (n + k) c') = v.ownBlock ∨ Value.ownBlock (.slice A' (n + k) c') = some w.heap.size) := by
  obtain ⟨i0, hi, hz0, hz1, hz2⟩ := info_parts Tryd.infoHd
  obtain ⟨v', w', a1, a2, a3, _, a5⟩ := run_append_own_at (P := Tryd.prog) w w0.heap.size 38 ty 26 i0 _ 68 80 Tryd.underlying38 hi hz0 hz1 hz2 rfl (by decide) v n (hsV l) hown.row ⟨b, q, none⟩ k c (hsV m) (by rw [hsV_len ho, hm]) (fun j u hj => by
    rw [add_at]; exact hS j u hj) (hsV_ones _) (by unfold maxLen; omega) (by omega) hown.bel.size
  have O : OwnH w0 v' (n + k) (l ++ m) w' := ⟨by rw [hsV_app]; exact a2, hown.ok.app ho, hown.bel.grown a3 hown.bel.size (fun q hq => (hown.new q hq).1)⟩
  obtain ⟨A', c', rfl, hc⟩ := O.shape
  exact ⟨A', c', w', a1, O, a3, hc, a5⟩
theorem wpList_appH (hgd : o.guard = none) (s x : Operand) (ho : o.op = .call { callee := .builtin .append, args := #[s, x], argTypes := #[38, 38] })
    {v : Value} {n : Nat} {l : List Hd} (hs : a.eval s = v) (hown : OwnH w0 v n l w) {b : Nat} {h : Hd} (hx : a.eval x = .slice (some ⟨b, 0, none⟩) 1 1) (hk : h.Ok) (hr : Ro w b 26 (hdV h)) (hlen : n + 1 ≤ 1073741824)
    (hw : ∀ A' c' w', n + 1 ≤ c' → OwnH w0 (.slice A' (n + 1) c') (n + 1) (l ++ [h]) w' → w.grownBy w' v.ownBlock → wpList Tryd.prog ops Q rest (a.put o.dst (.slice A' (n + 1) c')) w') : wpList Tryd.prog ops Q (o :: rest) a w := by
  refine wpList_plain hgd fun K hK => ?_
  obtain ⟨A', c', w', r1, r2, r3, r4, _⟩ := run_appH (w0 := w0) (w := w) (m := [h]) (k := 1) (c := 1) (b := b) (q := 0) o.type hown rfl (okAll_one hk) (fun j u hj => by rw [hsV_one] at hj; rw [Nat.zero_add]; exact hr.cell hj) hlen
  have e := hK _ _ (hw A' c' w' r4 r2 r3)
  unfold Oper.wp
  simp [execOp, ho, resolve, invoke, builtin, hs, hx, r1, Result.andThen]
  exact e
theorem fill_hd (S : List Value) (hl : S.length = 68) (Z : Array Value) (hZ : Z.size = 68) : Instr.fill (fun i => some (i * 68, 68)) Z [(0, .agg S.toArray)] = some S.toArray := by
  have h := Go.Great.fill_whole (s := 68) (by decide) [.agg S.toArray] Z (by simp [Value.cells, hl]) (by simp [hZ])
  simpa [Value.cells] using h
theorem wpList_litH (hgd : o.guard = none) (x : Operand) (ho : o.op = .buildSlice 38 1 #[(0, x)]) {S : List Value} (hx : a.eval x = .agg S.toArray) (hl : S.length = 68)
    (h : wpList Tryd.prog ops Q rest (a.put o.dst (.slice (some ⟨w.heap.size, 0, none⟩) 1 1)) (w.alloc (.cells S.toArray 26))) : wpList Tryd.prog ops Q (o :: rest) a w := by
  obtain ⟨i0, hi, hz0, hz1, hz2⟩ := info_parts Tryd.infoHd
  refine wpList_buildSlice hgd 38 26 1 _ ho S.toArray i0 _ Tryd.underlying38 hi hz0 (by rw [hz1]; decide) (by rw [hz1]; decide) ?_ h
  rw [hz1]
  have e : (#[((0 : Nat), x)].map fun (y : Nat × Operand) => (y.1, a.eval y.2)).toList = [(0, .agg S.toArray)] := by simp [hx]
  exact (congrArg _ e).trans (fill_hd S hl _ (by simp))
end
end Go.Proofs.YtkocbkckfkbmhaaDoor
