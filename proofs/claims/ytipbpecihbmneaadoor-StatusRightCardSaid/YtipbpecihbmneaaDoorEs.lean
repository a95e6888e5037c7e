/- Slices of entries: that read as a list of entries, and rows of the call's own. No condition. -/
import Derived.Test.YtipbpecihbmneaaDoorStat
import Derived.Test.YtipbpecihbmneaaDoorArr
import Derived.Test.YtipbpecihbmneaaDoorAfter
import Derived.Deep.MidRow
import Derived.Great.BuildSlice
namespace Go.Proofs.YtipbpecihbmneaaDoor
open Go.RowKit

/-- An entry as it lies: the height, and the hash's bytes. -/
def enV (e : En) : List Value := .int .i64 e.h :: vals e.tx
theorem enV_len {e : En} (k : e.Ok) : (enV e).length = 33 := by simp [enV, vals_length, k.2.1]
theorem enV_one (e : En) : ∀ u ∈ enV e, u.oneCell' = true := fun u hu => by
  rcases List.mem_cons.1 hu with rfl | hu
  · rfl
  · exact vals_one _ u hu
def zeroE : En := ⟨0, List.replicate 32 0⟩
theorem zeroE_ok : zeroE.Ok := ⟨by decide, rfl, fun x hx => by rw [List.eq_of_mem_replicate hx]; decide⟩
theorem vals_inj : ∀ {a b : List Nat}, vals a = vals b → a = b
  | [], [], _ => rfl
  | [], _ :: _, h => by simp [vals] at h
  | _ :: _, [], h => by simp [vals] at h
  | x :: a, y :: b, h => by
    simp only [vals, List.map_cons, List.cons.injEq] at h
    obtain ⟨h1, h2⟩ := h
    injection h1 with _ h1
    rw [vals_inj (a := a) (b := b) h2, show x = y by omega]
theorem enV_inj {e f : En} (h : enV e = enV f) : e = f := by
  simp only [enV, List.cons.injEq] at h
  obtain ⟨h1, h2⟩ := h
  injection h1 with _ h1
  have := vals_inj h2
  cases e; cases f; simp_all
def esV : List En → List Value
  | [] => []
  | h :: t => enV h ++ esV t
theorem OkEs.head {h : En} {t : List En} (k : OkEs (h :: t)) : h.Ok := k h List.mem_cons_self
theorem OkEs.app {a b : List En} (h : OkEs a) (k : OkEs b) : OkEs (a ++ b) := fun x hx => by
  rcases List.mem_append.1 hx with h1 | h1
  · exact h x h1
  · exact k x h1
theorem OkEs.take {l : List En} (h : OkEs l) (k : Nat) : OkEs (l.take k) := fun x hx => h x (List.mem_of_mem_take hx)
theorem OkEs.drop {l : List En} (h : OkEs l) (k : Nat) : OkEs (l.drop k) := fun x hx => h x (List.mem_of_mem_drop hx)
theorem okEs_nil : OkEs [] := fun x hx => by cases hx
theorem okEs_one {h : En} (k : h.Ok) : OkEs [h] := fun x hx => by rw [List.mem_singleton] at hx; subst hx; exact k
theorem esV_app : ∀ a b : List En, esV (a ++ b) = esV a ++ esV b
  | [], _ => rfl
  | h :: t, b => by rw [List.cons_append, esV, esV, esV_app t b, List.append_assoc]
theorem esV_one (h : En) : esV [h] = enV h := by rw [esV, esV, List.append_nil]
theorem esV_len : ∀ {l : List En}, OkEs l → (esV l).length = l.length * 33
  | [], _ => rfl
  | h :: t, k => by rw [esV, List.length_append, enV_len k.head, esV_len k.tail, List.length_cons]; omega
theorem esV_ones : ∀ l : List En, ∀ u ∈ esV l, u.oneCell' = true
  | [], u, hu => by cases hu
  | _ :: _, u, hu => by
    rcases List.mem_append.1 hu with h1 | h1
    · exact enV_one _ u h1
    · exact esV_ones _ u h1
/-- The k-th of headers. -/
def nthE (l : List En) (k : Nat) : En := l.getD k zeroE
theorem nthE_ok {l : List En} (h : OkEs l) (k : Nat) : (nthE l k).Ok := by
  unfold nthE
  rw [List.getD_eq_getElem?_getD]
  cases e : l[k]? with
  | none => exact zeroE_ok
  | some x => exact h x (List.mem_of_getElem? e)
theorem nthE_get {l : List En} {k : Nat} (h : k < l.length) : l[k] = nthE l k := by simp [nthE, List.getD, h]
theorem take_nthE {l : List En} {k : Nat} (h : k < l.length) : l.take (k + 1) = l.take k ++ [nthE l k] := by
  rw [List.take_succ_eq_append_getElem h, nthE_get h]
theorem split_nthE {l : List En} {k : Nat} (h : k < l.length) : l = l.take k ++ ([nthE l k] ++ l.drop (k + 1)) := by
  rw [← List.append_assoc, ← take_nthE h, List.take_append_drop]
theorem nthE_ext {l m : List En} (hl : l.length = m.length) (h : ∀ k, k < l.length → nthE l k = nthE m k) : l = m := by
  apply List.ext_getElem hl
  intro k h1 h2
  rw [nthE_get h1, nthE_get h2, h k h1]
theorem nthE_take {l : List En} {k j : Nat} (h : j < k) : nthE (l.take k) j = nthE l j := by simp [nthE, List.getD, h]
theorem nthE_drop (l : List En) (k j : Nat) : nthE (l.drop k) j = nthE l (k + j) := by simp [nthE, List.getD]

/-- A slice at A of n elements reads as the headers l. -/
structure Es (w : World) (A : Option Addr) (n : Nat) (l : List En) : Prop where
  len : l.length = n
  ok : OkEs l
  cel : 0 < n → ∃ b o, A = some ⟨b, o, none⟩ ∧ b < w.heap.size ∧ w.rangeAt b o (esV l)
theorem Es.nil (w : World) (A : Option Addr) : Es w A 0 [] := ⟨rfl, okEs_nil, fun h => absurd h (by omega)⟩
theorem Es.later {w w1 : World} {A : Option Addr} {n : Nat} {l : List En} (h : Es w A n l) (g : Below w.heap.size w w1) : Es w1 A n l :=
  ⟨h.len, h.ok, fun hn => by
    obtain ⟨b, o, e, hb, hc⟩ := h.cel hn
    exact ⟨b, o, e, Nat.lt_of_lt_of_le hb g.size, fun j v hj => by rw [← hc j v hj]; exact g.cell hb⟩⟩
theorem range_mid {w : World} {b o k : Nat} {X Y Z : List Value} (h : w.rangeAt b o (X ++ (Y ++ Z))) (hk : X.length = k) : w.rangeAt b (o + k) Y := fun j v hv => by
  have := h (k + j) v (by rw [← hk, List.getElem?_append_right (Nat.le_add_right _ _), Nat.add_sub_cancel_left, List.getElem?_append_left (List.getElem?_eq_some_iff.1 hv).1]; exact hv)
  rw [Nat.add_assoc]; exact this
theorem Es.at_ {w : World} {b o n k : Nat} {l : List En} (h : Es w (some ⟨b, o, none⟩) n l) (hk : k < n) : b < w.heap.size ∧ w.rangeAt b (o + k * 33) (enV (nthE l k)) := by
  obtain ⟨b', o', e, hb, hc⟩ := h.cel (by omega)
  injection e with e
  injection e with e1 e2
  subst e1 e2
  have hl := h.len
  refine ⟨hb, ?_⟩
  rw [split_nthE (l := l) (k := k) (by omega), esV_app, esV_app, esV_one] at hc
  exact range_mid hc (by rw [esV_len (h.ok.take k), List.length_take]; congr 1; omega)
theorem Es.left {w : World} {A : Option Addr} {n k : Nat} {l : List En} (h : Es w A n l) (hk : k ≤ n) : Es w A k (l.take k) := by
  have hl := h.len
  refine ⟨by rw [List.length_take]; omega, h.ok.take k, fun hp => ?_⟩
  obtain ⟨b, o, e, hb, hc⟩ := h.cel (by omega)
  refine ⟨b, o, e, hb, ?_⟩
  rw [← List.take_append_drop k l, esV_app] at hc
  exact range_mid (X := []) hc rfl
theorem Es.right {w : World} {b o n k : Nat} {l : List En} (h : Es w (some ⟨b, o, none⟩) n l) (hk : k < n) : Es w (some ⟨b, o + k * 33, none⟩) (n - k) (l.drop k) := by
  have hl := h.len
  refine ⟨by rw [List.length_drop]; omega, h.ok.drop k, fun hp => ?_⟩
  obtain ⟨b', o', e, hb, hc⟩ := h.cel (by omega)
  injection e with e
  injection e with e1 e2
  subst e1 e2
  refine ⟨b, o + k * 33, rfl, hb, ?_⟩
  rw [← List.take_append_drop k l, esV_app] at hc
  rw [← List.append_nil (esV (l.drop k))] at hc
  exact range_mid hc (by rw [esV_len (h.ok.take k), List.length_take]; congr 1; omega)
theorem add_at (b o i : Nat) : (⟨b, o, none⟩ : Addr).add i = ⟨b, o + i, none⟩ := by
  unfold Addr.add
  split
  · simp_all
  · rfl

/-- v is a row of the call's own that reads as the headers l. -/
structure OwnE (w0 : World) (v : Value) (n : Nat) (l : List En) (wr : World) : Prop where
  row : wr.ownsRow w0.heap.size 29 33 v n (esV l)
  ok : OkEs l
  bel : Below w0.heap.size w0 wr
theorem OwnE.len {w0 wr : World} {v : Value} {n : Nat} {l : List En} (h : OwnE w0 v n l wr) : l.length = n := by
  have := h.row.1
  rw [esV_len h.ok] at this; omega
theorem OwnE.later {w0 wr w1 : World} {v : Value} {n : Nat} {l : List En} (h : OwnE w0 v n l wr) (g : Below wr.heap.size wr w1) : OwnE w0 v n l w1 :=
  ⟨ownsRow_later h.row g, h.ok, h.bel.trans (g.mono h.bel.size)⟩
theorem OwnE.reads {w0 wr : World} {A : Option Addr} {n c : Nat} {l : List En} (h : OwnE w0 (.slice A n c) n l wr) : Es wr A n l := by
  refine ⟨h.len, h.ok, fun hn => ?_⟩
  obtain ⟨g, cap, hv, _, hlt⟩ := h.row.form hn
  have hA : A = some ⟨g, 0, none⟩ := by injection hv
  subst hA
  refine ⟨g, 0, rfl, hlt, fun j v hj => ?_⟩
  have := h.row.cells (g := g) rfl j v hj
  rwa [add_at] at this
theorem OwnE.shape {w0 wr : World} {v : Value} {n : Nat} {l : List En} (h : OwnE w0 v n l wr) : ∃ A c, v = .slice A n c ∧ n ≤ c := by
  rcases h.row.2 with ⟨rfl, rfl⟩ | ⟨g, cap, cur, rfl, _, _, hc, _⟩
  · exact ⟨none, 0, rfl, Nat.le_refl _⟩
  · exact ⟨_, _, rfl, hc⟩
theorem OwnE.new {w0 wr : World} {v : Value} {n : Nat} {l : List En} (h : OwnE w0 v n l wr) : ∀ k, v.ownBlock = some k → w0.heap.size ≤ k ∧ k < wr.heap.size := h.row.lt
theorem OwnE.none_ {w0 w : World} (b : Below w0.heap.size w0 w) : OwnE w0 (.slice none 0 0) 0 [] w := ⟨World.ownsRow_nil _ _ _ _, okEs_nil, b⟩
theorem OwnE.weaken {w0 w2 wr : World} {v : Value} {n : Nat} {l : List En} (h : OwnE w2 v n l wr) (b : Below w0.heap.size w0 w2) : OwnE w0 v n l wr :=
  ⟨by
    obtain ⟨h1, h2⟩ := h.row
    refine ⟨h1, ?_⟩
    rcases h2 with h2 | ⟨g, cap, cur, hv, hb, hh, r⟩
    · exact Or.inl h2
    · exact Or.inr ⟨g, cap, cur, hv, Nat.le_trans b.size hb, hh, r⟩, h.ok, b.trans (h.bel.mono b.size)⟩
theorem OwnE.cap {w0 wr : World} {A : Option Addr} {n c : Nat} {l : List En} (h : OwnE w0 (.slice A n c) n l wr) : n ≤ c := by
  obtain ⟨A', c', e, hc⟩ := h.shape
  injection e with e1 e2 e3
  omega
theorem Own.cap {w0 wr : World} {A : Option Addr} {n c : Nat} {L : List Nat} (h : Own w0 (.slice A n c) n L wr) : n ≤ c := by
  obtain ⟨A', c', e, hc⟩ := h.shape
  injection e with e1 e2 e3
  omega
theorem box_store {wa wb : World} {o : Obj} (g : (wa.alloc o).grownBy wb (some wa.heap.size)) : Below wa.heap.size wa wb := ((Below.refl wa.heap.size wa).alloc (Nat.le_refl _) o).grown g (by simp) (fun q e => by injection e; omega)
theorem Tryd.infoEn : (Tryd.prog.info? 29).map (fun i => (i.zero, i.size, i.bytes)) = some (some (.agg (enV zeroE).toArray), 33, 40) := by kernel_rfl
section
variable {w0 w : World} {ops : Array Oper} {rest : List Oper} {o : Oper} {a : Act} {Q : Exit → Act → World → Prop}
theorem run_appE {v : Value} {n : Nat} {l m : List En} {k c b q : Nat} (ty : TypeId) (hown : OwnE w0 v n l w) (hm : m.length = k) (ho : OkEs m) (hS : w.rangeAt b q (esV m)) (hlen : n + k ≤ 1073741824) :
    ∃ A' c' w', (Builtin.append_ #[22, 22] ty #[v, .slice (some ⟨b, q, none⟩) k c]).run Tryd.prog w = .ok (.slice A' (n + k) c') w' ∧ OwnE w0 (.slice A' (n + k) c') (n + k) (l ++ m) w' ∧ w.grownBy w' v.ownBlock ∧ n + k ≤ c' ∧ (Value.ownBlock (.slice A' (n + k) c') = v.ownBlock ∨ Value.ownBlock (.slice A' (n + k) c') = some w.heap.size) := by
  obtain ⟨i0, hi, hz0, hz1, hz2⟩ := info_parts Tryd.infoEn
  obtain ⟨v', w', a1, a2, a3, _, a5⟩ := run_append_own_at (P := Tryd.prog) w w0.heap.size 22 ty 29 i0 _ 33 40 Tryd.underlying22 hi hz0 hz1 hz2 rfl (by decide) v n (esV l) hown.row ⟨b, q, none⟩ k c (esV m) (by rw [esV_len ho, hm]) (fun j u hj => by
    rw [add_at]; exact hS j u hj) (esV_ones _) (by unfold maxLen; omega) (by omega) hown.bel.size
  have O : OwnE w0 v' (n + k) (l ++ m) w' := ⟨by rw [esV_app]; exact a2, hown.ok.app ho, hown.bel.grown a3 hown.bel.size (fun q hq => (hown.new q hq).1)⟩
  obtain ⟨A', c', rfl, hc⟩ := O.shape
  exact ⟨A', c', w', a1, O, a3, hc, a5⟩
theorem wpList_appE (hgd : o.guard = none) (s x : Operand) (ho : o.op = .call { callee := .builtin .append, args := #[s, x], argTypes := #[22, 22] })
    {v : Value} {n : Nat} {l : List En} (hs : a.eval s = v) (hown : OwnE w0 v n l w) {b : Nat} {h : En} (hx : a.eval x = .slice (some ⟨b, 0, none⟩) 1 1) (hk : h.Ok) (hr : Ro w b 29 (enV h)) (hlen : n + 1 ≤ 1073741824)
    (hw : ∀ A' c' w', n + 1 ≤ c' → OwnE w0 (.slice A' (n + 1) c') (n + 1) (l ++ [h]) w' → w.grownBy w' v.ownBlock → wpList Tryd.prog ops Q rest (a.put o.dst (.slice A' (n + 1) c')) w') : wpList Tryd.prog ops Q (o :: rest) a w := by
  refine wpList_plain hgd fun K hK => ?_
  obtain ⟨A', c', w', r1, r2, r3, r4, _⟩ := run_appE (w0 := w0) (w := w) (m := [h]) (k := 1) (c := 1) (b := b) (q := 0) o.type hown rfl (okEs_one hk) (fun j u hj => by rw [esV_one] at hj; rw [Nat.zero_add]; exact hr.cell hj) hlen
  have e := hK _ _ (hw A' c' w' r4 r2 r3)
  unfold Oper.wp
  simp [execOp, ho, resolve, invoke, builtin, hs, hx, r1, Result.andThen]
  exact e
theorem fill_en (S : List Value) (hl : S.length = 33) (Z : Array Value) (hZ : Z.size = 33) : Instr.fill (fun i => some (i * 33, 33)) Z [(0, .agg S.toArray)] = some S.toArray := by
  have h := Go.Great.fill_whole (s := 33) (by decide) [.agg S.toArray] Z (by simp [Value.cells, hl]) (by simp [hZ])
  simpa [Value.cells] using h
theorem wpList_litE (hgd : o.guard = none) (x : Operand) (ho : o.op = .buildSlice 22 1 #[(0, x)]) {S : List Value} (hx : a.eval x = .agg S.toArray) (hl : S.length = 33)
    (h : wpList Tryd.prog ops Q rest (a.put o.dst (.slice (some ⟨w.heap.size, 0, none⟩) 1 1)) (w.alloc (.cells S.toArray 29))) : wpList Tryd.prog ops Q (o :: rest) a w := by
  obtain ⟨i0, hi, hz0, hz1, hz2⟩ := info_parts Tryd.infoEn
  refine wpList_buildSlice hgd 22 29 1 _ ho S.toArray i0 _ Tryd.underlying22 hi hz0 (by rw [hz1]; decide) (by rw [hz1]; decide) ?_ h
  rw [hz1]
  have e : (#[((0 : Nat), x)].map fun (y : Nat × Operand) => (y.1, a.eval y.2)).toList = [(0, .agg S.toArray)] := by simp [hx]
  exact (congrArg _ e).trans (fill_en S hl _ (by simp))
end
end Go.Proofs.YtipbpecihbmneaaDoor
