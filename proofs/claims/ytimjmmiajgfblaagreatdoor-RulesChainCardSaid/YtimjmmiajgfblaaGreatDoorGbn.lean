/- Slices of headers: that read as a list of headers, and rows of the call's own. No condition. -/
import Derived.Test.YtimjmmiajgfblaaGreatDoorIds
import Derived.Great.BuildSlice
import Derived.Test.YtimjmmiajgfblaaGreatDoorGal
import Derived.Laws.StructEq
import Derived.BigQuiet
import Derived.WalkSmall
import Derived.Test.YtimjmmiajgfblaaGreatDoorGag
import Derived.Test.YtimjmmiajgfblaaGreatDoorGad
import Derived.ChangeOld
import Derived.ChangeMaps5
import Derived.Laws.IdiomArrays
import Derived.Below
import Derived.Test.YtimjmmiajgfblaaGreatDoorGab

namespace Go.Proofs.YtimjmmiajgfblaaGreatDoor
open Go.RowKit

def hsV : List Hd → List Value
  | [] => []
  | h :: t => hdV h ++ hsV t
def hsB : List Hd → List Nat
  | [] => []
  | h :: t => hdB h ++ hsB t
def OkAll (l : List Hd) : Prop := ∀ h ∈ l, h.Ok
theorem OkAll.tail {h : Hd} {t : List Hd} (k : OkAll (h :: t)) : OkAll t := fun x hx => k x (List.mem_cons_of_mem _ hx)
theorem OkAll.head {h : Hd} {t : List Hd} (k : OkAll (h :: t)) : h.Ok := k h List.mem_cons_self
theorem OkAll.app {a b : List Hd} (h : OkAll a) (k : OkAll b) : OkAll (a ++ b) := fun x hx => by
  rcases List.mem_append.1 hx with h1 | h1
  · exact h x h1
  · exact k x h1
theorem OkAll.take {l : List Hd} (h : OkAll l) (k : Nat) : OkAll (l.take k) := fun x hx => h x (List.mem_of_mem_take hx)
theorem OkAll.drop {l : List Hd} (h : OkAll l) (k : Nat) : OkAll (l.drop k) := fun x hx => h x (List.mem_of_mem_drop hx)
theorem okAll_nil : OkAll [] := fun x hx => by cases hx
theorem okAll_one {h : Hd} (k : h.Ok) : OkAll [h] := fun x hx => by rw [List.mem_singleton] at hx; subst hx; exact k
theorem hsV_app : ∀ a b : List Hd, hsV (a ++ b) = hsV a ++ hsV b
  | [], _ => rfl
  | h :: t, b => by rw [List.cons_append, hsV, hsV, hsV_app t b, List.append_assoc]
theorem hsB_app : ∀ a b : List Hd, hsB (a ++ b) = hsB a ++ hsB b
  | [], _ => rfl
  | h :: t, b => by rw [List.cons_append, hsB, hsB, hsB_app t b, List.append_assoc]
theorem hsV_one (h : Hd) : hsV [h] = hdV h := by rw [hsV, hsV, List.append_nil]
theorem hsB_one (h : Hd) : hsB [h] = hdB h := by rw [hsB, hsB, List.append_nil]
theorem hsV_len : ∀ {l : List Hd}, OkAll l → (hsV l).length = l.length * 68
  | [], _ => rfl
  | h :: t, k => by rw [hsV, List.length_append, hdV_len k.head, hsV_len k.tail, List.length_cons]; omega
theorem hsB_len : ∀ {l : List Hd}, OkAll l → (hsB l).length = l.length * 80
  | [], _ => rfl
  | h :: t, k => by rw [hsB, List.length_append, hdB_len k.head, hsB_len k.tail, List.length_cons]; omega
theorem hsB_byt : ∀ {l : List Hd}, OkAll l → AllB (hsB l)
  | [], _ => allB_nil
  | _ :: _, k => (hdB_byt k.head).app (hsB_byt k.tail)
theorem hsV_ones : ∀ l : List Hd, ∀ u ∈ hsV l, u.oneCell' = true
  | [], u, hu => by cases hu
  | _ :: _, u, hu => by
    rcases List.mem_append.1 hu with h1 | h1
    · exact hdV_one _ u h1
    · exact hsV_ones _ u h1
/-- The k-th of headers. -/
def nthH (l : List Hd) (k : Nat) : Hd := l.getD k zeroH
theorem nthH_ok {l : List Hd} (h : OkAll l) (k : Nat) : (nthH l k).Ok := by
  unfold nthH
  rw [List.getD_eq_getElem?_getD]
  cases e : l[k]? with
  | none => exact zeroH_ok
  | some x => exact h x (List.mem_of_getElem? e)
theorem nthH_get {l : List Hd} {k : Nat} (h : k < l.length) : l[k] = nthH l k := by simp [nthH, List.getD, h]
theorem take_nthH {l : List Hd} {k : Nat} (h : k < l.length) : l.take (k + 1) = l.take k ++ [nthH l k] := by
  rw [List.take_succ_eq_append_getElem h, nthH_get h]
theorem split_nthH {l : List Hd} {k : Nat} (h : k < l.length) : l = l.take k ++ ([nthH l k] ++ l.drop (k + 1)) := by
  rw [← List.append_assoc, ← take_nthH h, List.take_append_drop]
theorem nthH_ext {l m : List Hd} (hl : l.length = m.length) (h : ∀ k, k < l.length → nthH l k = nthH m k) : l = m := by
  apply List.ext_getElem hl
  intro k h1 h2
  rw [nthH_get h1, nthH_get h2, h k h1]
theorem nthH_take {l : List Hd} {k j : Nat} (h : j < k) : nthH (l.take k) j = nthH l j := by simp [nthH, List.getD, h]
theorem nthH_drop (l : List Hd) (k j : Nat) : nthH (l.drop k) j = nthH l (k + j) := by simp [nthH, List.getD]

/-- A slice at A of n elements reads as the headers l. -/
structure Hs (w : World) (A : Option Addr) (n : Nat) (l : List Hd) : Prop where
  len : l.length = n
  ok : OkAll l
  cel : 0 < n → ∃ b o, A = some ⟨b, o, none⟩ ∧ b < w.heap.size ∧ w.rangeAt b o (hsV l)
theorem Hs.nil (w : World) (A : Option Addr) : Hs w A 0 [] := ⟨rfl, okAll_nil, fun h => absurd h (by omega)⟩
theorem Hs.later {w w1 : World} {A : Option Addr} {n : Nat} {l : List Hd} (h : Hs w A n l) (g : Below w.heap.size w w1) : Hs w1 A n l :=
  ⟨h.len, h.ok, fun hn => by
    obtain ⟨b, o, e, hb, hc⟩ := h.cel hn
    exact ⟨b, o, e, Nat.lt_of_lt_of_le hb g.size, fun j v hj => by rw [← hc j v hj]; exact g.cell hb⟩⟩
theorem range_mid {w : World} {b o k : Nat} {X Y Z : List Value} (h : w.rangeAt b o (X ++ (Y ++ Z))) (hk : X.length = k) : w.rangeAt b (o + k) Y := fun j v hv => by
  have := h (k + j) v (by rw [← hk, List.getElem?_append_right (Nat.le_add_right _ _), Nat.add_sub_cancel_left, List.getElem?_append_left (List.getElem?_eq_some_iff.1 hv).1]; exact hv)
  rw [Nat.add_assoc]; exact this
theorem Hs.at_ {w : World} {b o n k : Nat} {l : List Hd} (h : Hs w (some ⟨b, o, none⟩) n l) (hk : k < n) : b < w.heap.size ∧ w.rangeAt b (o + k * 68) (hdV (nthH l k)) := by
  obtain ⟨b', o', e, hb, hc⟩ := h.cel (by omega)
  injection e with e
  injection e with e1 e2
  subst e1 e2
  have hl := h.len
  refine ⟨hb, ?_⟩
  rw [split_nthH (l := l) (k := k) (by omega), hsV_app, hsV_app, hsV_one] at hc
  exact range_mid hc (by rw [hsV_len (h.ok.take k), List.length_take]; congr 1; omega)
theorem Hs.left {w : World} {A : Option Addr} {n k : Nat} {l : List Hd} (h : Hs w A n l) (hk : k ≤ n) : Hs w A k (l.take k) := by
  have hl := h.len
  refine ⟨by rw [List.length_take]; omega, h.ok.take k, fun hp => ?_⟩
  obtain ⟨b, o, e, hb, hc⟩ := h.cel (by omega)
  refine ⟨b, o, e, hb, ?_⟩
  rw [← List.take_append_drop k l, hsV_app] at hc
  exact range_mid (X := []) hc rfl
theorem Hs.right {w : World} {b o n k : Nat} {l : List Hd} (h : Hs w (some ⟨b, o, none⟩) n l) (hk : k < n) : Hs w (some ⟨b, o + k * 68, none⟩) (n - k) (l.drop k) := by
  have hl := h.len
  refine ⟨by rw [List.length_drop]; omega, h.ok.drop k, fun hp => ?_⟩
  obtain ⟨b', o', e, hb, hc⟩ := h.cel (by omega)
  injection e with e
  injection e with e1 e2
  subst e1 e2
  refine ⟨b, o + k * 68, rfl, hb, ?_⟩
  rw [← List.take_append_drop k l, hsV_app] at hc
  rw [← List.append_nil (hsV (l.drop k))] at hc
  exact range_mid hc (by rw [hsV_len (h.ok.take k), List.length_take]; congr 1; omega)
theorem range_prev {w : World} {b o : Nat} {h : Hd} (hr : w.rangeAt b o (hdV h)) : w.rangeAt b (o + 1) (vals h.p) :=
  range_mid (X := [u32v h.v]) hr rfl
theorem range_root {w : World} {b o : Nat} {h : Hd} (k : h.Ok) (hr : w.rangeAt b o (hdV h)) : w.rangeAt b (o + 33) (vals h.r) :=
  range_mid (X := u32v h.v :: vals h.p) (Y := vals h.r) (Z := [u32v h.t, u32v h.b, u32v h.n]) (by simpa [hdV] using hr) (by simp [vals_length, k.p])
theorem add_at (b o i : Nat) : (⟨b, o, none⟩ : Addr).add i = ⟨b, o + i, none⟩ := by
  unfold Addr.add
  split
  · simp_all
  · rfl

/-- v is a row of the call's own that reads as the headers l. -/
structure OwnH (w0 : World) (v : Value) (n : Nat) (l : List Hd) (wr : World) : Prop where
  row : wr.ownsRow w0.heap.size 27 68 v n (hsV l)
  ok : OkAll l
  bel : Below w0.heap.size w0 wr
theorem OwnH.len {w0 wr : World} {v : Value} {n : Nat} {l : List Hd} (h : OwnH w0 v n l wr) : l.length = n := by
  have := h.row.1
  rw [hsV_len h.ok] at this; omega
theorem OwnH.later {w0 wr w1 : World} {v : Value} {n : Nat} {l : List Hd} (h : OwnH w0 v n l wr) (g : Below wr.heap.size wr w1) : OwnH w0 v n l w1 :=
  ⟨ownsRow_later h.row g, h.ok, h.bel.trans (g.mono h.bel.size)⟩
theorem OwnH.reads {w0 wr : World} {A : Option Addr} {n c : Nat} {l : List Hd} (h : OwnH w0 (.slice A n c) n l wr) : Hs wr A n l := by
  refine ⟨h.len, h.ok, fun hn => ?_⟩
  obtain ⟨g, cap, hv, _, hlt⟩ := h.row.form hn
  have hA : A = some ⟨g, 0, none⟩ := by injection hv
  subst hA
  refine ⟨g, 0, rfl, hlt, fun j v hj => ?_⟩
  have := h.row.cells (g := g) rfl j v hj
  rwa [add_at] at this
theorem OwnH.shape {w0 wr : World} {v : Value} {n : Nat} {l : List Hd} (h : OwnH w0 v n l wr) : ∃ A c, v = .slice A n c ∧ n ≤ c := by
  rcases h.row.2 with ⟨rfl, rfl⟩ | ⟨g, cap, cur, rfl, _, _, hc, _⟩
  · exact ⟨none, 0, rfl, Nat.le_refl _⟩
  · exact ⟨_, _, rfl, hc⟩
theorem OwnH.new {w0 wr : World} {v : Value} {n : Nat} {l : List Hd} (h : OwnH w0 v n l wr) : ∀ k, v.ownBlock = some k → w0.heap.size ≤ k ∧ k < wr.heap.size := h.row.lt
theorem OwnH.none_ {w0 w : World} (b : Below w0.heap.size w0 w) : OwnH w0 (.slice none 0 0) 0 [] w := ⟨World.ownsRow_nil _ _ _ _, okAll_nil, b⟩
theorem OwnH.weaken {w0 w2 wr : World} {v : Value} {n : Nat} {l : List Hd} (h : OwnH w2 v n l wr) (b : Below w0.heap.size w0 w2) : OwnH w0 v n l wr :=
  ⟨by
    obtain ⟨h1, h2⟩ := h.row
    refine ⟨h1, ?_⟩
    rcases h2 with h2 | ⟨g, cap, cur, hv, hb, hh, r⟩
    · exact Or.inl h2
    · exact Or.inr ⟨g, cap, cur, hv, Nat.le_trans b.size hb, hh, r⟩, h.ok, b.trans (h.bel.mono b.size)⟩
theorem OwnH.cap {w0 wr : World} {A : Option Addr} {n c : Nat} {l : List Hd} (h : OwnH w0 (.slice A n c) n l wr) : n ≤ c := by
  obtain ⟨A', c', e, hc⟩ := h.shape
  injection e with e1 e2 e3
  omega
theorem Own.cap {w0 wr : World} {A : Option Addr} {n c : Nat} {L : List Nat} (h : Own w0 (.slice A n c) n L wr) : n ≤ c := by
  obtain ⟨A', c', e, hc⟩ := h.shape
  injection e with e1 e2 e3
  omega
theorem box_store {wa wb : World} {o : Obj} (g : (wa.alloc o).grownBy wb (some wa.heap.size)) : Below wa.heap.size wa wb := ((Below.refl wa.heap.size wa).alloc (Nat.le_refl _) o).grown g (by simp) (fun q e => by injection e; omega)
theorem Tryz.infoHd : (Tryz.prog.info? 27).map (fun i => (i.zero, i.size, i.bytes)) = some (some (.agg (hdV zeroH).toArray), 68, 80) := by kernel_rfl
section
variable {w0 w : World} {ops : Array Oper} {rest : List Oper} {o : Oper} {a : Act} {Q : Exit → Act → World → Prop}
theorem run_appH {v : Value} {n : Nat} {l m : List Hd} {k c b q : Nat} (ty : TypeId) (hown : OwnH w0 v n l w) (hm : m.length = k) (ho : OkAll m) (hS : w.rangeAt b q (hsV m)) (hlen : n + k ≤ 1073741824) :
    ∃ A' c' w', (Builtin.append_ #[30, 30] ty #[v, .slice (some ⟨b, q, none⟩) k c]).run Tryz.prog w = .ok (.slice A' (n + k) c') w' ∧ OwnH w0 (.slice A' (n + k) c') (n + k) (l ++ m) w' ∧ w.grownBy w' v.ownBlock ∧ n + k ≤ c' ∧ (Value.ownBlock (.slice A' (n + k) c') = v.ownBlock ∨ Value.ownBlock (.slice A' (n + k) c') = some w.heap.size) := by
  obtain ⟨i0, hi, hz0, hz1, hz2⟩ := info_parts Tryz.infoHd
  obtain ⟨v', w', a1, a2, a3, _, a5⟩ := run_append_own_at (P := Tryz.prog) w w0.heap.size 30 ty 27 i0 _ 68 80 Tryz.underlying30 hi hz0 hz1 hz2 rfl (by decide) v n (hsV l) hown.row ⟨b, q, none⟩ k c (hsV m) (by rw [hsV_len ho, hm]) (fun j u hj => by
    rw [add_at]; exact hS j u hj) (hsV_ones _) (by unfold maxLen; omega) (by omega) hown.bel.size
  have O : OwnH w0 v' (n + k) (l ++ m) w' := ⟨by rw [hsV_app]; exact a2, hown.ok.app ho, hown.bel.grown a3 hown.bel.size (fun q hq => (hown.new q hq).1)⟩
  obtain ⟨A', c', rfl, hc⟩ := O.shape
  exact ⟨A', c', w', a1, O, a3, hc, a5⟩
theorem wpList_appH (hgd : o.guard = none) (s x : Operand) (ho : o.op = .call { callee := .builtin .append, args := #[s, x], argTypes := #[30, 30] })
    {v : Value} {n : Nat} {l : List Hd} (hs : a.eval s = v) (hown : OwnH w0 v n l w) {b : Nat} {h : Hd} (hx : a.eval x = .slice (some ⟨b, 0, none⟩) 1 1) (hk : h.Ok) (hr : Ro w b 27 (hdV h)) (hlen : n + 1 ≤ 1073741824)
    (hw : ∀ A' c' w', n + 1 ≤ c' → OwnH w0 (.slice A' (n + 1) c') (n + 1) (l ++ [h]) w' → w.grownBy w' v.ownBlock → wpList Tryz.prog ops Q rest (a.put o.dst (.slice A' (n + 1) c')) w') : wpList Tryz.prog ops Q (o :: rest) a w := by
  refine wpList_plain hgd fun K hK => ?_
  obtain ⟨A', c', w', r1, r2, r3, r4, _⟩ := run_appH (w0 := w0) (w := w) (m := [h]) (k := 1) (c := 1) (b := b) (q := 0) o.type hown rfl (okAll_one hk) (fun j u hj => by rw [hsV_one] at hj; rw [Nat.zero_add]; exact hr.cell hj) hlen
  have e := hK _ _ (hw A' c' w' r4 r2 r3)
  unfold Oper.wp
  simp [execOp, ho, resolve, invoke, builtin, hs, hx, r1, Result.andThen]
  exact e
theorem fill_hd (S : List Value) (hl : S.length = 68) (Z : Array Value) (hZ : Z.size = 68) : Instr.fill (fun i => some (i * 68, 68)) Z [(0, .agg S.toArray)] = some S.toArray := by
  have h := Go.Great.fill_whole (s := 68) (by decide) [.agg S.toArray] Z (by simp [Value.cells, hl]) (by simp [hZ])
  simpa [Value.cells] using h
theorem wpList_litH (hgd : o.guard = none) (x : Operand) (ho : o.op = .buildSlice 30 1 #[(0, x)]) {S : List Value} (hx : a.eval x = .agg S.toArray) (hl : S.length = 68)
    (h : wpList Tryz.prog ops Q rest (a.put o.dst (.slice (some ⟨w.heap.size, 0, none⟩) 1 1)) (w.alloc (.cells S.toArray 27))) : wpList Tryz.prog ops Q (o :: rest) a w := by
  obtain ⟨i0, hi, hz0, hz1, hz2⟩ := info_parts Tryz.infoHd
  refine wpList_buildSlice hgd 30 27 1 _ ho S.toArray i0 _ Tryz.underlying30 hi hz0 (by rw [hz1]; decide) (by rw [hz1]; decide) ?_ h
  rw [hz1]
  have e : (#[((0 : Nat), x)].map fun (y : Nat × Operand) => (y.1, a.eval y.2)).toList = [(0, .agg S.toArray)] := by simp [hx]
  exact (congrArg _ e).trans (fill_hd S hl _ (by simp))
end
end Go.Proofs.YtimjmmiajgfblaaGreatDoor

/- Words on hashes that are compared, and ranges that live on. No condition. -/
namespace Go.Proofs.YtimjmmiajgfblaaGreatDoor
open Go.RowKit

theorem eqV {H K : List Nat} (hH : H.length = 32) (hK : K.length = 32) : ∀ w, (Op.equalIn 10000 25 (.agg (vals H).toArray) (.agg (vals K).toArray)).run Tryz.prog w = .ok (eqB H K) w := fun w => eq_hash hH hK w

theorem range_later {w w1 : World} {b o : Nat} {cs : List Value} (h : w.rangeAt b o cs) (hb : b < w.heap.size) (g : Below w.heap.size w w1) : w1.rangeAt b o cs := fun j v hj => by
  rw [← h j v hj]; exact g.cell hb

end Go.Proofs.YtimjmmiajgfblaaGreatDoor

/- Whether two headers, and two lists of headers, are the same. No condition. -/
namespace Go.Proofs.YtimjmmiajgfblaaGreatDoor
set_option maxRecDepth 100000
open Go.RowKit

theorem eq_hash9 {H K : List Nat} (hH : H.length = 32) (hK : K.length = 32) (w : World) : (Op.equalIn 9999 25 (.agg (vals H).toArray) (.agg (vals K).toArray)).run Tryz.prog w = .ok (eqB H K) w := by
  obtain ⟨i, hi⟩ : ∃ i, Tryz.prog.info? 5 = some i := Option.isSome_iff_exists.1 (by kernel_rfl)
  rw [run_equalIn_array w 9998 (e := 5) (n := 32) _ _ Tryz.underlying25 hi, show Tryz.prog.cellsOf 5 = 1 from by kernel_rfl, eqItems_bytes H K 9997 w (List.range 32) (fun i hi => by
    have := List.mem_range.1 hi
    omega)]
  congr 1
  unfold eqB
  rw [decide_eq_decide]
  constructor
  · intro h
    exact nth_ext (by omega) fun k hk => h k (List.mem_range.2 (by omega))
  · rintro rfl
    exact fun _ _ => rfl
theorem fields_hd : (Tryz.prog.fieldsOf 27).toList.map (fun f => (f.name, f.type, f.offset)) = [("Version", 22, 0), ("Prev", 25, 1), ("Root", 25, 33), ("Time", 22, 65), ("Bits", 22, 66), ("Nonce", 22, 67)] := by kernel_rfl
theorem eqFields_step {d : Nat} {xs ys : Array Value} {w : World} {f : Field} {fs : List Field} {nm : String} {T : TypeId} {o : Nat} {a b : Value} {r : Bool} (h : (f.name, f.type, f.offset) = (nm, T, o)) (hn : nm ≠ "_")
    (ha : (part T xs o).run Tryz.prog w = .ok a w) (hb : (part T ys o).run Tryz.prog w = .ok b w) (hr : (Op.equalIn d T a b).run Tryz.prog w = .ok r w) :
    (Op.eqFields d xs ys (f :: fs)).run Tryz.prog w = if r then (Op.eqFields d xs ys fs).run Tryz.prog w else .ok false w := by
  simp only [Prod.mk.injEq] at h
  obtain ⟨h1, h2, h3⟩ := h
  subst h1 h2 h3
  simp only [Op.eqFields, hn, ne_eq, not_false_eq_true, if_true, Sem.run_bind, ha, hb, hr, Result.andThen_ok]
  cases r <;> simp
theorem part_u32 {xs : List Value} {o : Nat} {v : Value} (h : xs[o]? = some v) (w : World) : (part 22 xs.toArray o).run Tryz.prog w = .ok v w := by
  simp [part, isAgg, run_underlying Tryz.underlying22, h]
theorem part_hash {xs X Y Z : List Value} {o : Nat} (h : xs = X ++ (Y ++ Z)) (hX : X.length = o) (hY : Y.length = 32) (w : World) : (part 25 xs.toArray o).run Tryz.prog w = .ok (.agg Y.toArray) w := by
  have hi := Tryz.info26
  cases hq : Tryz.prog.info? 25 with
  | none => simp [hq] at hi
  | some i =>
    have hs : i.size = 32 := by simpa [hq] using hi
    have e : List.take 32 (List.drop o (X ++ (Y ++ Z))) = Y := by rw [← hX, List.drop_left, ← hY, List.take_left]
    subst h
    simp [part, isAgg, run_underlying Tryz.underlying25, sizeOf, typeInfo, hq, hs, e]
theorem eq_hd {h g : Hd} (o : h.Ok) (k : g.Ok) (w : World) : (Op.equalIn 10000 27 (.agg (hdV h).toArray) (.agg (hdV g).toArray)).run Tryz.prog w = .ok (decide (h = g)) w := by
  rw [run_equalIn_struct w 9999 _ _ _ (by kernel_rfl) (by kernel_rfl)]
  have hf := fields_hd
  obtain ⟨fs, hfs⟩ : ∃ fs, (Tryz.prog.fieldsOf 27).toList = fs := ⟨_, rfl⟩
  rw [hfs] at hf ⊢
  match fs, hf with
  | [f0, f1, f2, f3, f4, f5], hf =>
    simp only [List.map_cons, List.map_nil, List.cons.injEq, and_true] at hf
    obtain ⟨h0, h1, h2, h3, h4, h5⟩ := hf
    have n0 : (hdV h)[0]? = some (.int .u32 (h.v : Nat)) := hdV_no o (k := 0) (by decide)
    have n1 : (hdV h)[65]? = some (.int .u32 (h.t : Nat)) := hdV_no o (k := 1) (by decide)
    have n2 : (hdV h)[66]? = some (.int .u32 (h.b : Nat)) := hdV_no o (k := 2) (by decide)
    have n3 : (hdV h)[67]? = some (.int .u32 (h.n : Nat)) := hdV_no o (k := 3) (by decide)
    have m0 : (hdV g)[0]? = some (.int .u32 (g.v : Nat)) := hdV_no k (k := 0) (by decide)
    have m1 : (hdV g)[65]? = some (.int .u32 (g.t : Nat)) := hdV_no k (k := 1) (by decide)
    have m2 : (hdV g)[66]? = some (.int .u32 (g.b : Nat)) := hdV_no k (k := 2) (by decide)
    have m3 : (hdV g)[67]? = some (.int .u32 (g.n : Nat)) := hdV_no k (k := 3) (by decide)
    have qi : ∀ a b : Nat, (Op.equalIn 9999 22 (.int .u32 (a : Nat)) (.int .u32 (b : Nat))).run Tryz.prog w = .ok ((a : Int) == (b : Int)) w := fun a b => run_equalIn_int w 9998 _ _ _ _ _ Tryz.underlying22
    have hp : ∀ {x : Hd}, x.Ok → (part 25 (hdV x).toArray 1).run Tryz.prog w = .ok (.agg (vals x.p).toArray) w := fun {x} o => part_hash (X := [u32v x.v]) rfl rfl (by rw [vals_length, o.p]) w
    have hr : ∀ {x : Hd}, x.Ok → (part 25 (hdV x).toArray 33).run Tryz.prog w = .ok (.agg (vals x.r).toArray) w := fun {x} o => part_hash (X := u32v x.v :: vals x.p) (Z := [u32v x.t, u32v x.b, u32v x.n]) (by simp [hdV]) (by simp [vals_length, o.p]) (by rw [vals_length, o.r]) w
    rw [eqFields_step h0 (by decide) (part_u32 n0 w) (part_u32 m0 w) (qi _ _), eqFields_step h1 (by decide) (hp o) (hp k) (eq_hash9 o.p k.p w), eqFields_step h2 (by decide) (hr o) (hr k) (eq_hash9 o.r k.r w), eqFields_step h3 (by decide) (part_u32 n1 w) (part_u32 m1 w) (qi _ _),
      eqFields_step h4 (by decide) (part_u32 n2 w) (part_u32 m2 w) (qi _ _), eqFields_step h5 (by decide) (part_u32 n3 w) (part_u32 m3 w) (qi _ _)]
    have nil : (Op.eqFields 9999 (hdV h).toArray (hdV g).toArray []).run Tryz.prog w = .ok true w := by simp [Op.eqFields]
    rw [nil]
    have iff : (h = g) ↔ (((h.v : Int) == (g.v : Int)) = true ∧ eqB h.p g.p = true ∧ eqB h.r g.r = true ∧ ((h.t : Int) == (g.t : Int)) = true ∧ ((h.b : Int) == (g.b : Int)) = true ∧ ((h.n : Int) == (g.n : Int)) = true) := by
      simp only [beq_iff_eq, eqB, decide_eq_true_eq]
      constructor
      · rintro rfl; simp
      · rintro ⟨a, b, c, d, e, f⟩
        exact Hd.ext' (by omega) b c (by omega) (by omega) (by omega)
    rw [show decide (h = g) = decide _ from decide_eq_decide.2 iff]
    cases (h.v : Int) == (g.v : Int) <;> cases eqB h.p g.p <;> cases eqB h.r g.r <;> cases (h.t : Int) == (g.t : Int) <;> cases (h.b : Int) == (g.b : Int) <;> cases (h.n : Int) == (g.n : Int) <;> simp
end Go.Proofs.YtimjmmiajgfblaaGreatDoor

/- A region that leaves its order open, taken in segments: some operations that only read and call, in the order of the text, then one that may come up alone; and so on. -/
namespace Go.Proofs.YtimjmmiajgfblaaGreatDoor
open Go.RowKit

section
variable {P : Program} {ops : Array Oper} {Q : Exit → Act → World → Prop} {W : World}

/-- m operations from k on that only read and call what makes memory. -/
theorem wpK_seg (k m : Nat) {f : Nat} {listed : Array Bool} {a : Act} {w : World} (hs : Region.noSelect ops = true) (hQ : ∀ c a (d : Tmp) v w, Q (.panic c) (Act.put a (some d) v) w → Q (.panic c) a w)
    (hn : ((ops.toList.drop k).take m).length = m) (hB : preB .any ops m k listed = true) (hO : ownB a.tmps.size ((ops.toList.drop k).take m) = true) (hW : Grows W w)
    (h : ∃ fin, (∀ w', Grows W w' → wpQuiet P ops (fun w'' => ∃ u : After w', w'' = u.w) (fun a' => a' = fin) ((ops.toList.drop k).take m) a) ∧ wpK P .any ops Q W f (preListed m k listed) fin w) :
    wpK P .any ops Q W (f + m) listed a w := by
  obtain ⟨fin, hq, ht⟩ := h
  have := wpK_lex (md := .any) (Q := Q) (f := f) hs hQ ((ops.toList.drop k).take m) k listed a w (fun j hj => by
    rw [hn] at hj
    rw [List.getElem?_take_of_lt hj, List.getElem?_drop]
    simp) (by rw [hn]; exact hB) hO hW hq (by rw [hn]; exact ht)
  rwa [hn] at this

/-- The region, from its start. -/
theorem wp_region_seg {id : Nat} {a : Act} (hm : P.follows .mixedOrders = true) (h : ∀ w', Grows W w' → wpK P .any ops Q W ops.size (Array.replicate ops.size false) a w') : (Code.region id ops true).wp P Q a W :=
  wp_region_any hm (wpAny_of_wpK (W := W) _ _ _ _ (h _ ⟨rfl, rfl, rfl, Nat.le_refl _, fun _ _ => rfl⟩))

/-- What holds of every world behind a later one holds of those behind the first. -/
theorem wpK_from {md : Region.Mode} {W' : World} (g : Grows W W') : ∀ (f : Nat) (listed : Array Bool) (a : Act) (w : World), wpK P md ops Q W' f listed a w → wpK P md ops Q W f listed a w
  | 0, _, _, _, h => h
  | f + 1, _, _, _, h => fun w1 g1 => ⟨(h w1 g1).1, fun i hi => wpOp_mono (fun a' w'' h' => ⟨g.trans h'.1, wpK_from g f _ a' w'' h'.2⟩) ((h w1 g1).2 i hi)⟩

/-- A call of a Go function that may come up alone. -/
theorem wpK_call {f i : Nat} {o : Oper} {listed : Array Bool} {a : Act} {w : World} (hr : Region.ready .any ops listed = [i]) (ho : ops[i]? = some o) (hg : o.guard = none) (hW : Grows W w)
    (h : ∀ w', Grows W w' → ∀ K : Act → World → Prop, (∀ a' w'', Grows w' w'' → wpK P .any ops Q W f (listed.setIfInBounds i true) a' w'' → K a' w'') → o.wp P a w' K Q) :
    wpK P .any ops Q W (f + 1) listed a w :=
  wpK_one hr ho hg fun w' g K hK => h w' (hW.trans g) K fun a' w'' g2 k => hK a' w'' ((hW.trans g).trans g2) k
/-- The same, of an operation that is guarded, and wanted. -/
theorem wpK_call_want {f i : Nat} {o : Oper} {listed : Array Bool} {a : Act} {w : World} (hr : Region.ready .any ops listed = [i]) (ho : ops[i]? = some o) (hg : Region.wanted o (yielded ops a.tmps) = true) (hW : Grows W w)
    (h : ∀ w', Grows W w' → ∀ K : Act → World → Prop, (∀ a' w'', Grows w' w'' → wpK P .any ops Q W f (listed.setIfInBounds i true) a' w'' → K a' w'') → o.wp P a w' K Q) :
    wpK P .any ops Q W (f + 1) listed a w := fun w' g => by
  refine ⟨fun e => (by rw [hr] at e; cases e), fun j hj => ?_⟩
  rw [hr] at hj
  have hji : j = i := by simpa using hj
  subst hji
  unfold wpOp
  simp only [ho, hg, if_true]
  exact .inl (h w' (hW.trans g) _ fun a' w'' g2 k => ⟨(hW.trans g).trans g2, k⟩)
end

end Go.Proofs.YtimjmmiajgfblaaGreatDoor

/- More steps of a drawn region: two that may come up, and a class of worlds behind an earlier one. No condition. -/
namespace Go.Proofs.YtimjmmiajgfblaaGreatDoor
open Go.RowKit

section
theorem wpK_two_want {P : Program} {ops : Array Oper} {Q : Exit → Act → World → Prop} {W : World} {md : Region.Mode} {f i k : Nat} {o p : Oper} {listed : Array Bool} {a : Act} {w : World} (hr : Region.ready md ops listed = [i, k]) (ho : ops[i]? = some o) (hp : ops[k]? = some p) (hg : Region.wanted o (yielded ops a.tmps) = true) (hgp : Region.wanted p (yielded ops a.tmps) = true)
    (h : ∀ w', Grows w w' → ∀ K : Act → World → Prop, (∀ a' w'', Grows W w'' → wpK P md ops Q W f (listed.setIfInBounds i true) a' w'' → K a' w'') → o.wp P a w' K Q)
    (h2 : ∀ w', Grows w w' → ∀ K : Act → World → Prop, (∀ a' w'', Grows W w'' → wpK P md ops Q W f (listed.setIfInBounds k true) a' w'' → K a' w'') → p.wp P a w' K Q) :
    wpK P md ops Q W (f + 1) listed a w := fun w' g => by
  refine ⟨fun e => (by rw [hr] at e; cases e), fun j hj => ?_⟩
  rw [hr] at hj
  rcases (by simpa using hj : j = i ∨ j = k) with rfl | rfl
  · unfold wpOp
    simp only [ho, hg, if_true]
    exact .inl (h w' g _ fun a' w'' g'' k => ⟨g'', k⟩)
  · unfold wpOp
    simp only [hp, hgp, if_true]
    exact .inl (h2 w' g _ fun a' w'' g'' k => ⟨g'', k⟩)
theorem wpK_one_want {P : Program} {ops : Array Oper} {Q : Exit → Act → World → Prop} {W : World} {md : Region.Mode} {f i : Nat} {o : Oper} {listed : Array Bool} {a : Act} {w : World} (hr : Region.ready md ops listed = [i]) (ho : ops[i]? = some o) (hg : Region.wanted o (yielded ops a.tmps) = true)
    (h : ∀ w', Grows w w' → ∀ K : Act → World → Prop, (∀ a' w'', Grows W w'' → wpK P md ops Q W f (listed.setIfInBounds i true) a' w'' → K a' w'') → o.wp P a w' K Q) :
    wpK P md ops Q W (f + 1) listed a w := fun w' g => by
  refine ⟨fun e => (by rw [hr] at e; cases e), fun j hj => ?_⟩
  rw [hr] at hj
  obtain rfl : j = i := by simpa using hj
  unfold wpOp
  simp only [ho, hg, if_true]
  exact .inl (h w' g _ fun a' w'' g'' k => ⟨g'', k⟩)
end
theorem wp_region_segF {P : Program} {ops : Array Oper} {Q : Exit → Act → World → Prop} {W0 W : World} {id : Nat} {a : Act} (hm : P.follows .mixedOrders = true) (h : ∀ w', Grows W w' → wpK P .any ops Q W0 ops.size (Array.replicate ops.size false) a w') : (Code.region id ops true).wp P Q a W :=
  wp_region_any hm (wpAny_of_wpK (W := W0) _ _ _ _ (h _ ⟨rfl, rfl, rfl, Nat.le_refl _, fun _ _ => rfl⟩))
end Go.Proofs.YtimjmmiajgfblaaGreatDoor

/- A slice of headers from an index on. No condition. -/
namespace Go.Proofs.YtimjmmiajgfblaaGreatDoor
open Go.RowKit

theorem run_fromH {A : Option Addr} {n c k : Nat} (h1 : k ≤ n) (w : World) : (Instr.sliceAt 30 (.slice A n c) (some (.int .i64 (k : Int))) none none).run Tryz.prog w = .ok (.slice (if c = k then A else A.map (·.add (k * 68))) (n - k) (c - k)) w := by
  obtain ⟨i0, hi, _, hz1, _⟩ := info_parts Tryz.infoHd
  have e : Tryz.prog.elem 30 = 27 := by kernel_rfl
  rw [run_sliceAt_slice (P := Tryz.prog) w 30 _ _ _ _ (by rw [e]; exact Tryz.underlying30), run_slice_l w 30 A n c (by rw [e]; exact Tryz.underlying30) .i64 (k : Int) (by omega) (by omega), e]
  simp [sizeOf, typeInfo, hi, hz1, sliced]
theorem Hs.from {w : World} {A : Option Addr} {n c k : Nat} {l : List Hd} (h : Hs w A n l) (hk : k ≤ n) (hc : n ≤ c) : Hs w (if c = k then A else A.map (·.add (k * 68))) (n - k) (l.drop k) := by
  by_cases e : k = n
  · subst e
    rw [Nat.sub_self, List.drop_of_length_le (by rw [h.len]; exact Nat.le_refl _)]
    exact Hs.nil _ _
  · rw [if_neg (by omega)]
    obtain ⟨b, o, rfl, _, _⟩ := h.cel (by omega)
    rw [Option.map_some, add_at]
    exact h.right (by omega)
section
variable {w : World} {ops : Array Oper} {rest : List Oper} {o : Oper} {a : Act} {Q : Exit → Act → World → Prop} {K : Act → World → Prop}
theorem wp_fromH (x i : Operand) (ho : o.op = .slice 30 x (some i) none none) {A : Option Addr} {n c k : Nat} (hx : a.eval x = .slice A n c) (hi : a.eval i = .int .i64 (k : Int)) (h1 : k ≤ n) (h2 : n ≤ c)
    (h : ∀ A', (∀ w' l, Hs w' A n l → Hs w' A' (n - k) (l.drop k)) → K (a.put o.dst (.slice A' (n - k) (c - k))) w) : o.wp Tryz.prog a w K Q := by
  have e := h (if c = k then A else A.map (·.add (k * 68))) fun w' l hl => hl.from h1 h2
  unfold Oper.wp execOp
  simp only [ho, hx, hi, Option.map_some, Option.map_none, Sem.run_bind, Sem.run_pure, Result.andThen_ok, run_fromH h1]
  exact e
theorem wpList_fromH (hgd : o.guard = none) (x i : Operand) (ho : o.op = .slice 30 x (some i) none none) {A : Option Addr} {n c k : Nat} (hx : a.eval x = .slice A n c) (hi : a.eval i = .int .i64 (k : Int)) (h1 : k ≤ n) (h2 : n ≤ c)
    (h : ∀ A', (∀ w' l, Hs w' A n l → Hs w' A' (n - k) (l.drop k)) → wpList Tryz.prog ops Q rest (a.put o.dst (.slice A' (n - k) (c - k))) w) : wpList Tryz.prog ops Q (o :: rest) a w :=
  wpList_plain hgd fun _ hK => wp_fromH x i ho hx hi h1 h2 fun A' hA => hK _ _ (h A' hA)
end
end Go.Proofs.YtimjmmiajgfblaaGreatDoor

/- Headers, bytes and numbers that came in as arguments; the door's own heap. No condition. -/
namespace Go.Proofs.YtimjmmiajgfblaaGreatDoor
set_option maxRecDepth 100000
open Go.ChangeShapes Go.WideShapes Go.ChangeAt Go.RowKit Go.ChangeMaps

instance : Inhabited Hd := ⟨zeroH⟩
theorem Tryz.laidOut : laidOutB Tryz.prog = true := by kernel_rfl
theorem Tryz.cellsHash : Tryz.prog.cellsOf 25 = 32 := by kernel_rfl
theorem Tryz.cellsHd : Tryz.prog.cellsOf 27 = 68 := by kernel_rfl
set_option maxRecDepth 100000 in
/-- The door's own heap meets the condition. -/
theorem door_met (os : Os) (args : Array Value) : laidMetH Tryz.prog laidL ((World.doorLaid Tryz.prog 19 os).forCall (fun _ _ => 0) ⟨#[], args, []⟩).memory :=
  laidMetH_of_parts3 (fuel := 8) (laidMet_of_run' 8 (by kernel_rfl) (by kernel_rfl)) (by kernel_rfl) (by kernel_rfl)
section
variable {H : Type} {enc : TypeId × Value → H} {W : World} {base : Nat} {v : Value} {d : DataW H} {p : List MemPlace}
theorem open_u8 (hv : Value.okWide Tryz.prog W .any base 5 v) (h : DataW.Trod enc Tryz.prog W 0 (fun _ => true) true 5 v d p) : ∃ x : Nat, x < 256 ∧ v = .int .u8 (x : Nat) := by
  obtain ⟨n, rfl, rfl, rfl, w⟩ := open_int Tryz.underlying5 hv h
  have b := bounds_u8 w
  exact ⟨n.toNat, by omega, by rw [Int.toNat_of_nonneg b.1]⟩
theorem open_bytes (hv : Value.okWide Tryz.prog W .any base 39 v) (h : DataW.Trod enc Tryz.prog W 0 (fun _ => true) true 39 v d p) :
    ∃ (A : Option Addr) (n c : Nat) (L : List Nat), (n ≤ c ∧ c ≤ 9223372036854775807 ∧ Bs W A n L) ∧ v = .slice A n c := by
  obtain ⟨fuel, hf⟩ := h
  obtain ⟨A, n, c, rfl⟩ := okWide_slice Tryz.underlying39 hv
  rcases Deep.open_slice1 Tryz.underlying39 Tryz.cellsByte hf with ⟨e, _⟩ | ⟨a, len, cap, m, _, V, D, Pl, e, _, hlc, hcm, hm, _, hx⟩
  · simp [Value.cells] at e
    obtain ⟨rfl, rfl, rfl⟩ := e
    exact ⟨none, 0, 0, [], ⟨Nat.le_refl _, by omega, Bs.nil _ _⟩, rfl⟩
  · simp [Value.cells] at e
    obtain ⟨rfl, rfl, rfl⟩ := e
    have hm' : n ≤ m := by rw [hm]; split <;> omega
    have each : ∀ i, i < n → ∃ x : Nat, x < 256 ∧ W.cell? (a.add i) = some (.int .u8 (x : Nat)) := fun i hi => by
      obtain ⟨h1, h2⟩ := hx i (by omega)
      obtain ⟨q, e0, _, w0⟩ := DataW.trod_int Tryz.underlying5 h2
      simp at e0
      have b0 := bounds_u8 w0
      exact ⟨q.toNat, by omega, by rw [h1, e0, Int.toNat_of_nonneg b0.1]⟩
    obtain ⟨f, hf'⟩ := Deep.choose_lt (α := Nat) (p := fun i x => x < 256 ∧ W.cell? (a.add i) = some (.int .u8 (x : Nat))) each
    refine ⟨some a, n, c, (List.range n).map f, ⟨hlc, by unfold maxLen at hcm; omega, by simp, fun x hx => ?_, fun hn => ⟨a, rfl, ?_, fun k hk => ?_⟩⟩, rfl⟩
    · simp only [List.mem_map, List.mem_range] at hx
      obtain ⟨i, hi, rfl⟩ := hx
      exact (hf' i hi).1
    · have := World.block_lt_of_cell? _ _ (hf' 0 hn).2
      rwa [add_block] at this
    · rw [(hf' k hk).2]
      simp [nth, List.getD, hk]
section
variable {spare : Nat → Bool} {held : Bool} {fuel : Nat} {cs : List Value} {x : DataW H × List MemPlace}
theorem trod_u32 (h : DataW.trod enc Tryz.prog W 0 spare held fuel 22 cs = some x) : ∃ n : Nat, n < 4294967296 ∧ cs = [u32v n] := by
  obtain ⟨q, e0, _, w0⟩ := DataW.trod_int Tryz.underlying22 h
  have b0 := bounds_u32 w0
  exact ⟨q.toNat, by omega, by rw [e0]; unfold u32v; rw [Int.toNat_of_nonneg b0.1]⟩
theorem trod_hash (h : DataW.trod enc Tryz.prog W 0 spare held fuel 25 cs = some x) : ∃ L : List Nat, L.length = 32 ∧ AllB L ∧ cs = vals L := by
  obtain ⟨xs, m, _, _, hcl, hxl, hx⟩ := Go.DataW.trod_array Tryz.underlying25 h
  rw [Tryz.cellsHash] at hcl
  have each : ∀ i, i < 32 → ∃ n : Nat, n < 256 ∧ cs[i]? = some (.int .u8 (n : Nat)) := fun i hi => by
    have h1 := hx i hi
    rw [Tryz.cellsByte, Nat.mul_one, List.getElem?_eq_getElem (by omega)] at h1
    have hl : cs[i]? = some cs[i] := List.getElem?_eq_getElem (by omega)
    have hdt : (cs.drop i).take 1 = [cs[i]] := by
      rw [List.drop_eq_getElem_cons (by omega)]; rfl
    rw [hdt] at h1
    obtain ⟨n, e0, _, w0⟩ := DataW.trod_int Tryz.underlying5 h1
    have b0 := bounds_u8 w0
    refine ⟨n.toNat, by omega, ?_⟩
    rw [hl, Int.toNat_of_nonneg b0.1]
    simpa using e0
  obtain ⟨f, hf'⟩ := Deep.choose_lt (α := Nat) (p := fun i n => n < 256 ∧ cs[i]? = some (.int .u8 (n : Nat))) each
  refine ⟨(List.range 32).map f, by simp, fun x hx => ?_, ?_⟩
  · simp only [List.mem_map, List.mem_range] at hx
    obtain ⟨i, hi, rfl⟩ := hx
    exact (hf' i hi).1
  · refine List.ext_getElem? fun i => ?_
    by_cases hi : i < 32
    · rw [(hf' i hi).2, vals, List.map_map, List.getElem?_map, List.getElem?_range hi]; rfl
    · rw [List.getElem?_eq_none (by omega), List.getElem?_eq_none (by simp [vals]; omega)]
theorem trod_hd (h : DataW.trod enc Tryz.prog W 0 spare held fuel 27 cs = some x) : ∃ g : Hd, g.Ok ∧ cs = hdV g := by
  have hu : Tryz.prog.underlying 27 = some (.struct (Tryz.prog.fieldsOf 27)) := by kernel_rfl
  obtain ⟨xs, n, _, _, hcl, hxl, hf⟩ := DataW.trod_struct hu h
  rw [Tryz.cellsHd] at hcl
  have hfd := fields_hd
  obtain ⟨fs, hfs⟩ : ∃ fs, Tryz.prog.fieldsOf 27 = fs := ⟨_, rfl⟩
  rw [hfs] at hf hfd hxl
  obtain ⟨l⟩ := fs
  match l, hfd, hf, hxl with
  | [f0, f1, f2, f3, f4, f5], hfd, hf, hxl =>
    simp only [List.map_cons, List.map_nil, List.cons.injEq, and_true, Prod.mk.injEq] at hfd
    obtain ⟨⟨_, a0, b0⟩, ⟨_, a1, b1⟩, ⟨_, a2, b2⟩, ⟨_, a3, b3⟩, ⟨_, a4, b4⟩, ⟨_, a5, b5⟩⟩ := hfd
    match xs, hxl with
    | [y0, y1, y2, y3, y4, y5], _ =>
      have g0 := hf 0 f0 rfl
      have g1 := hf 1 f1 rfl
      have g2 := hf 2 f2 rfl
      have g3 := hf 3 f3 rfl
      have g4 := hf 4 f4 rfl
      have g5 := hf 5 f5 rfl
      rw [a0, b0, Tryz.cells33] at g0
      rw [a1, b1, Tryz.cellsHash] at g1
      rw [a2, b2, Tryz.cellsHash] at g2
      rw [a3, b3, Tryz.cells33] at g3
      rw [a4, b4, Tryz.cells33] at g4
      rw [a5, b5, Tryz.cells33] at g5
      obtain ⟨v, hv, e0⟩ := trod_u32 (x := y0) g0
      obtain ⟨p, hp, hpb, e1⟩ := trod_hash (x := y1) g1
      obtain ⟨r, hr, hrb, e2⟩ := trod_hash (x := y2) g2
      obtain ⟨t, ht, e3⟩ := trod_u32 (x := y3) g3
      obtain ⟨b, hb, e4⟩ := trod_u32 (x := y4) g4
      obtain ⟨m, hm, e5⟩ := trod_u32 (x := y5) g5
      refine ⟨⟨v, p, r, t, b, m⟩, ⟨hv, hp, hr, ht, hb, hm, hpb, hrb⟩, ?_⟩
      have e : cs = (cs.drop 0).take 1 ++ ((cs.drop 1).take 32 ++ ((cs.drop 33).take 32 ++ ((cs.drop 65).take 1 ++ ((cs.drop 66).take 1 ++ (cs.drop 67).take 1)))) := by
        rw [take_drop_app cs 66 1 1, take_drop_app cs 65 1 2, take_drop_app cs 33 32 3, take_drop_app cs 1 32 35, take_drop_app cs 0 1 67]
        simp [List.take_of_length_le, hcl]
      rw [e, e0, e1, e2, e3, e4, e5]
      rfl
end
theorem open_hd (hv : Value.okWide Tryz.prog W .any base 27 v) (h : DataW.Trod enc Tryz.prog W 0 (fun _ => true) true 27 v d p) : ∃ g : Hd, g.Ok ∧ v = .agg (hdV g).toArray := by
  obtain ⟨cs, rfl, _⟩ := okWide_struct (fs := Tryz.prog.fieldsOf 27) (by kernel_rfl) hv
  obtain ⟨fuel, hf⟩ := h
  obtain ⟨g, hg, e⟩ := trod_hd hf
  refine ⟨g, hg, ?_⟩
  simp only [Value.cells] at e
  rw [← e]
theorem range_hs {w : World} {b : Nat} : ∀ (l : List Hd) (o : Nat), OkAll l → (∀ i, i < l.length → w.rangeAt b (o + i * 68) (hdV (nthH l i))) → w.rangeAt b o (hsV l)
  | [], _, _, _ => fun j v hv => by simp [hsV] at hv
  | h :: t, o, k, hi => by
    intro j v hv
    rw [hsV] at hv
    by_cases hj : j < 68
    · rw [List.getElem?_append_left (by rw [hdV_len k.head]; exact hj)] at hv
      have := hi 0 (by simp) j v hv
      rwa [Nat.zero_mul, Nat.add_zero] at this
    · rw [List.getElem?_append_right (by rw [hdV_len k.head]; omega), hdV_len k.head] at hv
      have := range_hs t (o + 68) k.tail (fun i hlt => by
        have := hi (i + 1) (by simp; omega)
        rw [show o + (i + 1) * 68 = o + 68 + i * 68 by omega] at this
        exact this) (j - 68) v hv
      rwa [show o + 68 + (j - 68) = o + j by omega] at this
theorem open_hds (hv : Value.okWide Tryz.prog W .any base 30 v) (h : DataW.Trod enc Tryz.prog W 0 (fun _ => true) true 30 v d p) :
    ∃ (A : Option Addr) (n c : Nat) (l : List Hd), (n ≤ c ∧ c ≤ 9223372036854775807 ∧ Hs W A n l) ∧ v = .slice A n c := by
  obtain ⟨fuel, hf⟩ := h
  obtain ⟨A, n, c, rfl⟩ := okWide_slice Tryz.underlying30 hv
  rcases Deep.open_slice Tryz.underlying30 hf with ⟨e, _⟩ | ⟨a, len, cap, m, fu, D, Pl, e, _, hlc, hcm, hm, _, hx⟩
  · simp [Value.cells] at e
    obtain ⟨rfl, rfl, rfl⟩ := e
    exact ⟨none, 0, 0, [], ⟨Nat.le_refl _, by omega, Hs.nil _ _⟩, rfl⟩
  · simp [Value.cells] at e
    obtain ⟨rfl, rfl, rfl⟩ := e
    have hm' : n ≤ m := by rw [hm]; split <;> omega
    have each : ∀ i, i < n → ∃ g : Hd, g.Ok ∧ ∀ q u, (hdV g)[q]? = some u → W.cell? ((a.add (i * 68)).add q) = some u := fun i hi => by
      obtain ⟨cs', h1, h2⟩ := hx i (by omega)
      rw [Tryz.cellsHd] at h1
      obtain ⟨_, hl, hc⟩ := World.cells?_some h1
      obtain ⟨g, hg, e⟩ := trod_hd h2
      refine ⟨g, hg, fun q u hq => ?_⟩
      have hq2 := (List.getElem?_eq_some_iff.1 hq).1
      rw [hc q (by rw [← hl, e]; exact hq2), e]
      exact hq
    obtain ⟨f, hf'⟩ := Deep.choose_lt (α := Hd) (p := fun i g => g.Ok ∧ ∀ q u, (hdV g)[q]? = some u → W.cell? ((a.add (i * 68)).add q) = some u) each
    refine ⟨some a, n, c, (List.range n).map f, ⟨hlc, by unfold maxLen at hcm; omega, by simp, fun g hg => ?_, fun hn => ?_⟩, rfl⟩
    · simp only [List.mem_map, List.mem_range] at hg
      obtain ⟨i, hi, rfl⟩ := hg
      exact (hf' i hi).1
    · have c0 := (hf' 0 hn).2 0 (u32v (f 0).v) rfl
      have e0 : (a.add (0 * 68)).add 0 = a := rfl
      rw [e0] at c0
      obtain ⟨b, o, rfl⟩ : ∃ b o, a = ⟨b, o, none⟩ := by
        unfold World.cell? at c0
        split at c0
        · split at c0
          · cases c0
          · rename_i hs
            obtain ⟨b, o, s⟩ := a
            cases s with
            | none => exact ⟨b, o, rfl⟩
            | some x => simp at hs
        · cases c0
      refine ⟨b, o, rfl, World.block_lt_of_cell? _ _ c0, range_hs _ _ (fun g hg => ?_) (fun i hi => ?_)⟩
      · simp only [List.mem_map, List.mem_range] at hg
        obtain ⟨i, hi, rfl⟩ := hg
        exact (hf' i hi).1
      · have hi' : i < n := by simpa using hi
        have e : nthH ((List.range n).map f) i = f i := by simp [nthH, List.getD, hi']
        rw [e]
        intro q u hq
        have := (hf' i hi').2 q u hq
        rwa [add_at, add_at] at this
end
end Go.Proofs.YtimjmmiajgfblaaGreatDoor

/- Rows of words of 32 bits, words and truths, as they come in. No condition. -/
namespace Go.Proofs.YtimjmmiajgfblaaGreatDoor
open Go.ChangeShapes Go.WideShapes Go.ChangeAt Go.WideMaps Go.WideElems Go.RowKit
set_option maxRecDepth 100000

section
variable {H : Type} {enc : TypeId × Value → H} {W : World} {base : Nat} {v : Value} {d : DataW H} {p : List MemPlace}
theorem Tryz.cellsWord : Tryz.prog.cellsOf 22 = 1 := by kernel_rfl
theorem open_u32s (hv : Value.okWide Tryz.prog W .any base 48 v) (h : DataW.Trod enc Tryz.prog W 0 (fun _ => true) true 48 v d p) :
    ∃ (A : Option Addr) (n c : Nat) (L : List Nat), (n ≤ c ∧ c ≤ 9223372036854775807 ∧ Ws W A n L ∧ ∀ x ∈ L, x < 4294967296) ∧ v = .slice A n c := by
  obtain ⟨fuel, hf⟩ := h
  obtain ⟨A, n, c, rfl⟩ := okWide_slice Tryz.underlying48 hv
  rcases Deep.open_slice1 Tryz.underlying48 Tryz.cellsWord hf with ⟨e, _⟩ | ⟨a, len, cap, m, _, V, D, Pl, e, _, hlc, hcm, hm, _, hx⟩
  · simp [Value.cells] at e
    obtain ⟨rfl, rfl, rfl⟩ := e
    exact ⟨none, 0, 0, [], ⟨Nat.le_refl _, by omega, Ws.nil _ _, fun x hx => by cases hx⟩, rfl⟩
  · simp [Value.cells] at e
    obtain ⟨rfl, rfl, rfl⟩ := e
    have hm' : n ≤ m := by rw [hm]; split <;> omega
    have each : ∀ i, i < n → ∃ x : Nat, x < 4294967296 ∧ W.cell? (a.add i) = some (.int .u32 (x : Nat)) := fun i hi => by
      obtain ⟨h1, h2⟩ := hx i (by omega)
      obtain ⟨q, e0, _, w0⟩ := DataW.trod_int Tryz.underlying22 h2
      simp at e0
      have b0 := bounds_u32 w0
      exact ⟨q.toNat, by omega, by rw [h1, e0, Int.toNat_of_nonneg b0.1]⟩
    obtain ⟨f, hf'⟩ := Deep.choose_lt (α := Nat) (p := fun i x => x < 4294967296 ∧ W.cell? (a.add i) = some (.int .u32 (x : Nat))) each
    refine ⟨some a, n, c, (List.range n).map f, ⟨hlc, by unfold maxLen at hcm; omega, ⟨by simp, trivial, fun hn => ⟨a, rfl, ?_, fun k hk => ?_⟩⟩, fun x hx => ?_⟩, rfl⟩
    · have := World.block_lt_of_cell? _ _ (hf' 0 hn).2
      rwa [add_block] at this
    · rw [(hf' k hk).2]
      simp [nth, List.getD, hk]
    · simp only [List.mem_map, List.mem_range] at hx
      obtain ⟨i, hi, rfl⟩ := hx
      exact (hf' i hi).1
end
end Go.Proofs.YtimjmmiajgfblaaGreatDoor
