/- Rows of headers in which a field is turned. No condition. -/
import Derived.Test.YtkocbkckfkbmhaaDoorWorks
import Derived.Test.YtkocbkckfkbmhaaDoorByteL
namespace Go.Proofs.YtkocbkckfkbmhaaDoor
open Go.RowKit

theorem set_nthH {l : List Hd} {k : Nat} (h : Hd) (hk : k < l.length) : l.set k h = l.take k ++ ([h] ++ l.drop (k + 1)) := by
  rw [List.set_eq_take_append_cons_drop, if_pos hk]; rfl
theorem nthH_set {l : List Hd} {k j : Nat} {h : Hd} (hk : k < l.length) : nthH (l.set k h) j = if j = k then h else nthH l j := by
  by_cases e : j = k
  · subst e; rw [if_pos rfl]; simp [nthH, List.getD, hk]
  · rw [if_neg e]; simp [nthH, List.getD, Ne.symm e]
theorem okAll_set {l : List Hd} {k : Nat} {h : Hd} (o : OkAll l) (p : h.Ok) : OkAll (l.set k h) := fun x hx => by
  rcases List.mem_or_eq_of_mem_set hx with h1 | h1
  · exact o x h1
  · subst h1; exact p
theorem ok_p {h : Hd} {P : List Nat} (o : h.Ok) (hP : P.length = 32) (hb : AllB P) : ({ h with p := P } : Hd).Ok := ⟨o.v, hP, o.r, o.t, o.b, o.n, hb, o.rb⟩
/-- A row of headers, with what lies behind it. -/
structure RowZ (w : World) (g n : Nat) (l : List Hd) (R : List Value) (wr : World) : Prop where
  row : Ro wr g 26 (hsV l ++ R)
  len : l.length = n
  ok : OkAll l
  bel : Below w.heap.size w wr
  new : w.heap.size ≤ g
theorem RowZ.later {w wr w1 : World} {g n : Nat} {l : List Hd} {R : List Value} (h : RowZ w g n l R wr) (b : Below wr.heap.size wr w1) : RowZ w g n l R w1 := ⟨h.row.later b, h.len, h.ok, h.bel.trans (b.mono h.bel.size), h.new⟩
theorem RowZ.hs {w wr : World} {g n : Nat} {l : List Hd} {R : List Value} (h : RowZ w g n l R wr) : Hs wr (some ⟨g, 0, none⟩) n l :=
  ⟨h.len, h.ok, fun _ => ⟨g, 0, rfl, h.row.lt, fun j v hj => by
    rw [Nat.zero_add]
    exact h.row.cell (by rw [List.getElem?_append_left (List.getElem?_eq_some_iff.1 hj).1]; exact hj)⟩⟩
theorem OwnH.rowZ {w wr : World} {g n c : Nat} {l : List Hd} (h : OwnH w (.slice (some ⟨g, 0, none⟩) n c) n l wr) : ∃ R, RowZ w g n l R wr := by
  rcases h.row.2 with ⟨e, _⟩ | ⟨q, cap, cur, e, hq, hh, hn, hm, hs, ht⟩
  · cases e
  · injection e with e1 e2 e3
    injection e1 with e1
    injection e1 with e1
    subst e1
    refine ⟨cur.toList.drop (n * 68), ⟨?_, h.len, h.ok, h.bel, hq⟩⟩
    unfold Ro
    rw [hh]
    congr 2
    apply Array.toList_inj.1
    rw [← ht]
    simp
theorem hsV_parts {l : List Hd} {k : Nat} (o : OkAll l) (hk : k < l.length) (R : List Value) : ∃ X Z, X.length = k * 68 + 1 ∧ hsV l ++ R = X ++ (vals (nthH l k).p ++ Z) ∧ ∀ P, hsV (l.set k { nthH l k with p := P }) ++ R = X ++ (vals P ++ Z) := by
  refine ⟨hsV (l.take k) ++ [u32v (nthH l k).v], vals (nthH l k).r ++ [u32v (nthH l k).t, u32v (nthH l k).b, u32v (nthH l k).n] ++ (hsV (l.drop (k + 1)) ++ R), ?_, ?_, fun P => ?_⟩
  · rw [List.length_append, hsV_len (o.take k), List.length_take, Nat.min_eq_left (by omega)]; rfl
  · conv => lhs; rw [split_nthH hk, hsV_app, hsV_app, hsV_one]
    unfold hdV
    simp
  · rw [set_nthH _ hk, hsV_app, hsV_app, hsV_one]
    unfold hdV
    simp
section
variable {w wr : World} {g n k : Nat} {l : List Hd} {R : List Value}
theorem RowZ.setP (h : RowZ w g n l R wr) (hk : k < n) {I : List Nat} (hI : I.length = 32) (hb : AllB I) {w1 : World} (hr : Ro w1 g 26 (splice (hsV l ++ R) (k * 68 + 1) (vals I))) (hg : wr.grownBy w1 (some g)) : RowZ w g n (l.set k { nthH l k with p := I }) R w1 := by
  have hk' : k < l.length := by rw [h.len]; exact hk
  obtain ⟨X, Z, hX, e1, e2⟩ := hsV_parts h.ok hk' R
  rw [e1, splice_mid hX (by rw [vals_length, vals_length, hI, (nthH_ok h.ok k).p]), ← e2 I] at hr
  exact ⟨hr, by rw [List.length_set]; exact h.len, okAll_set h.ok (ok_p (nthH_ok h.ok k) hI hb), h.bel.grown hg h.bel.size (fun q e => by injection e with e; have := h.new; omega), h.new⟩
theorem RowZ.cellP (h : RowZ w g n l R wr) (hk : k < n) {r : Nat} (hr : r < 32) : wr.cell? ⟨g, k * 68 + 1 + r, none⟩ = some (.int .u8 (nth (nthH l k).p r : Nat)) := by
  have hk' : k < l.length := by rw [h.len]; exact hk
  obtain ⟨X, Z, hX, e1, e2⟩ := hsV_parts h.ok hk' R
  have h1 := h.row
  rw [e1] at h1
  refine h1.cell ?_
  rw [List.getElem?_append_right (by omega), hX, Nat.add_sub_cancel_left, List.getElem?_append_left (by rw [vals_length, (nthH_ok h.ok k).p]; exact hr)]
  exact vals_get _ _ (by rw [(nthH_ok h.ok k).p]; exact hr)
theorem RowZ.setB (h : RowZ w g n l R wr) (hk : k < n) {r y : Nat} (hr : r < 32) (hy : y < 256) : RowZ w g n (l.set k { nthH l k with p := (nthH l k).p.set r y }) R (wr.setCell ⟨g, k * 68 + 1 + r, none⟩ (.int .u8 (y : Int))) := by
  have hk' : k < l.length := by rw [h.len]; exact hk
  obtain ⟨X, Z, hX, e1, e2⟩ := hsV_parts h.ok hk' R
  have h1 := h.row.set (k * 68 + 1 + r) (.int .u8 (y : Int))
  rw [e1, List.set_append_right _ _ (by omega), hX, Nat.add_sub_cancel_left, List.set_append_left _ _ (by rw [vals_length, (nthH_ok h.ok k).p]; exact hr), vals_set, ← e2] at h1
  exact ⟨h1, by rw [List.length_set]; exact h.len, okAll_set h.ok (ok_p (nthH_ok h.ok k) (by rw [List.length_set]; exact (nthH_ok h.ok k).p) (set_byt (nthH_ok h.ok k).pb hy)), h.bel.setCell h.new _, h.new⟩
end
theorem linkedTo_set {l : List Hd} {i : Nat} (h : LinkedTo l i) (h1 : 1 ≤ i) (hi : i < l.length) : LinkedTo (l.set i { nthH l i with p := idS (nthH l (i - 1)) }) (i + 1) := fun j a b => by
  rw [nthH_set hi, nthH_set hi]
  by_cases e : j = i
  · subst e
    rw [if_pos rfl, if_neg (by omega)]
  · rw [if_neg e, if_neg (by omega)]
    exact h j a (by omega)
theorem links_turned {l : List Hd} {k r y : Nat} (h : LinkedTo l l.length) (h1 : 1 ≤ k) (hk : k < l.length) (hr : r < (nthH l k).p.length) (hy : y ≠ nth (nthH l k).p r) : linkN (l.set k { nthH l k with p := (nthH l k).p.set r y }) = k := by
  refine linkN_eq ⟨by rw [List.length_set]; omega, fun j a b => ?_, fun _ => ⟨h1, ?_⟩⟩
  · rw [nthH_set hk, nthH_set hk, if_neg (by omega), if_neg (by omega)]
    exact h j a (by omega)
  · rw [nthH_set hk, nthH_set hk, if_pos rfl, if_neg (by omega), ← h k h1 hk]
    intro e
    have := congrArg (nth · r) e
    simp only [nth_set hr, if_true] at this
    exact hy this
theorem links_left {l : List Hd} {k r y : Nat} (h : LinkedTo l l.length) (hk : k < l.length) : linkN ((l.set k { nthH l k with p := (nthH l k).p.set r y }).take k) = k := by
  have e : (l.set k { nthH l k with p := (nthH l k).p.set r y }).take k = l.take k := by rw [List.take_set_of_le (Nat.le_refl _)]
  rw [e]
  have hl : (l.take k).length = k := by rw [List.length_take]; omega
  exact linkN_eq ⟨by omega, fun j a b => by
    rw [nthH_take (by omega), nthH_take (by omega)]
    exact h j a (by omega), fun e => by omega⟩
theorem linkN_all {l : List Hd} (h : LinkedTo l l.length) : linkN l = l.length := linkN_eq ⟨Nat.le_refl _, h, fun e => by omega⟩
section
variable {w0 w : World} {ops : Array Oper} {rest : List Oper} {o : Oper} {a : Act} {Q : Exit → Act → World → Prop}
theorem wpList_appHs (hgd : o.guard = none) (s x : Operand) (ho : o.op = .call { callee := .builtin .append, args := #[s, x], argTypes := #[38, 38] })
    {v : Value} {n m c : Nat} {l k : List Hd} {A : Option Addr} (hs : a.eval s = v) (hown : OwnH w0 v n l w) (hx : a.eval x = .slice A m c) (hr : Hs w A m k) (hlen : n + m ≤ 1073741824)
    (hw : ∀ A' c' w', n + m ≤ c' → OwnH w0 (.slice A' (n + m) c') (n + m) (l ++ k) w' → wpList Tryd.prog ops Q rest (a.put o.dst (.slice A' (n + m) c')) w') : wpList Tryd.prog ops Q (o :: rest) a w := by
  refine wpList_plain hgd fun K hK => ?_
  have key : ∃ A' c' w', (Builtin.append_ #[38, 38] o.type #[v, .slice A m c]).run Tryd.prog w = .ok (.slice A' (n + m) c') w' ∧ OwnH w0 (.slice A' (n + m) c') (n + m) (l ++ k) w' := by
    by_cases hm : 0 < m
    · obtain ⟨b, q, rfl, _, hrg⟩ := hr.cel hm
      obtain ⟨A', c', w', r1, r2, _⟩ := run_appH (w0 := w0) (w := w) (c := c) o.type hown hr.len hr.ok hrg hlen
      exact ⟨A', c', w', r1, r2⟩
    · obtain rfl : m = 0 := by omega
      obtain rfl : k = [] := List.eq_nil_of_length_eq_zero hr.len
      rw [List.append_nil, Nat.add_zero]
      obtain ⟨i0, hi, hz0, hz1, hz2⟩ := info_parts Tryd.infoHd
      obtain ⟨A1, c1, rfl, hc1⟩ := hown.shape
      refine ⟨A1, c1, w, ?_, hown⟩
      have hc : ∀ x : Addr, (loadCells x 0).run Tryd.prog w = .ok #[] w := fun x => by simpa using run_loadCells_list (P := Tryd.prog) w x [] (by simp)
      rcases hown.row.2 with ⟨e, _⟩ | ⟨q, cap, cur, e, _, _, hnc, _⟩
      · injection e with e1 e2 e3
        subst e1 e2 e3
        cases A <;> simp [Builtin.append_, run_underlying Tryd.underlying38, sizeOf, typeInfo, hi, Builtin.lenOf, Builtin.firstCells, hc]
      · injection e with e1 e2 e3
        subst e1 e3
        cases A <;> simp [Builtin.append_, run_underlying Tryd.underlying38, sizeOf, typeInfo, hi, Builtin.lenOf, Builtin.firstCells, hnc, storeCells, hc]
  obtain ⟨A', c', w', r1, r2⟩ := key
  have e := hK _ _ (hw A' c' w' r2.cap r2)
  unfold Oper.wp
  simp [execOp, ho, resolve, invoke, builtin, hs, hx, r1, Result.andThen]
  exact e
end
end Go.Proofs.YtkocbkckfkbmhaaDoor
