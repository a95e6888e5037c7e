/- A byte of a header turned: what becomes of its fields. No condition. -/
import Derived.Test.YtimjmmiajgfblaaGreatDoorGbn

namespace Go.Proofs.YtimjmmiajgfblaaGreatDoor
open Go.RowKit


theorem ofInt_nat8 (a : Nat) : (BitVec.ofInt 8 (a : Int)).toNat = a % 256 := by
  rw [BitVec.ofInt_natCast]; rfl
theorem wrap_nat8 (a : Nat) : IntKind.u8.wrap (a : Int) = ((a % 256 : Nat) : Int) := by
  simp [IntKind.wrap, IntKind.bits, IntKind.signed]
theorem xor_u8 (x y : Nat) (hx : x < 256) (hy : y < 256) : bits .xor .u8 (x : Int) (y : Int) = ((x ^^^ y : Nat) : Int) := by
  have h : x ^^^ y < 256 := Nat.xor_lt_two_pow (n := 8) hx hy
  show IntKind.u8.wrap ((BitVec.ofInt 8 (x : Int) ^^^ BitVec.ofInt 8 (y : Int)).toNat : Int) = _
  rw [BitVec.toNat_xor, ofInt_nat8, ofInt_nat8, wrap_nat8, Nat.mod_eq_of_lt hx, Nat.mod_eq_of_lt hy, Nat.mod_eq_of_lt h]
theorem xor_lt {x y : Nat} (hx : x < 256) (hy : y < 256) : x ^^^ y < 256 := Nat.xor_lt_two_pow (n := 8) hx hy
theorem xor_back (x y : Nat) : (x ^^^ y) ^^^ y = x := by rw [Nat.xor_assoc, Nat.xor_self, Nat.xor_zero]
theorem xor_same {x y : Nat} : x ^^^ y = x ↔ y = 0 := by
  constructor
  · intro h
    have := congrArg (x ^^^ ·) h
    simpa [← Nat.xor_assoc, Nat.xor_self] using this
  · rintro rfl; exact Nat.xor_zero x
theorem nth_set {L : List Nat} {k j y : Nat} (h : k < L.length) : nth (L.set k y) j = if j = k then y else nth L j := by
  by_cases e : j = k
  · subst e; rw [if_pos rfl, nth_set_same h]
  · rw [if_neg e, nth_set_ne (by omega)]
theorem cut32_set_in {L : List Nat} {a k y : Nat} (h1 : a ≤ k) (h2 : k < a + 32) : cut32 (L.set k y) a = (cut32 L a).set (k - a) y := by
  unfold cut32
  rw [List.drop_set, if_neg (by omega), List.take_set]
theorem cut32_set_out {L : List Nat} {a k y : Nat} (h : k < a ∨ a + 32 ≤ k) : cut32 (L.set k y) a = cut32 L a := by
  unfold cut32
  rcases h with h | h
  · rw [List.drop_set_of_lt h]
  · rw [List.drop_set, if_neg (by omega), List.take_set_of_le (by omega)]
theorem num4_set_out {L : List Nat} {a k y : Nat} (h : k < a ∨ a + 4 ≤ k) : num4 (L.set k y) a = num4 L a := by
  unfold num4
  rw [nth_set_ne (by omega), nth_set_ne (by omega), nth_set_ne (by omega), nth_set_ne (by omega)]
/-- The header of bytes one of which is turned. -/
theorem getH_set {L : List Nat} {k y : Nat} (_ : L.length = 80) (_ : k < 80) : (k < 4 ∧ ∃ x, getH (L.set k y) = { getH L with v := x }) ∨ (4 ≤ k ∧ k < 36 ∧ getH (L.set k y) = { getH L with p := (getH L).p.set (k - 4) y }) ∨
    (36 ≤ k ∧ k < 68 ∧ getH (L.set k y) = { getH L with r := (getH L).r.set (k - 36) y }) ∨ (68 ≤ k ∧ k < 72 ∧ ∃ x, getH (L.set k y) = { getH L with t := x }) ∨ (72 ≤ k ∧ k < 76 ∧ ∃ x, getH (L.set k y) = { getH L with b := x }) ∨ (76 ≤ k ∧ ∃ x, getH (L.set k y) = { getH L with n := x }) := by
  have n0 : 4 ≤ k → num4 (L.set k y) 0 = num4 L 0 := fun h => num4_set_out (by omega)
  have n1 : (k < 68 ∨ 72 ≤ k) → num4 (L.set k y) 68 = num4 L 68 := fun h => num4_set_out (by omega)
  have n2 : (k < 72 ∨ 76 ≤ k) → num4 (L.set k y) 72 = num4 L 72 := fun h => num4_set_out (by omega)
  have n3 : k < 76 → num4 (L.set k y) 76 = num4 L 76 := fun h => num4_set_out (by omega)
  have c0 : (k < 4 ∨ 36 ≤ k) → cut32 (L.set k y) 4 = cut32 L 4 := fun h => cut32_set_out (by omega)
  have c1 : (k < 36 ∨ 68 ≤ k) → cut32 (L.set k y) 36 = cut32 L 36 := fun h => cut32_set_out (by omega)
  by_cases h1 : k < 4
  · exact .inl ⟨h1, num4 (L.set k y) 0, Hd.ext' rfl (c0 (by omega)) (c1 (by omega)) (n1 (by omega)) (n2 (by omega)) (n3 (by omega))⟩
  by_cases h2 : k < 36
  · exact .inr (.inl ⟨by omega, h2, Hd.ext' (n0 (by omega)) (cut32_set_in (by omega) (by omega)) (c1 (by omega)) (n1 (by omega)) (n2 (by omega)) (n3 (by omega))⟩)
  by_cases h3 : k < 68
  · exact .inr (.inr (.inl ⟨by omega, h3, Hd.ext' (n0 (by omega)) (c0 (by omega)) (cut32_set_in (by omega) (by omega)) (n1 (by omega)) (n2 (by omega)) (n3 (by omega))⟩))
  by_cases h4 : k < 72
  · exact .inr (.inr (.inr (.inl ⟨by omega, h4, num4 (L.set k y) 68, Hd.ext' (n0 (by omega)) (c0 (by omega)) (c1 (by omega)) rfl (n2 (by omega)) (n3 (by omega))⟩)))
  by_cases h5 : k < 76
  · exact .inr (.inr (.inr (.inr (.inl ⟨by omega, h5, num4 (L.set k y) 72, Hd.ext' (n0 (by omega)) (c0 (by omega)) (c1 (by omega)) (n1 (by omega)) rfl (n3 (by omega))⟩))))
  · exact .inr (.inr (.inr (.inr (.inr ⟨by omega, num4 (L.set k y) 76, Hd.ext' (n0 (by omega)) (c0 (by omega)) (c1 (by omega)) (n1 (by omega)) (n2 (by omega)) rfl⟩))))
theorem set_byt {L : List Nat} {k y : Nat} (h : AllB L) (hy : y < 256) : AllB (L.set k y) := fun x hx => by
  rcases List.mem_or_eq_of_mem_set hx with h1 | h1
  · exact h x h1
  · subst h1; exact hy
theorem set_self_nth {L : List Nat} {k : Nat} (h : k < L.length) : L.set k (nth L k) = L := by
  refine nth_ext (by simp) fun j hj => ?_
  rw [nth_set h]
  split
  · rename_i e; rw [e]
  · rfl
theorem set_xor {L : List Nat} {k y : Nat} (h : k < L.length) : L.set k (nth L k ^^^ y) = L ↔ y = 0 := by
  constructor
  · intro e
    have := congrArg (nth · k) e
    simp only [nth_set h, if_true] at this
    exact xor_same.1 this
  · rintro rfl
    rw [Nat.xor_zero, set_self_nth h]
theorem set_xor_back {L : List Nat} {k y : Nat} (h : k < L.length) : (L.set k (nth L k ^^^ y)).set k (nth (L.set k (nth L k ^^^ y)) k ^^^ y) = L := by
  rw [nth_set h, if_pos rfl, xor_back, List.set_set, set_self_nth h]
/-- A byte that is turned turns the header, if it is turned at all. -/
theorem turned_iff {h : Hd} (o : h.Ok) {k y : Nat} (hk : k < 80) (hy : y < 256) : getH ((hdB h).set k (nth (hdB h) k ^^^ y)) = h ↔ y = 0 := by
  have hl := hdB_len o
  have hb := hdB_byt o
  have hb2 := set_byt (k := k) hb (xor_lt (nth_lt hb k) hy)
  rw [← set_xor (L := hdB h) (k := k) (by omega)]
  constructor
  · intro e
    have := congrArg hdB e
    rwa [hdB_getH hb2 (by simpa using hl)] at this
  · intro e
    rw [e, getH_hdB o]
end Go.Proofs.YtimjmmiajgfblaaGreatDoor

/- A word of 16 bits, as it comes in. No condition. -/
namespace Go.Proofs.YtimjmmiajgfblaaGreatDoor
open Go.ChangeShapes Go.WideShapes Go.ChangeAt Go.WideMaps Go.WideElems Go.RowKit
set_option maxRecDepth 100000
theorem open_u16 {H : Type} {enc : TypeId × Value → H} {W : World} {base : Nat} {v : Value} {d : DataW H} {p : List MemPlace} (hv : Value.okWide Tryz.prog W .any base 40 v) (h : DataW.Trod enc Tryz.prog W 0 (fun _ => true) true 40 v d p) : ∃ x : Nat, x < 65536 ∧ v = .int .u16 (x : Nat) := by
  obtain ⟨n, rfl, rfl, rfl, w⟩ := open_int Tryz.underlying40 hv h
  have b := bounds_u16 w
  exact ⟨n.toNat, by omega, by rw [Int.toNat_of_nonneg b.1]⟩
end Go.Proofs.YtimjmmiajgfblaaGreatDoor

/- Rows of headers in which a header is stored anew (from tpl8's XChainL). No condition. -/
namespace Go.Proofs.YtimjmmiajgfblaaGreatDoor
open Go.RowKit
set_option maxRecDepth 100000

theorem set_nthH {l : List Hd} {k : Nat} (h : Hd) (hk : k < l.length) : l.set k h = l.take k ++ ([h] ++ l.drop (k + 1)) := by
  rw [List.set_eq_take_append_cons_drop, if_pos hk]; rfl
theorem nthH_set {l : List Hd} {k j : Nat} {h : Hd} (hk : k < l.length) : nthH (l.set k h) j = if j = k then h else nthH l j := by
  by_cases e : j = k
  · subst e; rw [if_pos rfl]; simp [nthH, List.getD, hk]
  · rw [if_neg e]; simp [nthH, List.getD, Ne.symm e]
theorem okAll_set {l : List Hd} {k : Nat} {h : Hd} (o : OkAll l) (p : h.Ok) : OkAll (l.set k h) := fun x hx => by
  rcases List.mem_or_eq_of_mem_set hx with h1 | h1
  · exact o x h1
  · subst h1; exact p
theorem ok_p {h : Hd} {P : List Nat} (o : h.Ok) (hP : P.length = 32) (hb : AllB P) : ({ h with p := P } : Hd).Ok := ⟨o.v, hP, o.r, o.t, o.b, o.n, hb, o.rb⟩
/-- A row of headers, with what lies behind it. -/
structure RowZ (w : World) (g n : Nat) (l : List Hd) (R : List Value) (wr : World) : Prop where
  row : Ro wr g 27 (hsV l ++ R)
  len : l.length = n
  ok : OkAll l
  bel : Below w.heap.size w wr
  new : w.heap.size ≤ g
theorem RowZ.later {w wr w1 : World} {g n : Nat} {l : List Hd} {R : List Value} (h : RowZ w g n l R wr) (b : Below wr.heap.size wr w1) : RowZ w g n l R w1 := ⟨h.row.later b, h.len, h.ok, h.bel.trans (b.mono h.bel.size), h.new⟩
theorem RowZ.hs {w wr : World} {g n : Nat} {l : List Hd} {R : List Value} (h : RowZ w g n l R wr) : Hs wr (some ⟨g, 0, none⟩) n l :=
  ⟨h.len, h.ok, fun _ => ⟨g, 0, rfl, h.row.lt, fun j v hj => by
    rw [Nat.zero_add]
    exact h.row.cell (by rw [List.getElem?_append_left (List.getElem?_eq_some_iff.1 hj).1]; exact hj)⟩⟩
theorem OwnH.rowZ {w wr : World} {g n c : Nat} {l : List Hd} (h : OwnH w (.slice (some ⟨g, 0, none⟩) n c) n l wr) : ∃ R, RowZ w g n l R wr := by
  rcases h.row.2 with ⟨e, _⟩ | ⟨q, cap, cur, e, hq, hh, hn, hm, hs, ht⟩
  · cases e
  · injection e with e1 e2 e3
    injection e1 with e1
    injection e1 with e1
    subst e1
    refine ⟨cur.toList.drop (n * 68), ⟨?_, h.len, h.ok, h.bel, hq⟩⟩
    unfold Ro
    rw [hh]
    congr 2
    apply Array.toList_inj.1
    rw [← ht]
    simp
theorem hsV_parts {l : List Hd} {k : Nat} (o : OkAll l) (hk : k < l.length) (R : List Value) : ∃ X Z, X.length = k * 68 + 1 ∧ hsV l ++ R = X ++ (vals (nthH l k).p ++ Z) ∧ ∀ P, hsV (l.set k { nthH l k with p := P }) ++ R = X ++ (vals P ++ Z) := by
  refine ⟨hsV (l.take k) ++ [u32v (nthH l k).v], vals (nthH l k).r ++ [u32v (nthH l k).t, u32v (nthH l k).b, u32v (nthH l k).n] ++ (hsV (l.drop (k + 1)) ++ R), ?_, ?_, fun P => ?_⟩
  · rw [List.length_append, hsV_len (o.take k), List.length_take, Nat.min_eq_left (by omega)]; rfl
  · conv => lhs; rw [split_nthH hk, hsV_app, hsV_app, hsV_one]
    unfold hdV
    simp
  · rw [set_nthH _ hk, hsV_app, hsV_app, hsV_one]
    unfold hdV
    simp
section
variable {w wr : World} {g n k : Nat} {l : List Hd} {R : List Value}
theorem RowZ.setP (h : RowZ w g n l R wr) (hk : k < n) {I : List Nat} (hI : I.length = 32) (hb : AllB I) {w1 : World} (hr : Ro w1 g 27 (splice (hsV l ++ R) (k * 68 + 1) (vals I))) (hg : wr.grownBy w1 (some g)) : RowZ w g n (l.set k { nthH l k with p := I }) R w1 := by
  have hk' : k < l.length := by rw [h.len]; exact hk
  obtain ⟨X, Z, hX, e1, e2⟩ := hsV_parts h.ok hk' R
  rw [e1, splice_mid hX (by rw [vals_length, vals_length, hI, (nthH_ok h.ok k).p]), ← e2 I] at hr
  exact ⟨hr, by rw [List.length_set]; exact h.len, okAll_set h.ok (ok_p (nthH_ok h.ok k) hI hb), h.bel.grown hg h.bel.size (fun q e => by injection e with e; have := h.new; omega), h.new⟩
theorem RowZ.cellP (h : RowZ w g n l R wr) (hk : k < n) {r : Nat} (hr : r < 32) : wr.cell? ⟨g, k * 68 + 1 + r, none⟩ = some (.int .u8 (nth (nthH l k).p r : Nat)) := by
  have hk' : k < l.length := by rw [h.len]; exact hk
  obtain ⟨X, Z, hX, e1, e2⟩ := hsV_parts h.ok hk' R
  have h1 := h.row
  rw [e1] at h1
  refine h1.cell ?_
  rw [List.getElem?_append_right (by omega), hX, Nat.add_sub_cancel_left, List.getElem?_append_left (by rw [vals_length, (nthH_ok h.ok k).p]; exact hr)]
  exact vals_get _ _ (by rw [(nthH_ok h.ok k).p]; exact hr)
theorem RowZ.setB (h : RowZ w g n l R wr) (hk : k < n) {r y : Nat} (hr : r < 32) (hy : y < 256) : RowZ w g n (l.set k { nthH l k with p := (nthH l k).p.set r y }) R (wr.setCell ⟨g, k * 68 + 1 + r, none⟩ (.int .u8 (y : Int))) := by
  have hk' : k < l.length := by rw [h.len]; exact hk
  obtain ⟨X, Z, hX, e1, e2⟩ := hsV_parts h.ok hk' R
  have h1 := h.row.set (k * 68 + 1 + r) (.int .u8 (y : Int))
  rw [e1, List.set_append_right _ _ (by omega), hX, Nat.add_sub_cancel_left, List.set_append_left _ _ (by rw [vals_length, (nthH_ok h.ok k).p]; exact hr), vals_set, ← e2] at h1
  exact ⟨h1, by rw [List.length_set]; exact h.len, okAll_set h.ok (ok_p (nthH_ok h.ok k) (by rw [List.length_set]; exact (nthH_ok h.ok k).p) (set_byt (nthH_ok h.ok k).pb hy)), h.bel.setCell h.new _, h.new⟩
end
/-- A whole header is stored at k. -/
theorem hsV_split {l : List Hd} {k : Nat} (hk : k < l.length) (R : List Value) : hsV l ++ R = hsV (l.take k) ++ (hdV (nthH l k) ++ (hsV (l.drop (k + 1)) ++ R)) := by
  conv => lhs; rw [split_nthH hk, hsV_app, hsV_app, hsV_one]
  simp
theorem RowZ.setH {w wr w1 : World} {g n k : Nat} {l : List Hd} {R : List Value} (h : RowZ w g n l R wr) (hk : k < n) {x : Hd} (o : x.Ok) (hr : Ro w1 g 27 (splice (hsV l ++ R) (k * 68) (hdV x))) (hg : wr.grownBy w1 (some g)) : RowZ w g n (l.set k x) R w1 := by
  have hk' : k < l.length := by rw [h.len]; exact hk
  have hX : (hsV (l.take k)).length = k * 68 := by rw [hsV_len (h.ok.take k), List.length_take, Nat.min_eq_left (by omega)]
  rw [hsV_split hk' R, splice_mid hX (by rw [hdV_len o, hdV_len (nthH_ok h.ok k)])] at hr
  refine ⟨?_, by rw [List.length_set]; exact h.len, okAll_set h.ok o, h.bel.grown hg h.bel.size (fun q e => by injection e with e; have := h.new; omega), h.new⟩
  rw [set_nthH _ hk', hsV_app, hsV_app, hsV_one, List.append_assoc, List.append_assoc]
  exact hr
section
variable {w0 w : World} {ops : Array Oper} {rest : List Oper} {o : Oper} {a : Act} {Q : Exit → Act → World → Prop}
theorem wpList_appHs (hgd : o.guard = none) (s x : Operand) (ho : o.op = .call { callee := .builtin .append, args := #[s, x], argTypes := #[30, 30] })
    {v : Value} {n m c : Nat} {l k : List Hd} {A : Option Addr} (hs : a.eval s = v) (hown : OwnH w0 v n l w) (hx : a.eval x = .slice A m c) (hr : Hs w A m k) (hlen : n + m ≤ 1073741824)
    (hw : ∀ A' c' w', n + m ≤ c' → OwnH w0 (.slice A' (n + m) c') (n + m) (l ++ k) w' → wpList Tryz.prog ops Q rest (a.put o.dst (.slice A' (n + m) c')) w') : wpList Tryz.prog ops Q (o :: rest) a w := by
  refine wpList_plain hgd fun K hK => ?_
  have key : ∃ A' c' w', (Builtin.append_ #[30, 30] o.type #[v, .slice A m c]).run Tryz.prog w = .ok (.slice A' (n + m) c') w' ∧ OwnH w0 (.slice A' (n + m) c') (n + m) (l ++ k) w' := by
    by_cases hm : 0 < m
    · obtain ⟨b, q, rfl, _, hrg⟩ := hr.cel hm
      obtain ⟨A', c', w', r1, r2, _⟩ := run_appH (w0 := w0) (w := w) (c := c) o.type hown hr.len hr.ok hrg hlen
      exact ⟨A', c', w', r1, r2⟩
    · obtain rfl : m = 0 := by omega
      obtain rfl : k = [] := List.eq_nil_of_length_eq_zero hr.len
      rw [List.append_nil, Nat.add_zero]
      obtain ⟨i0, hi, hz0, hz1, hz2⟩ := info_parts Tryz.infoHd
      obtain ⟨A1, c1, rfl, hc1⟩ := hown.shape
      refine ⟨A1, c1, w, ?_, hown⟩
      have hc : ∀ x : Addr, (loadCells x 0).run Tryz.prog w = .ok #[] w := fun x => by simpa using run_loadCells_list (P := Tryz.prog) w x [] (by simp)
      rcases hown.row.2 with ⟨e, _⟩ | ⟨q, cap, cur, e, _, _, hnc, _⟩
      · injection e with e1 e2 e3
        subst e1 e2 e3
        cases A <;> simp [Builtin.append_, run_underlying Tryz.underlying30, sizeOf, typeInfo, hi, Builtin.lenOf, Builtin.firstCells, hc]
      · injection e with e1 e2 e3
        subst e1 e3
        cases A <;> simp [Builtin.append_, run_underlying Tryz.underlying30, sizeOf, typeInfo, hi, Builtin.lenOf, Builtin.firstCells, hnc, storeCells, hc]
  obtain ⟨A', c', w', r1, r2⟩ := key
  have e := hK _ _ (hw A' c' w' r2.cap r2)
  unfold Oper.wp
  simp [execOp, ho, resolve, invoke, builtin, hs, hx, r1, Result.andThen]
  exact e
end
end Go.Proofs.YtimjmmiajgfblaaGreatDoor
