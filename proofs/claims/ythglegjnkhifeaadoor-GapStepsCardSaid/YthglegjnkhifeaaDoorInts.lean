/- Slices of ints: that read as a list, and rows of the call's own. No condition. -/
import Derived.Test.YthglegjnkhifeaaDoorSc
namespace Go.Proofs.YthglegjnkhifeaaDoor
open Go.RowKit

theorem Tryd.infoInt : (Tryd.prog.info? 3).map (fun i => (i.zero, i.size, i.bytes)) = some (some (.int .i64 0), 1, 8) := by kernel_rfl
theorem add_at (b o i : Nat) : (⟨b, o, none⟩ : Addr).add i = ⟨b, o + i, none⟩ := by
  unfold Addr.add
  split
  · simp_all
  · rfl
def iv (x : Int) : Value := .int .i64 x
def ivs (L : List Int) : List Value := L.map iv
def ith (L : List Int) (k : Nat) : Int := L.getD k 0
theorem ivs_len (L : List Int) : (ivs L).length = L.length := by simp [ivs]
theorem ivs_app (L M : List Int) : ivs (L ++ M) = ivs L ++ ivs M := by simp [ivs]
theorem ivs_one (L : List Int) : ∀ u ∈ ivs L, u.oneCell' = true := fun u hu => by
  obtain ⟨x, _, rfl⟩ := List.mem_map.1 hu
  rfl
theorem ivs_get (L : List Int) {k : Nat} (h : k < L.length) : (ivs L)[k]? = some (iv (ith L k)) := by simp [ivs, ith, List.getD, h]
theorem ith_get {L : List Int} {k : Nat} (h : k < L.length) : L[k] = ith L k := by simp [ith, List.getD, h]
theorem ith_mem {L : List Int} {k : Nat} (h : k < L.length) : ith L k ∈ L := by rw [← ith_get h]; exact List.getElem_mem h
theorem take_ith {L : List Int} {k : Nat} (h : k < L.length) : L.take (k + 1) = L.take k ++ [ith L k] := by
  rw [List.take_succ_eq_append_getElem h, ith_get h]
def OkI (L : List Int) : Prop := ∀ x ∈ L, -9223372036854775808 ≤ x ∧ x ≤ 9223372036854775807
/-- A slice at A of n elements reads as the numbers L. -/
structure Is (w : World) (A : Option Addr) (n : Nat) (L : List Int) : Prop where
  len : L.length = n
  ok : OkI L
  cel : 0 < n → ∃ b o, A = some ⟨b, o, none⟩ ∧ b < w.heap.size ∧ ∀ k, k < n → w.cell? ⟨b, o + k, none⟩ = some (.int .i64 (ith L k))
theorem Is.nil (w : World) (A : Option Addr) : Is w A 0 [] := ⟨rfl, (fun x hx => by cases hx), fun h => absurd h (by omega)⟩
theorem Is.later {w w1 : World} {A : Option Addr} {n : Nat} {L : List Int} (h : Is w A n L) (g : Below w.heap.size w w1) : Is w1 A n L :=
  ⟨h.len, h.ok, fun hn => by
    obtain ⟨b, o, e, hb, hc⟩ := h.cel hn
    exact ⟨b, o, e, Nat.lt_of_lt_of_le hb g.size, fun k hk => by rw [← hc k hk]; exact g.cell hb⟩⟩
theorem Is.far {w w1 : World} {A : Option Addr} {n : Nat} {L : List Int} {row : Option Nat} (h : Is w A n L) (g : w.grownBy w1 row) (hr : ∀ a, A = some a → some a.block ≠ row) : Is w1 A n L :=
  ⟨h.len, h.ok, fun hn => by
    obtain ⟨b, o, e, hb, hc⟩ := h.cel hn
    refine ⟨b, o, e, Nat.lt_of_lt_of_le hb g.size, fun k hk => ?_⟩
    rw [← hc k hk]
    unfold World.cell?
    rw [g.block b hb (hr _ e)]⟩
/-- v is a row of the call's own that reads as the numbers L. -/
structure OwnI (w0 : World) (v : Value) (n : Nat) (L : List Int) (wr : World) : Prop where
  row : wr.ownsRow w0.heap.size 3 1 v n (ivs L)
  ok : OkI L
  bel : Below w0.heap.size w0 wr
section
variable {w0 wr w1 : World} {v : Value} {n : Nat} {L : List Int}
theorem OwnI.len (h : OwnI w0 v n L wr) : L.length = n := by
  have := h.row.1
  rw [ivs_len] at this; omega
theorem OwnI.later (h : OwnI w0 v n L wr) (g : Below wr.heap.size wr w1) : OwnI w0 v n L w1 := ⟨ownsRow_later h.row g, h.ok, h.bel.trans (g.mono h.bel.size)⟩
theorem OwnI.shape (h : OwnI w0 v n L wr) : ∃ A c, v = .slice A n c ∧ n ≤ c := by
  rcases h.row.2 with ⟨rfl, rfl⟩ | ⟨g, cap, cur, rfl, _, _, hc, _⟩
  · exact ⟨none, 0, rfl, Nat.le_refl _⟩
  · exact ⟨_, _, rfl, hc⟩
theorem OwnI.new (h : OwnI w0 v n L wr) : ∀ k, v.ownBlock = some k → w0.heap.size ≤ k ∧ k < wr.heap.size := h.row.lt
theorem OwnI.none_ {w : World} (b : Below w0.heap.size w0 w) : OwnI w0 (.slice none 0 0) 0 [] w := ⟨World.ownsRow_nil _ _ _ _, (fun x hx => by cases hx), b⟩
theorem OwnI.reads {A : Option Addr} {c : Nat} (h : OwnI w0 (.slice A n c) n L wr) : Is wr A n L := by
  have hl := h.len
  refine ⟨hl, h.ok, fun hn => ?_⟩
  obtain ⟨g, cap, hv, _, hlt⟩ := h.row.form hn
  have hA : A = some ⟨g, 0, none⟩ := by injection hv
  subst hA
  refine ⟨g, 0, rfl, hlt, fun k hk => ?_⟩
  have := h.row.cells (g := g) rfl k _ (ivs_get L (by omega))
  rwa [add_at] at this
theorem OwnI.made {w : World} (b : Below w0.heap.size w0 w) : OwnI w0 (.slice (some ⟨w.heap.size, 0, none⟩) 0 0) 0 [] (w.alloc (.cells #[] 3)) :=
  ⟨World.ownsRow_made w #[] 0 b.size (by unfold maxLen; omega) rfl, (fun x hx => by cases hx), b.alloc b.size _⟩
end
theorem OkI.app {L M : List Int} (h : OkI L) (k : OkI M) : OkI (L ++ M) := fun x hx => by
  rcases List.mem_append.1 hx with h1 | h1
  · exact h x h1
  · exact k x h1
theorem okI_one {x : Int} (h : -9223372036854775808 ≤ x ∧ x ≤ 9223372036854775807) : OkI [x] := fun y hy => by rw [List.mem_singleton] at hy; subst hy; exact h
theorem run_appIs {w0 w : World} {v : Value} {n m c : Nat} {L M : List Int} {A : Option Addr} (ty : TypeId) (hown : OwnI w0 v n L w) (hr : Is w A m M) (hlen : n + m ≤ 1073741824) :
    ∃ A' c' w', (Builtin.append_ #[23, 23] ty #[v, .slice A m c]).run Tryd.prog w = .ok (.slice A' (n + m) c') w' ∧ OwnI w0 (.slice A' (n + m) c') (n + m) (L ++ M) w' ∧ w.grownBy w' v.ownBlock ∧ n + m ≤ c' ∧ (Value.ownBlock (.slice A' (n + m) c') = v.ownBlock ∨ Value.ownBlock (.slice A' (n + m) c') = some w.heap.size) := by
  obtain ⟨i0, hi, hz0, hz1, hz2⟩ := info_parts Tryd.infoInt
  have hsz := hown.bel.size
  by_cases hm : 0 < m
  · obtain ⟨b, o, rfl, hb, hc⟩ := hr.cel hm
    obtain ⟨v', w', a1, a2, a3, _, a5⟩ := run_append_own_at (P := Tryd.prog) w w0.heap.size 23 ty 3 i0 _ 1 8 Tryd.underlying23 hi hz0 hz1 hz2 rfl (by decide) v n (ivs L) hown.row ⟨b, o, none⟩ m c (ivs M) (by rw [ivs_len, hr.len]; omega) (fun j u hj => by
      have hlt := (List.getElem?_eq_some_iff.1 hj).1
      rw [ivs_len, hr.len] at hlt
      rw [ivs_get M (by rw [hr.len]; exact hlt)] at hj
      injection hj with hj
      rw [add_at, hc j hlt, ← hj]; rfl) (ivs_one _) (by unfold maxLen; omega) (by omega) hsz
    have O : OwnI w0 v' (n + m) (L ++ M) w' := ⟨by rw [ivs_app]; exact a2, hown.ok.app hr.ok, hown.bel.grown a3 hsz (fun q hq => (hown.new q hq).1)⟩
    obtain ⟨A', c', rfl, hc⟩ := O.shape
    exact ⟨A', c', w', a1, O, a3, hc, a5⟩
  · obtain rfl : m = 0 := by omega
    obtain rfl : M = [] := List.eq_nil_of_length_eq_zero hr.len
    rw [List.append_nil, Nat.add_zero]
    obtain ⟨A1, c1, rfl, hc1⟩ := hown.shape
    refine ⟨A1, c1, w, ?_, hown, World.grownBy.refl _ _, hc1, .inl rfl⟩
    have hc : ∀ x : Addr, (loadCells x 0).run Tryd.prog w = .ok #[] w := fun x => by simpa using run_loadCells_list (P := Tryd.prog) w x [] (by simp)
    rcases hown.row.2 with ⟨e, _⟩ | ⟨q, cap, cur, e, _, _, hnc, _⟩
    · injection e with e1 e2 e3
      subst e1 e2 e3
      cases A <;> simp [Builtin.append_, run_underlying Tryd.underlying23, sizeOf, typeInfo, hi, Builtin.lenOf, Builtin.firstCells, hc]
    · injection e with e1 e2 e3
      subst e1 e3
      cases A <;> simp [Builtin.append_, run_underlying Tryd.underlying23, sizeOf, typeInfo, hi, Builtin.lenOf, Builtin.firstCells, hnc, storeCells, hc]
section
variable {w0 w : World} {ops : Array Oper} {rest : List Oper} {o : Oper} {a : Act} {Q : Exit → Act → World → Prop} {K : Act → World → Prop}
theorem wp_appIs (s x : Operand) (ho : o.op = .call { callee := .builtin .append, args := #[s, x], argTypes := #[23, 23] })
    {v : Value} {n m c : Nat} {L M : List Int} {A : Option Addr} (hs : a.eval s = v) (hown : OwnI w0 v n L w) (hx : a.eval x = .slice A m c) (hr : Is w A m M) (hlen : n + m ≤ 1073741824)
    (hw : ∀ A' c' w', n + m ≤ c' → OwnI w0 (.slice A' (n + m) c') (n + m) (L ++ M) w' → w.grownBy w' v.ownBlock → (Value.ownBlock (.slice A' (n + m) c') = v.ownBlock ∨ Value.ownBlock (.slice A' (n + m) c') = some w.heap.size) → K (a.put o.dst (.slice A' (n + m) c')) w') : o.wp Tryd.prog a w K Q := by
  obtain ⟨A', c', w', r1, r2, r3, r4, r5⟩ := run_appIs (c := c) o.type hown hr hlen
  have e := hw A' c' w' r4 r2 r3 r5
  unfold Oper.wp
  simp [execOp, ho, resolve, invoke, builtin, hs, hx, r1, Result.andThen]
  exact e
theorem wpList_appIs (hgd : o.guard = none) (s x : Operand) (ho : o.op = .call { callee := .builtin .append, args := #[s, x], argTypes := #[23, 23] })
    {v : Value} {n m c : Nat} {L M : List Int} {A : Option Addr} (hs : a.eval s = v) (hown : OwnI w0 v n L w) (hx : a.eval x = .slice A m c) (hr : Is w A m M) (hlen : n + m ≤ 1073741824)
    (hw : ∀ A' c' w', n + m ≤ c' → OwnI w0 (.slice A' (n + m) c') (n + m) (L ++ M) w' → w.grownBy w' v.ownBlock → (Value.ownBlock (.slice A' (n + m) c') = v.ownBlock ∨ Value.ownBlock (.slice A' (n + m) c') = some w.heap.size) → wpList Tryd.prog ops Q rest (a.put o.dst (.slice A' (n + m) c')) w') : wpList Tryd.prog ops Q (o :: rest) a w :=
  wpList_plain hgd fun _ hK => wp_appIs s x ho hs hown hx hr hlen fun A' c' w' h1 h2 h3 h4 => hK _ _ (hw A' c' w' h1 h2 h3 h4)
end
end Go.Proofs.YthglegjnkhifeaaDoor
