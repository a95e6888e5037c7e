/- Appends of slices of entries; whether two entries are the same. No condition. -/
import Derived.Test.YtipbpecihbmneaaDoorMapH
import Derived.Test.YtipbpecihbmneaaDoorEq
import Derived.Laws.StructEq
namespace Go.Proofs.YtipbpecihbmneaaDoor
open Go.RowKit

theorem OwnE.made {w0 w : World} (b : Below w0.heap.size w0 w) : OwnE w0 (.slice (some ⟨w.heap.size, 0, none⟩) 0 0) 0 [] (w.alloc (.cells #[] 29)) :=
  ⟨World.ownsRow_made w #[] 0 b.size (by unfold maxLen; omega) rfl, okEs_nil, b.alloc b.size _⟩
theorem run_appEs {w0 w : World} {v : Value} {n m c : Nat} {L M : List En} {A : Option Addr} (ty : TypeId) (hown : OwnE w0 v n L w) (hr : Es w A m M) (hlen : n + m ≤ 1073741824) :
    ∃ A' c' w', (Builtin.append_ #[22, 22] ty #[v, .slice A m c]).run Tryd.prog w = .ok (.slice A' (n + m) c') w' ∧ OwnE w0 (.slice A' (n + m) c') (n + m) (L ++ M) w' ∧ w.grownBy w' v.ownBlock ∧ n + m ≤ c' ∧ (Value.ownBlock (.slice A' (n + m) c') = v.ownBlock ∨ Value.ownBlock (.slice A' (n + m) c') = some w.heap.size) := by
  by_cases hm : 0 < m
  · obtain ⟨b, o, rfl, hb, hc⟩ := hr.cel hm
    exact run_appE ty hown hr.len hr.ok hc hlen
  · obtain ⟨i0, hi, hz0, hz1, hz2⟩ := info_parts Tryd.infoEn
    obtain rfl : m = 0 := by omega
    obtain rfl : M = [] := List.eq_nil_of_length_eq_zero hr.len
    rw [List.append_nil, Nat.add_zero]
    obtain ⟨A1, c1, rfl, hc1⟩ := hown.shape
    refine ⟨A1, c1, w, ?_, hown, World.grownBy.refl _ _, hc1, .inl rfl⟩
    have hc : ∀ x : Addr, (loadCells x 0).run Tryd.prog w = .ok #[] w := fun x => by simpa using run_loadCells_list (P := Tryd.prog) w x [] (by simp)
    rcases hown.row.2 with ⟨e, _⟩ | ⟨q, cap, cur, e, _, _, hnc, _⟩
    · injection e with e1 e2 e3
      subst e1 e2 e3
      cases A <;> simp [Builtin.append_, run_underlying Tryd.underlying22, sizeOf, typeInfo, hi, Builtin.lenOf, Builtin.firstCells, hc]
    · injection e with e1 e2 e3
      subst e1 e3
      cases A <;> simp [Builtin.append_, run_underlying Tryd.underlying22, sizeOf, typeInfo, hi, Builtin.lenOf, Builtin.firstCells, hnc, storeCells, hc]
section
variable {w0 w : World} {ops : Array Oper} {rest : List Oper} {o : Oper} {a : Act} {Q : Exit → Act → World → Prop} {K : Act → World → Prop} {d : Option Tmp}
theorem wp_litE0 (hd : o.dst = d) (ho : o.op = .buildSlice 22 0 #[]) (h : K (a.put d (.slice (some ⟨w.heap.size, 0, none⟩) 0 0)) (w.alloc (.cells #[] 29))) : o.wp Tryd.prog a w K Q := by
  rw [← hd] at h
  obtain ⟨i0, hi, hz0, hz1, hz2⟩ := info_parts Tryd.infoEn
  have key : (Instr.buildSlice 22 0 #[]).run Tryd.prog w = .ok (.slice (some ⟨w.heap.size, 0, none⟩) 0 0) (w.alloc (.cells #[] 29)) := by
    simp [Instr.buildSlice, run_underlying Tryd.underlying22, sizeOf, typeInfo, hi, newRow, Instr.fill, Array.range_zero']
  unfold Oper.wp execOp
  simp only [ho, Sem.run_bind]
  rw [show (#[].map fun (x : Nat × Operand) => match x with | (i, x) => (i, a.eval x)) = (#[] : Array (Nat × Value)) by simp, key]
  exact h
theorem wpList_litE0 (hgd : o.guard = none) (ho : o.op = .buildSlice 22 0 #[]) (h : wpList Tryd.prog ops Q rest (a.put o.dst (.slice (some ⟨w.heap.size, 0, none⟩) 0 0)) (w.alloc (.cells #[] 29))) : wpList Tryd.prog ops Q (o :: rest) a w :=
  wpList_plain hgd fun _ hK => wp_litE0 rfl ho (hK _ _ h)
theorem wp_appEs (hd : o.dst = d) (s x : Operand) (ho : o.op = .call { callee := .builtin .append, args := #[s, x], argTypes := #[22, 22] })
    {v : Value} {n m c N : Nat} {L M : List En} {A : Option Addr} (hs : a.eval s = v) (hown : OwnE w0 v n L w) (hx : a.eval x = .slice A m c) (hr : Es w A m M) (hN : n + m = N) (hlen : n + m ≤ 1073741824)
    (hw : ∀ A' c' w', N ≤ c' → OwnE w0 (.slice A' N c') N (L ++ M) w' → w.grownBy w' v.ownBlock → (Value.ownBlock (.slice A' N c') = v.ownBlock ∨ Value.ownBlock (.slice A' N c') = some w.heap.size) → K (a.put d (.slice A' N c')) w') : o.wp Tryd.prog a w K Q := by
  subst hd hN
  obtain ⟨A', c', w', r1, r2, r3, r4, r5⟩ := run_appEs (c := c) o.type hown hr hlen
  have e := hw A' c' w' r4 r2 r3 r5
  unfold Oper.wp
  simp [execOp, ho, resolve, invoke, builtin, hs, hx, r1, Result.andThen]
  exact e
theorem wpList_appEs (hgd : o.guard = none) (s x : Operand) (ho : o.op = .call { callee := .builtin .append, args := #[s, x], argTypes := #[22, 22] })
    {v : Value} {n m c N : Nat} {L M : List En} {A : Option Addr} (hs : a.eval s = v) (hown : OwnE w0 v n L w) (hx : a.eval x = .slice A m c) (hr : Es w A m M) (hN : n + m = N) (hlen : n + m ≤ 1073741824)
    (hw : ∀ A' c' w', N ≤ c' → OwnE w0 (.slice A' N c') N (L ++ M) w' → w.grownBy w' v.ownBlock → (Value.ownBlock (.slice A' N c') = v.ownBlock ∨ Value.ownBlock (.slice A' N c') = some w.heap.size) → wpList Tryd.prog ops Q rest (a.put o.dst (.slice A' N c')) w') : wpList Tryd.prog ops Q (o :: rest) a w :=
  wpList_plain hgd fun _ hK => wp_appEs rfl s x ho hs hown hx hr hN hlen fun A' c' w' h1 h2 h3 h4 => hK _ _ (hw A' c' w' h1 h2 h3 h4)
end

/-! ### struct equality -/
theorem fields_en0 : (Tryd.prog.fieldsOf 29).toList.map (fun f => (f.name, f.type, f.offset)) = [("Height", 3, 0), ("Tx", 27, 1)] := by kernel_rfl
theorem eq_hash9 {H K : List Nat} (hH : H.length = 32) (hK : K.length = 32) (w : World) : (Op.equalIn 9999 27 (.agg (vals H).toArray) (.agg (vals K).toArray)).run Tryd.prog w = .ok (eqB H K) w := by
  obtain ⟨i, hi⟩ : ∃ i, Tryd.prog.info? 5 = some i := Option.isSome_iff_exists.1 (by kernel_rfl)
  rw [run_equalIn_array w 9998 (e := 5) (n := 32) _ _ Tryd.underlying27 hi, show Tryd.prog.cellsOf 5 = 1 from by kernel_rfl, eqItems_bytes H K 9997 w (List.range 32) (fun i hi => by
    have := List.mem_range.1 hi
    omega)]
  congr 1
  unfold eqB
  rw [decide_eq_decide]
  constructor
  · intro h
    exact nth_ext (by omega) fun k hk => h k (List.mem_range.2 (by omega))
  · rintro rfl
    exact fun _ _ => rfl
theorem eqFields_step {d : Nat} {xs ys : Array Value} {w : World} {f : Field} {fs : List Field} {nm : String} {T : TypeId} {o : Nat} {a b : Value} {r : Bool} (h : (f.name, f.type, f.offset) = (nm, T, o)) (hn : nm ≠ "_")
    (ha : (part T xs o).run Tryd.prog w = .ok a w) (hb : (part T ys o).run Tryd.prog w = .ok b w) (hr : (Op.equalIn d T a b).run Tryd.prog w = .ok r w) :
    (Op.eqFields d xs ys (f :: fs)).run Tryd.prog w = if r then (Op.eqFields d xs ys fs).run Tryd.prog w else .ok false w := by
  simp only [Prod.mk.injEq] at h
  obtain ⟨h1, h2, h3⟩ := h
  subst h1 h2 h3
  simp only [Op.eqFields, hn, ne_eq, not_false_eq_true, if_true, Sem.run_bind, ha, hb, hr, Result.andThen_ok]
  cases r <;> simp
theorem part_int {xs : List Value} {o : Nat} {v : Value} (h : xs[o]? = some v) (w : World) : (part 3 xs.toArray o).run Tryd.prog w = .ok v w := by
  simp [part, isAgg, run_underlying Tryd.underlying3, h]
theorem part_hash {xs X Y Z : List Value} {o : Nat} (h : xs = X ++ (Y ++ Z)) (hX : X.length = o) (hY : Y.length = 32) (w : World) : (part 27 xs.toArray o).run Tryd.prog w = .ok (.agg Y.toArray) w := by
  have hi : (Tryd.prog.info? 27).map (·.size) = some 32 := by kernel_rfl
  cases hq : Tryd.prog.info? 27 with
  | none => simp [hq] at hi
  | some i =>
    have hs : i.size = 32 := by simpa [hq] using hi
    have e : List.take 32 (List.drop o (X ++ (Y ++ Z))) = Y := by rw [← hX, List.drop_left, ← hY, List.take_left]
    subst h
    simp [part, isAgg, run_underlying Tryd.underlying27, sizeOf, typeInfo, hq, hs, e]
open Classical in
theorem eq_en {e f : En} (o : e.Ok) (k : f.Ok) (w : World) : (Op.equalIn 10000 29 (.agg (enV e).toArray) (.agg (enV f).toArray)).run Tryd.prog w = .ok (decide (e = f)) w := by
  rw [run_equalIn_struct w 9999 _ _ _ (by kernel_rfl) (by kernel_rfl)]
  have hf := fields_en0
  obtain ⟨fs, hfs⟩ : ∃ fs, (Tryd.prog.fieldsOf 29).toList = fs := ⟨_, rfl⟩
  rw [hfs] at hf ⊢
  match fs, hf with
  | [f0, f1], hf =>
    simp only [List.map_cons, List.map_nil, List.cons.injEq, and_true] at hf
    obtain ⟨h0, h1⟩ := hf
    have n0 : ∀ x : En, (enV x)[0]? = some (.int .i64 x.h) := fun x => rfl
    have qi : ∀ a b : Int, (Op.equalIn 9999 3 (.int .i64 a) (.int .i64 b)).run Tryd.prog w = .ok (a == b) w := fun a b => run_equalIn_int w 9998 _ _ _ _ _ Tryd.underlying3
    have hp : ∀ {x : En}, x.Ok → (part 27 (enV x).toArray 1).run Tryd.prog w = .ok (.agg (vals x.tx).toArray) w := fun {x} o => part_hash (X := [.int .i64 x.h]) (Z := []) (by rw [List.append_nil]; rfl) rfl (by rw [vals_length, o.2.1]) w
    rw [eqFields_step h0 (by decide) (part_int (n0 e) w) (part_int (n0 f) w) (qi _ _), eqFields_step h1 (by decide) (hp o) (hp k) (eq_hash9 o.2.1 k.2.1 w)]
    have nil : (Op.eqFields 9999 (enV e).toArray (enV f).toArray []).run Tryd.prog w = .ok true w := by simp [Op.eqFields]
    rw [nil]
    have iff : (e = f) ↔ ((e.h == f.h) = true ∧ eqB e.tx f.tx = true) := by
      simp only [beq_iff_eq, eqB, decide_eq_true_eq]
      constructor
      · rintro rfl; exact ⟨rfl, rfl⟩
      · rintro ⟨a, b⟩; cases e; cases f; simp_all
    by_cases q0 : (e.h == f.h) = true
    · by_cases q1 : eqB e.tx f.tx = true
      · rw [if_pos q0, if_pos q1, decide_eq_true (iff.2 ⟨q0, q1⟩)]
      · rw [if_pos q0, if_neg q1, decide_eq_false (fun h => q1 (iff.1 h).2)]
    · rw [if_neg q0, decide_eq_false (fun h => q0 (iff.1 h).1)]
end Go.Proofs.YtipbpecihbmneaaDoor
