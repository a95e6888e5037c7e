/- Slices of slices of bytes that came in; rows of states and of numbers of the call's own. No condition. -/
import Derived.Test.YtmieoeplbmfemaaDoorSums
import Derived.Test.YtmieoeplbmfemaaDoorOpenA
import Derived.Maps.AppendAt
import Derived.Great.BuildSlice
namespace Go.Proofs.YtmieoeplbmfemaaDoor
open Go.ChangeShapes Go.WideShapes Go.ChangeAt Go.RowKit Go.ChangeMaps

theorem Tryd.infoState : (Tryd.prog.info? 38).map (fun i => (i.zero, i.size, i.bytes)) = some (some (.agg (stV (List.replicate 8 0) (List.replicate 64 0) 0).toArray), 73, 104) := by kernel_rfl
theorem Tryd.infoInt : (Tryd.prog.info? 3).map (fun i => (i.zero, i.size, i.bytes)) = some (some (.int .i64 0), 1, 8) := by kernel_rfl
section
variable {w : World} {ops : Array Oper} {rest : List Oper} {o : Oper} {a : Act} {Q : Exit → Act → World → Prop}
theorem wpList_apprun (hgd : o.guard = none) (s x : Operand) (T : TypeId) (ho : o.op = .call { callee := .builtin .append, args := #[s, x], argTypes := #[T, T] }) {v u r : Value} {w' : World} (hs : a.eval s = v) (hx : a.eval x = u)
    (hrun : (Builtin.append_ #[T, T] o.type #[v, u]).run Tryd.prog w = .ok r w') (h : wpList Tryd.prog ops Q rest (a.put o.dst r) w') : wpList Tryd.prog ops Q (o :: rest) a w := by
  refine wpList_plain hgd fun K hK => ?_
  unfold Oper.wp
  simp [execOp, ho, resolve, invoke, builtin, hs, hx, hrun, Result.andThen]
  exact hK _ _ h
theorem fill_state (S : List Value) (hl : S.length = 73) (Z : Array Value) (hZ : Z.size = 73) : Instr.fill (fun i => some (i * 73, 73)) Z [(0, .agg S.toArray)] = some S.toArray := by
  have h := Go.Great.fill_whole (s := 73) (by decide) [.agg S.toArray] Z (by simp [Value.cells, hl]) (by simp [hZ])
  simpa [Value.cells] using h
theorem wpList_litS (hgd : o.guard = none) (x : Operand) (ho : o.op = .buildSlice 40 1 #[(0, x)]) {S : List Value} (hx : a.eval x = .agg S.toArray) (hl : S.length = 73)
    (h : wpList Tryd.prog ops Q rest (a.put o.dst (.slice (some ⟨w.heap.size, 0, none⟩) 1 1)) (w.alloc (.cells S.toArray 38))) : wpList Tryd.prog ops Q (o :: rest) a w := by
  obtain ⟨i0, hi, hz0, hz1, hz2⟩ := info_parts Tryd.infoState
  refine wpList_buildSlice hgd 40 38 1 _ ho S.toArray i0 _ Tryd.underlying40 hi hz0 (by rw [hz1]; decide) (by rw [hz1]; decide) ?_ h
  rw [hz1]
  have e : (#[((0 : Nat), x)].map fun (y : Nat × Operand) => (y.1, a.eval y.2)).toList = [(0, .agg S.toArray)] := by simp [hx]
  exact (congrArg _ e).trans (fill_state S hl _ (by simp))
end
theorem run_appS {w : World} {base : Nat} {v : Value} {n : Nat} {xs S : List Value} {g : Nat} (ty : TypeId) (hown : w.ownsRow base 38 73 v n xs) (hb : base ≤ w.heap.size) (hS : Ro w g 38 S) (hl : S.length = 73) (h1 : ∀ u ∈ S, u.oneCell' = true) (hlen : n ≤ 65536) :
    ∃ A' c' w', (Builtin.append_ #[40, 40] ty #[v, .slice (some ⟨g, 0, none⟩) 1 1]).run Tryd.prog w = .ok (.slice A' (n + 1) c') w' ∧ w'.ownsRow base 38 73 (.slice A' (n + 1) c') (n + 1) (xs ++ S) ∧ w.grownBy w' v.ownBlock ∧ (Value.ownBlock (.slice A' (n + 1) c') = v.ownBlock ∨ Value.ownBlock (.slice A' (n + 1) c') = some w.heap.size) := by
  obtain ⟨i0, hi, hz0, hz1, hz2⟩ := info_parts Tryd.infoState
  obtain ⟨v', w', a1, a2, a3, _, a5⟩ := run_append_own_at (P := Tryd.prog) w base 40 ty 38 i0 _ 73 104 Tryd.underlying40 hi hz0 hz1 hz2 rfl (by decide) v n xs hown ⟨g, 0, none⟩ 1 1 S (by rw [hl]) (fun j u hj => by
    have e : (⟨g, 0, none⟩ : Addr).add j = ⟨g, j, none⟩ := by unfold Addr.add; split <;> simp_all
    rw [e]; exact hS.cell hj) h1 (by unfold maxLen; omega) (by omega) hb
  obtain ⟨gg, cap, hv, _⟩ := a2.form (Nat.succ_pos n)
  subst hv
  exact ⟨_, _, w', a1, a2, a3, a5⟩
theorem run_appI {w : World} {base : Nat} {v : Value} {n : Nat} {xs : List Value} {g : Nat} {u : Value} (ty : TypeId) (hown : w.ownsRow base 3 1 v n xs) (hb : base ≤ w.heap.size) (hS : Ro w g 3 [u]) (h1 : u.oneCell' = true) (hlen : n ≤ 65536) :
    ∃ A' c' w', (Builtin.append_ #[41, 41] ty #[v, .slice (some ⟨g, 0, none⟩) 1 1]).run Tryd.prog w = .ok (.slice A' (n + 1) c') w' ∧ w'.ownsRow base 3 1 (.slice A' (n + 1) c') (n + 1) (xs ++ [u]) ∧ w.grownBy w' v.ownBlock ∧ (Value.ownBlock (.slice A' (n + 1) c') = v.ownBlock ∨ Value.ownBlock (.slice A' (n + 1) c') = some w.heap.size) := by
  obtain ⟨i0, hi, hz0, hz1, hz2⟩ := info_parts Tryd.infoInt
  obtain ⟨v', w', a1, a2, a3, _, a5⟩ := run_append_own_at (P := Tryd.prog) w base 41 ty 3 i0 _ 1 8 Tryd.underlying41 hi hz0 hz1 hz2 rfl (by decide) v n xs hown ⟨g, 0, none⟩ 1 1 [u] rfl (fun j y hj => by
    have e : (⟨g, 0, none⟩ : Addr).add j = ⟨g, j, none⟩ := by unfold Addr.add; split <;> simp_all
    rw [e]; exact hS.cell hj) (fun y hy => by rw [List.mem_singleton] at hy; subst hy; exact h1) (by unfold maxLen; omega) (by omega) hb
  obtain ⟨gg, cap, hv, _⟩ := a2.form (Nat.succ_pos n)
  subst hv
  exact ⟨_, _, w', a1, a2, a3, a5⟩
/-- append of bytes, and in which block it lies. -/
theorem run_appB {w0 w : World} {v : Value} {n : Nat} {L M : List Nat} {A : Option Addr} {m c : Nat} (ty : TypeId) (hown : Own w0 v n L w) (hr : Bs w A m M) (hlen : n + m ≤ 1099511627776) :
    ∃ A' c' w', (Builtin.append_ #[22, 22] ty #[v, .slice A m c]).run Tryd.prog w = .ok (.slice A' (n + m) c') w' ∧ Own w0 (.slice A' (n + m) c') (n + m) (L ++ M) w' ∧ w.grownBy w' v.ownBlock ∧ (Value.ownBlock (.slice A' (n + m) c') = v.ownBlock ∨ Value.ownBlock (.slice A' (n + m) c') = some w.heap.size) := by
  obtain ⟨i0, hi, hz0, hz1, hz2⟩ := info_parts Tryd.infoByte
  have hsz := hown.size
  have key : ∀ v' w', (Builtin.append_ #[22, 22] ty #[v, .slice A m c]).run Tryd.prog w = .ok v' w' → Own w0 v' (n + m) (L ++ M) w' → w.grownBy w' v.ownBlock → (v'.ownBlock = v.ownBlock ∨ v'.ownBlock = some w.heap.size) → ∃ A' c' w', (Builtin.append_ #[22, 22] ty #[v, .slice A m c]).run Tryd.prog w = .ok (.slice A' (n + m) c') w' ∧ Own w0 (.slice A' (n + m) c') (n + m) (L ++ M) w' ∧ w.grownBy w' v.ownBlock ∧ (Value.ownBlock (.slice A' (n + m) c') = v.ownBlock ∨ Value.ownBlock (.slice A' (n + m) c') = some w.heap.size) := by
    intro v' w' h1 h2 h3 h4
    obtain ⟨A', c', rfl, _⟩ := h2.shape
    exact ⟨A', c', w', h1, h2, h3, h4⟩
  rcases A with _ | ad
  · obtain rfl : m = 0 := by
      rcases Nat.eq_zero_or_pos m with h0 | h0
      · exact h0
      · obtain ⟨_, e, _⟩ := hr.cel h0
        cases e
    obtain rfl : M = [] := List.eq_nil_of_length_eq_zero hr.len
    have hrun : (Builtin.append_ #[22, 22] ty #[v, .slice none 0 c]).run Tryd.prog w = .ok v w := by
      rcases hown.row.2 with ⟨rfl, rfl⟩ | ⟨g, cap, cur, rfl, _, _, hnc, _⟩
      · simp [Builtin.append_, run_underlying Tryd.underlying22, sizeOf, typeInfo, hi, Builtin.lenOf, Builtin.firstCells]
      · simp [Builtin.append_, run_underlying Tryd.underlying22, sizeOf, typeInfo, hi, Builtin.lenOf, Builtin.firstCells, hnc, storeCells]
    exact key v w hrun (by simpa using hown) (World.grownBy.refl _ _) (.inl rfl)
  · obtain ⟨v', w', h1, h2, h3, _, h5⟩ := run_append_own_at (P := Tryd.prog) w w0.heap.size 22 ty 5 i0 (.int .u8 0) 1 1 Tryd.underlying22 hi hz0 hz1 hz2 rfl (by decide) v n (vals L) hown.row ad m c (vals M) (by rw [vals_length, hr.len]; omega) hr.cells (vals_one M) (by unfold maxLen; omega) (by omega) hsz
    exact key v' w' h1 (hown.grown hr.byt h2 h3) h3 h5
section
variable {H : Type} {enc : TypeId × Value → H} {W : World} {base : Nat} {v : Value} {d : DataW H} {p : List MemPlace}
theorem weights_in {H : Type} {P : Program} {e : TypeId} {d : DataW H} {x : Nat} (hx : x ∈ d.weights P e) : ∀ {l : List (DataW H)}, d ∈ l → x ∈ DataW.weightsAll P e l
  | [], h => by cases h
  | a :: l, h => by
    rw [DataW.weightsAll, List.mem_append]
    rcases List.mem_cons.1 h with rfl | h
    · exact Or.inl hx
    · exact Or.inr (weights_in hx h)
theorem bytes_weight {H : Type} {enc : TypeId × Value → H} {W : World} {spare : Nat → Bool} {held : Bool} {A : Option Addr} {n c : Nat} {x : DataW H × List MemPlace} {fuel : Nat} (hf : DataW.trod enc Tryd.prog W 0 spare held fuel 22 [.slice A n c] = some x) (h : ∀ y ∈ x.1.weights Tryd.prog 22, y ≤ reachBytes) : n ≤ 140737488351232 := by
  rcases Deep.open_slice1 Tryd.underlying22 Tryd.cellsByte hf with ⟨e, _⟩ | ⟨a, len, cap, m, _, V, D, Pl, e, _, hlc, hcm, hm, hxx, _⟩
  · simp at e
    omega
  · simp at e
    obtain ⟨rfl, rfl, rfl⟩ := e
    rw [hxx] at h
    have hb : Tryd.prog.bytesOf 5 = 1 := by kernel_rfl
    have := h ((n + (m - n)) * 1) (by
      rw [DataW.weights, Tryd.underlying22]
      simp [hb])
    unfold reachBytes at this
    omega
theorem bytes_trod {H : Type} {enc : TypeId × Value → H} {W : World} {spare : Nat → Bool} {held : Bool} {v : Value} {x : DataW H × List MemPlace} {fuel : Nat} (hf : DataW.trod enc Tryd.prog W 0 spare held fuel 22 [v] = some x) :
    ∃ (A : Option Addr) (n c : Nat) (L : List Nat), (n ≤ c ∧ c ≤ 9223372036854775807 ∧ Bs W A n L) ∧ v = .slice A n c := by
  rcases Deep.open_slice1 Tryd.underlying22 Tryd.cellsByte hf with ⟨e, _⟩ | ⟨a, len, cap, m, _, V, D, Pl, e, _, hlc, hcm, hm, _, hx⟩
  · simp at e
    subst e
    exact ⟨none, 0, 0, [], ⟨Nat.le_refl _, by omega, Bs.nil _ _⟩, rfl⟩
  · simp at e
    subst e
    have hm' : len ≤ m := by rw [hm]; split <;> omega
    have each : ∀ i, i < len → ∃ x : Nat, x < 256 ∧ W.cell? (a.add i) = some (.int .u8 (x : Nat)) := fun i hi => by
      obtain ⟨h1, h2⟩ := hx i (by omega)
      obtain ⟨q, e0, _, w0⟩ := DataW.trod_int Tryd.underlying5 h2
      simp at e0
      have b0 := bounds_u8 w0
      exact ⟨q.toNat, by omega, by rw [h1, e0, Int.toNat_of_nonneg b0.1]⟩
    obtain ⟨f, hf'⟩ := Deep.choose_lt (α := Nat) (p := fun i x => x < 256 ∧ W.cell? (a.add i) = some (.int .u8 (x : Nat))) each
    refine ⟨some a, len, cap, (List.range len).map f, ⟨hlc, by unfold maxLen at hcm; omega, by simp, fun x hx => ?_, fun hn => ⟨a, rfl, ?_, fun k hk => ?_⟩⟩, rfl⟩
    · simp only [List.mem_map, List.mem_range] at hx
      obtain ⟨i, hi, rfl⟩ := hx
      exact (hf' i hi).1
    · have := World.block_lt_of_cell? _ _ (hf' 0 hn).2
      rwa [add_block] at this
    · rw [(hf' k hk).2]
      simp [nth, List.getD, hk]


/-- n slices of bytes at A. -/
def LsIn (W : World) (A : Option Addr) (n : Nat) (f : Nat → List Nat) : Prop := ∀ i, i < n → ∃ a B k q, A = some a ∧ a.block < W.heap.size ∧ W.cell? (a.add i) = some (.slice B k q) ∧ k ≤ q ∧ k ≤ 140737488351232 ∧ Bs W B k (f i)
theorem open_bytess (hv : Value.okWide Tryd.prog W .any base 32 v) (h : DataW.Trod enc Tryd.prog W 0 (fun _ => true) true 32 v d p) (hw : ∀ y ∈ d.weights Tryd.prog 32, y ≤ reachBytes) :
    ∃ (A : Option Addr) (n c : Nat) (f : Nat → List Nat), (n ≤ c ∧ c ≤ 9223372036854775807 ∧ LsIn W A n f) ∧ v = .slice A n c := by
  obtain ⟨fuel, hf⟩ := h
  obtain ⟨A, n, c, rfl⟩ := okWide_slice Tryd.underlying32 hv
  rcases Deep.open_slice1 Tryd.underlying32 (by kernel_rfl) hf with ⟨e, _⟩ | ⟨a, len, cap, m, _, V, D, Pl, e, _, hlc, hcm, hm, hd, hx⟩
  · simp [Value.cells] at e
    obtain ⟨rfl, rfl, rfl⟩ := e
    exact ⟨none, 0, 0, fun _ => [], ⟨Nat.le_refl _, by omega, fun i hi => by omega⟩, rfl⟩
  · simp [Value.cells] at e
    obtain ⟨rfl, rfl, rfl⟩ := e
    have hm' : n ≤ m := by rw [hm]; split <;> omega
    simp only [Prod.mk.injEq] at hd
    have each : ∀ i, i < n → ∃ L : List Nat, ∃ B k q, a.block < W.heap.size ∧ W.cell? (a.add i) = some (.slice B k q) ∧ k ≤ q ∧ k ≤ 140737488351232 ∧ Bs W B k L := fun i hi => by
      obtain ⟨c0, t0⟩ := hx i (by omega)
      obtain ⟨B, k, q, L, ⟨h1, h2, h3⟩, e0⟩ := bytes_trod t0
      rw [e0] at c0 t0
      have hk := bytes_weight t0 (fun y hy => hw y (by
        rw [hd.1, DataW.weights, Tryd.underlying32]
        exact List.mem_cons_of_mem _ (List.mem_append_left _ (weights_in hy (List.mem_map.2 ⟨i, List.mem_range.2 hi, rfl⟩)))))
      have hb := World.block_lt_of_cell? _ _ c0
      rw [add_block] at hb
      exact ⟨L, B, k, q, hb, c0, h1, hk, h3⟩
    obtain ⟨f, hf'⟩ := Deep.choose_lt (α := List Nat) (p := fun i L => ∃ B k q, a.block < W.heap.size ∧ W.cell? (a.add i) = some (.slice B k q) ∧ k ≤ q ∧ k ≤ 140737488351232 ∧ Bs W B k L) each
    exact ⟨some a, n, c, f, ⟨hlc, by unfold maxLen at hcm; omega, fun i hi => by
      obtain ⟨B, k, q, h1, h2, h3, h4, h5⟩ := hf' i hi
      exact ⟨a, B, k, q, rfl, h1, h2, h3, h4, h5⟩⟩, rfl⟩
end
end Go.Proofs.YtmieoeplbmfemaaDoor
