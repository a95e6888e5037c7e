/- append(s, make([]byte, k)...) onto a row of bytes of the call's own. No condition but bounds on lengths. -/
import Derived.Test.YtbdjcbdnhaddoaaDoorGt
import Derived.Lib.AppendZerosOnto
namespace Go.Proofs.YtbdjcbdnhaddoaaDoor
open Go.RowKit

theorem zeroCells_b (k : Nat) : (Builtin.zeroCells (Value.int .u8 0).cells k).toList = vals (List.replicate k 0) := by
  apply List.ext_getElem
  · simp [Builtin.zeroCells, Value.cells, vals_length]
  · intro i h1 h2
    simp [Builtin.zeroCells, Value.cells, vals, Nat.mod_one]
    rfl
theorem run_appZ {w0 w : World} {g n cap : Nat} {L : List Nat} {k : Nat} (ty : TypeId) (hown : Own w0 (.slice (some ⟨g, 0, none⟩) n cap) n L w) (h0 : 0 < k) (hlen : n + k ≤ 1099511627776) :
    ∃ A' c' w', (Builtin.append_ #[29, 3] ty #[.slice (some ⟨g, 0, none⟩) n cap, .int .i64 (k : Nat)]).run Tryd.prog w = .ok (.slice A' (n + k) c') w' ∧ n + k ≤ c' ∧ Own w0 (.slice A' (n + k) c') (n + k) (L ++ List.replicate k 0) w' ∧ Grew w w' (.slice (some ⟨g, 0, none⟩) n cap) (.slice A' (n + k) c') := by
  obtain ⟨i0, hi, hz0, hz1, hz2⟩ := info_parts Tryd.infoByte
  have hsz := hown.size
  have hL := hown.len
  have hbz : AllB (List.replicate k 0) := fun x hx => by have := List.eq_of_mem_replicate hx; omega
  obtain ⟨b1, b2⟩ := hown.row
  rcases b2 with ⟨e, _⟩ | ⟨g', cap', cur, e, hbg, hg, hnc, hcm, hcs, htake⟩
  · cases e
  injection e with e1 e2 e3
  injection e1 with e1
  injection e1 with e1
  subst e1 e3
  have vl : (vals L).length = n := by rw [vals_length, hL]
  by_cases hroom : n + k ≤ cap
  · have hst := run_storeCells_at Tryd.prog g n 5 (vals (List.replicate k 0)) 0 cur w hg (by rw [vals_length, List.length_replicate]; omega) (vals_one _)
    have hrun : (Builtin.append_ #[29, 3] ty #[.slice (some ⟨g, 0, none⟩) n cap, .int .i64 (k : Nat)]).run Tryd.prog w = .ok (.slice (some ⟨g, 0, none⟩) (n + k) cap) (w.setRow g (cur.toList.take n ++ vals (List.replicate k 0) ++ cur.toList.drop (n + k)).toArray) := by
      simp only [Nat.add_zero] at hst
      have hw : IntKind.i64.wrap (k : Int) = k := by rw [IntKind.wrap_i64]; omega
      have hneg : ¬ ((k : Int) < 0) := by omega
      have h48i : ¬ (281474976710656 < (k : Int)) := by omega
      have hns : ¬ (k = 0) := by omega
      simp [Builtin.append_, run_underlying Tryd.underlying29, run_underlying Tryd.underlying3, sizeOf, typeInfo, zeroValue, hi, hz0, hz1, hz2, asInt, asIntOf, hw, hneg, h48i, hroom, hns, Addr.add_lit, zeroCells_b]
      rw [hst]
      simp [vals_length]
    have hG : w.grownBy (w.setRow g (cur.toList.take n ++ vals (List.replicate k 0) ++ cur.toList.drop (n + k)).toArray) (Value.ownBlock (.slice (some ⟨g, 0, none⟩) n cap)) := ⟨rfl, rfl, rfl, by simp, fun j _ hj => setRow_other w g j _ (fun e => hj (by simp [Value.ownBlock, e]))⟩
    refine ⟨_, _, _, hrun, hroom, hown.grown hbz ⟨by rw [List.length_append, vals_length, vals_length, List.length_replicate, hL, Nat.mul_one], .inr ⟨g, cap, _, rfl, hbg, setRow_heap w g cur _ _ _ hg, hroom, hcm, ?_, ?_⟩⟩ hG, hG, .inl rfl⟩
    · simp only [List.size_toArray, List.length_append, List.length_take, List.length_drop, Array.length_toList, vals_length, List.length_replicate]
      omega
    · rw [Nat.mul_one] at htake
      rw [htake, Nat.mul_one]
      have e : n + k = (vals L ++ vals (List.replicate k 0)).length := by rw [List.length_append, vals_length, vals_length, List.length_replicate, hL]
      rw [e]
      exact List.take_left
  · have holds : ∀ j u, (vals L)[j]? = some u → w.cell? ((⟨g, 0, none⟩ : Addr).add j) = some u := hown.row.cells (g := g) rfl
    have hge := grownCap_ge w (n + k) cap 5
    have hle := grownCap_le_maxLen w (n + k) cap 5 (by unfold maxLen; omega)
    have hr := Go.Lib.run_append_grow_zeros (P := Tryd.prog) w 29 3 ty 5 i0 (.int .u8 0) .i64 .i64 Tryd.underlying29 Tryd.underlying3 hi hz0 (some ⟨g, 0, none⟩) n cap (vals L)
      (by rw [hz1]; exact run_firstCells_some (P := Tryd.prog) w.drew 1 n ⟨g, 0, none⟩ n cap (vals L) (by rw [vl, Nat.mul_one]) (by simpa using holds)) k h0 (by omega) (by omega) (by omega) (by rw [hz2]; omega) (growslice_fits (by omega) (by rw [hz2]; omega))
    obtain ⟨C, hC⟩ : ∃ C, grownCap w (n + k) cap 5 = C := ⟨_, rfl⟩
    rw [hC] at hr hge hle
    have hG : w.grownBy (w.drew.alloc (.cells ((vals L).toArray ++ Builtin.zeroCells (Value.int .u8 0).cells k ++ Builtin.zeroCells (Value.int .u8 0).cells (C - (n + k))) 5)) (Value.ownBlock (.slice (some ⟨g, 0, none⟩) n cap)) := ⟨rfl, rfl, rfl, by simp, fun j hj _ => heap_alloc_old w.drew _ hj⟩
    refine ⟨_, _, _, hr, hge, hown.grown hbz ⟨by rw [List.length_append, vals_length, vals_length, List.length_replicate, hL, Nat.mul_one], .inr ⟨w.heap.size, C, _, rfl, hsz, heap_alloc_new w.drew _, hge, hle, ?_, ?_⟩⟩ hG, hG, .inr fun b hb => by
      have : w.heap.size = b := by simpa [Value.ownBlock] using hb
      omega⟩
    · have z1 : (Value.int IntKind.u8 0).cells.size = 1 := rfl
      simp only [Array.size_append, List.size_toArray, size_zeroCells, z1, vals_length, hL]
      omega
    · simp only [Array.toList_append, List.append_assoc, zeroCells_b, Nat.mul_one]
      rw [← List.append_assoc]
      have e : n + k = (vals L ++ vals (List.replicate k 0)).length := by rw [List.length_append, vals_length, vals_length, List.length_replicate, hL]
      rw [e]
      exact List.take_left
section
variable {w0 w : World} {ops : Array Oper} {rest : List Oper} {o : Oper} {a : Act} {Q : Exit → Act → World → Prop}
theorem wpList_appZ (hgd : o.guard = none) (s x : Operand) (ho : o.op = .call { callee := .builtin .append, args := #[s, x], argTypes := #[29, 3] })
    {g n cap k : Nat} {L : List Nat} (hs : a.eval s = .slice (some ⟨g, 0, none⟩) n cap) (hown : Own w0 (.slice (some ⟨g, 0, none⟩) n cap) n L w) (hx : a.eval x = .int .i64 (k : Nat)) (h0 : 0 < k) (hlen : n + k ≤ 1099511627776)
    (hw : ∀ A' c' w', n + k ≤ c' → Own w0 (.slice A' (n + k) c') (n + k) (L ++ List.replicate k 0) w' → Grew w w' (.slice (some ⟨g, 0, none⟩) n cap) (.slice A' (n + k) c') → wpList Tryd.prog ops Q rest (a.put o.dst (.slice A' (n + k) c')) w') : wpList Tryd.prog ops Q (o :: rest) a w := by
  refine wpList_plain hgd fun K hK => ?_
  obtain ⟨A', c', w', r1, r2, r3, r4⟩ := run_appZ o.type hown h0 hlen
  have e := hK _ _ (hw A' c' w' r2 r3 r4)
  unfold Oper.wp
  simp [execOp, ho, resolve, invoke, builtin, hs, hx, r1, Result.andThen]
  exact e
end
end Go.Proofs.YtbdjcbdnhaddoaaDoor
