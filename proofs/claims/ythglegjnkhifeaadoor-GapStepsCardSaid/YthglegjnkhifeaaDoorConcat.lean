/- slices.Grow of the nil slice, and slices.Concat of two slices of bytes. No condition but a bound on the lengths. -/
import Derived.Test.YthglegjnkhifeaaDoorSc
import Derived.Lib.AppendZerosOnto
import Derived.LoopTactic
namespace Go.Proofs.YthglegjnkhifeaaDoor
open Go.RowKit

theorem zc_size (z : Array Value) (h : z.size = 1) (n : Nat) : (Builtin.zeroCells z n).size = n := by
  simp [Builtin.zeroCells, h]
section
variable {w0 w : World} {ops : Array Oper} {rest : List Oper} {o : Oper} {a : Act} {Q : Exit → Act → World → Prop}
theorem wpList_growZ (hgd : o.guard = none) (s x : Operand) (ho : o.op = .call { callee := .builtin .append, args := #[s, x], argTypes := #[22, 3] }) {k : Nat} (hs : a.eval s = .slice none 0 0) (hx : a.eval x = .int .i64 (k : Nat)) (h0 : 0 < k) (hk : k ≤ 1099511627776)
    (hb : Below w0.heap.size w0 w)
    (h : ∀ C w', k ≤ C → C ≤ 9223372036854775807 → Own w0 (.slice (some ⟨w.heap.size, 0, none⟩) 0 C) 0 [] w' → wpList Tryd.prog ops Q rest (a.put o.dst (.slice (some ⟨w.heap.size, 0, none⟩) k C)) w') : wpList Tryd.prog ops Q (o :: rest) a w := by
  refine wpList_plain hgd fun K hK => ?_
  obtain ⟨i0, hi, hz0, hz1, hz2⟩ := info_parts Tryd.infoByte
  have hr := Go.Lib.run_append_grow_zeros (P := Tryd.prog) w 22 3 o.type 5 i0 (.int .u8 0) .i64 .i64 Tryd.underlying22 Tryd.underlying3 hi hz0 none 0 0 [] (run_firstCells_none w.drew i0.size 0 0 0) k h0 (by omega) (by omega) (by omega) (by rw [hz2]; omega)
    (growslice_fits (by omega) (by rw [hz2]; omega))
  rw [Nat.zero_add] at hr
  have hge := grownCap_ge w k 0 5
  have hle := grownCap_le_maxLen w k 0 5 (by unfold maxLen; omega)
  obtain ⟨C, hC⟩ : ∃ C, grownCap w k 0 5 = C := ⟨_, rfl⟩
  rw [hC, Array.empty_append] at hr
  rw [hC] at hge hle
  have O := Own.made (w0 := w0) (w := w.drew) (hb.trans ((Below.refl w.heap.size w).drew.mono hb.size)) (Builtin.zeroCells (Value.int .u8 0).cells k ++ Builtin.zeroCells (Value.int .u8 0).cells (C - k)) C hle (by
    rw [Array.size_append, zc_size _ rfl, zc_size _ rfl]
    omega)
  have e := hK _ _ (h C _ hge (by unfold maxLen at hle; omega) O)
  unfold Oper.wp
  simp [execOp, ho, resolve, invoke, builtin, hs, hx, hr, Result.andThen]
  exact e
end

set_option maxRecDepth 100000 in
set_option maxHeartbeats 2000000 in
theorem grow_any {k : Nat} (w : World) (h0 : 0 < k) (hk : k ≤ 1099511627776) : Calls Tryd.prog 27 #[.slice none 0 0, .int .i64 (k : Nat)] w fun e w' => ∃ b C, e = .returned (.slice (some ⟨b, 0, none⟩) 0 C) ∧ Own w (.slice (some ⟨b, 0, none⟩) 0 C) 0 [] w' := by
  have t1 : decide ((k : Int) < 0) = false := decide_eq_false (by omega)
  have t2 : decide ((0 : Int) < (k : Int)) = true := decide_eq_true (by omega)
  have t3 : decide (0 < k) = true := decide_eq_true h0
  go_enter Tryd.func27, Tryd.ntmps27
  go_wp2_with (refine wpList_growZ (w0 := w) rfl (.tmp 20) (.tmp 21) rfl rfl rfl h0 hk (Below.refl _ _) ?_)
  intro C w' h1 h2 O
  have HO := Lib.hid O
  clear O
  go_wp2_with fail
  go_ret
  exact ⟨_, _, rfl, HO.out⟩

set_option maxRecDepth 100000 in
set_option maxHeartbeats 4000000 in
theorem concat_any {q n1 n2 c1 c2 : Nat} {A1 A2 : Option Addr} {L M : List Nat} (w : World) (hq : w.heap[q]? = some (.cells #[.slice A1 n1 c1, .slice A2 n2 c2] 22 (0, 0))) (h0 : 0 < n1) (hn : n1 + n2 ≤ 1000000) (hL : Bs w A1 n1 L) (hM : Bs w A2 n2 M) :
    Calls Tryd.prog 17 #[.slice (some ⟨q, 0, none⟩) 2 2] w (GivesB w (L ++ M)) := by
  have HL := Lib.hid hL
  have HM := Lib.hid hM
  have c0 : w.cell? ⟨q, 0, none⟩ = some (.slice A1 n1 c1) := by unfold World.cell?; simp [hq]
  have d0 : w.cell? ⟨q, 1, none⟩ = some (.slice A2 n2 c2) := by unfold World.cell?; simp [hq]
  have hlt : q < w.heap.size := (Array.getElem?_eq_some_iff.1 hq).1
  have y1 : IntKind.i64.wrap ((n1 : Int) + (n2 : Int)) = ((n1 + n2 : Nat) : Int) := by rw [IntWalk.i64_in _ (by omega)]; omega
  have t1 : decide ((n1 : Int) < 0) = false := decide_eq_false (by omega)
  have t2 : decide ((n1 : Int) + (n2 : Int) < 0) = false := decide_eq_false (by omega)
  have CG := grow_any (k := n1 + n2) w (by omega) (by omega)
  rw [Int.natCast_add] at CG
  have HCG := Lib.hid CG
  clear hq hL hM CG
  go_enter Tryd.func17, Tryd.ntmps17
  go_wp2_with fail
  refine wp_loop_rounds 3 ?_
  rw [rounds_succ]
  go_wp2_with fail
  rw [rounds_succ]
  go_wp2_with fail
  rw [rounds_succ]
  go_wp2_with fail
  refine HCG.out.mono ?_
  rintro e w1 ⟨b, C, rfl, O⟩
  have O1 := Lib.hid O
  have L1 := Lib.hid (HL.out.later O.bel)
  have c1' : w1.cell? ⟨q, 0, none⟩ = some (.slice A1 n1 c1) := by rw [← c0]; exact O.bel.cell hlt
  clear O HCG c0
  go_wp2_with fail
  refine wp_loop_rounds 3 ?_
  rw [rounds_succ]
  go_wp2_with (refine wpList_app rfl (.tmp 31) (.tmp 32) rfl rfl O1.out rfl L1.out (by omega) ?_)
  intro A3 c3 w2 h3 O g
  have O2 := Lib.hid O
  have M2 := Lib.hid (HM.out.later O.bel)
  have d2 : w2.cell? ⟨q, 1, none⟩ = some (.slice A2 n2 c2) := by rw [← d0]; exact O.bel.cell hlt
  clear O g O1 L1 c1' d0
  go_wp2_with fail
  rw [rounds_succ]
  go_wp2_with (refine wpList_app rfl (.tmp 31) (.tmp 32) rfl rfl O2.out rfl M2.out (by omega) ?_)
  intro A4 c4 w3 h4 O g
  have O3 := Lib.hid O
  clear O g O2 M2 d2
  go_wp2_with fail
  rw [rounds_succ]
  go_wp2_with fail
  go_ret
  exact ⟨_, _, _, rfl, h4, O3.out⟩
end Go.Proofs.YthglegjnkhifeaaDoor
