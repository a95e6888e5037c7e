/- Operations on headers within a round of a range over a function; header.parts. No condition. -/
import Derived.Test.YtkocbkckfkbmhaaDoorRCut
import Derived.Test.YtkocbkckfkbmhaaDoorTurns
import Derived.Shelf.Abstract
import Derived.Shelf.RegionOpen
import Derived.OwnWalkIn
import Derived.TacticsInMore
import Derived.LoopNIn
import Derived.LoopIn
namespace Go.Proofs.YtkocbkckfkbmhaaDoor
open Go.RowKit Go.Shelf
attribute [local go_sem] Oper.semAt_some

section
variable {F : Fence} {n : Nat} {w0 w : World} {ops : Array Oper} {rest : List Oper} {o : Oper} {a : Act} {Q : Exit → Act → World → Prop} {T S : TypeId} {b k : Nat} {vs zs : List Value}
theorem inLoad (hgd : o.guard = none) (x : Operand) (ho : o.op = .load T x) (hx : a.eval x = .pointer (some ⟨b, 0, none⟩)) (hT : IsRow T k) (hr : Ro w b S vs) (hl : vs.length = k)
    (h : wpListIn F n Tryd.prog ops Q rest (a.put o.dst (.agg vs.toArray)) w) : wpListIn F n Tryd.prog ops Q (o :: rest) a w := by
  refine wpListIn_plain hgd fun K hK => ?_
  have key : (loadVar T ⟨b, 0, none⟩).run Tryd.prog w = .ok (.agg vs.toArray) w := by
    obtain ⟨⟨f, h1⟩ | ⟨j, e, h1⟩, h3⟩ := hT
    · exact run_loadVar_row w b S T vs.toArray (0, 0) _ hr h1 rfl (by rw [h3]; simp [hl])
    · exact run_loadVar_row w b S T vs.toArray (0, 0) _ hr h1 rfl (by rw [h3]; simp [hl])
  have e := hK _ _ h
  unfold Oper.wpIn
  refine ⟨?_, ?_⟩
  · simp [Oper.about, ho]
  · rw [Oper.semAt_plain F _ _ (by rw [ho]; intro c hc'; cases hc')]
    unfold execOp
    simp only [ho, hx, Instr.loadAt, Instr.sureAddr, Sem.run_bind, Sem.run_pure, Result.andThen_ok, key]
    exact e
theorem inStore (hgd : o.guard = none) (x y : Operand) (ho : o.op = .store T x y) (hx : a.eval x = .pointer (some ⟨b, 0, none⟩)) (hy : a.eval y = .agg vs.toArray) (hT : IsRow T k) (hr : Ro w b S zs) (hz : zs.length = k) (hl : vs.length = k) (h1 : ∀ u ∈ vs, u.oneCell' = true)
    (h : ∀ w', Ro w' b S vs → w.grownBy w' (some b) → wpListIn F n Tryd.prog ops Q rest (a.put o.dst undef) w') : wpListIn F n Tryd.prog ops Q (o :: rest) a w := by
  refine wpListIn_plain hgd fun K hK => ?_
  have key := run_storeVar_row w b S T zs.toArray vs.toArray hr (by rw [hT.info]; simp [hl]) (by simp [hz, hl]) (all_one h1)
  have e := hK _ _ (h _ (setRow_heap w b _ _ _ _ hr) (grownBy_setRow w b _))
  unfold Oper.wpIn
  refine ⟨?_, ?_⟩
  · simp [Oper.about, ho]
  · rw [Oper.semAt_plain F _ _ (by rw [ho]; intro c hc'; cases hc')]
    unfold execOp
    simp only [ho, hx, hy, Instr.storeAt, Instr.sureAddr, Sem.run_bind, Sem.run_pure, Result.andThen_ok, key]
    exact e
theorem inLit (hgd : o.guard = none) (x : Operand) (ho : o.op = .buildSlice 38 1 #[(0, x)]) (hx : a.eval x = .agg vs.toArray) (hl : vs.length = 68)
    (h : wpListIn F n Tryd.prog ops Q rest (a.put o.dst (.slice (some ⟨w.heap.size, 0, none⟩) 1 1)) (w.alloc (.cells vs.toArray 26))) : wpListIn F n Tryd.prog ops Q (o :: rest) a w := by
  obtain ⟨i0, hi, hz0, hz1, hz2⟩ := info_parts Tryd.infoHd
  have hf : Instr.fill (fun i => some (i * i0.size, i0.size)) ((Array.range (1 * i0.size)).map ((Value.agg (hdV zeroH).toArray).cells[· % (Value.agg (hdV zeroH).toArray).cells.size]!)) (#[((0 : Nat), x)].map fun (y : Nat × Operand) => (y.1, a.eval y.2)).toList = some vs.toArray := by
    rw [hz1]
    have e : (#[((0 : Nat), x)].map fun (y : Nat × Operand) => (y.1, a.eval y.2)).toList = [(0, .agg vs.toArray)] := by simp [hx]
    exact (congrArg _ e).trans (fill_hd vs hl _ (by simp))
  refine wpListIn_plain hgd fun K hK => ?_
  have e := hK _ _ h
  have key := run_buildSlice (P := Tryd.prog) w 38 26 1 _ vs.toArray i0 _ Tryd.underlying38 hi hz0 (by rw [hz1]; decide) (by rw [hz1]; decide) hf
  unfold Oper.wpIn
  refine ⟨?_, ?_⟩
  · simp [Oper.about, ho]
  · rw [Oper.semAt_plain F _ _ (by rw [ho]; intro c hc'; cases hc')]
    unfold execOp
    simp only [ho, Sem.run_bind]
    rw [key]
    exact e
theorem inApp (hgd : o.guard = none) (s x : Operand) (ho : o.op = .call { callee := .builtin .append, args := #[s, x], argTypes := #[38, 38] })
    {v : Value} {m : Nat} {l : List Hd} (hs : a.eval s = v) (hown : OwnH w0 v m l w) {h : Hd} (hx : a.eval x = .slice (some ⟨b, 0, none⟩) 1 1) (hk : h.Ok) (hr : Ro w b 26 (hdV h)) (hlen : m + 1 ≤ 1073741824)
    (hw : ∀ A' c' w', m + 1 ≤ c' → OwnH w0 (.slice A' (m + 1) c') (m + 1) (l ++ [h]) w' → w.grownBy w' v.ownBlock → (Value.ownBlock (.slice A' (m + 1) c') = v.ownBlock ∨ Value.ownBlock (.slice A' (m + 1) c') = some w.heap.size) → wpListIn F n Tryd.prog ops Q rest (a.put o.dst (.slice A' (m + 1) c')) w') : wpListIn F n Tryd.prog ops Q (o :: rest) a w := by
  refine wpListIn_plain hgd fun K hK => ?_
  obtain ⟨A', c', w', r1, r2, r3, r4, r5⟩ := run_appH (w0 := w0) (w := w) (m := [h]) (k := 1) (c := 1) (b := b) (q := 0) o.type hown rfl (okAll_one hk) (fun j u hj => by rw [hsV_one] at hj; rw [Nat.zero_add]; exact hr.cell hj) hlen
  have e := hK _ _ (hw A' c' w' r4 r2 r3 r5)
  unfold Oper.wpIn
  refine ⟨?_, ?_⟩
  · simp [Oper.about, ho, resolve, Target.leads, Sem.run_pure]
  · rw [Oper.semAt_plain F _ _ (by rw [ho]; intro c hc'; cases hc')]
    simp [execOp, ho, resolve, invoke, builtin, hs, hx, r1, Result.andThen]
    exact e
end

theorem parts_in (A : Option Addr) (len cap : Nat) (w : World) : CallsIn Fence.wide 2 Tryd.prog 31 #[.slice A len cap] w fun e w' => e = .returned (.func (.func 34) #[] #[.pointer (some ⟨w.heap.size, 0, none⟩)]) ∧ w' = w.alloc (.cells #[.slice A len cap] 27) := by
  refine callsIn_of_wp Tryd.func31 rfl trivial ?_ rfl
  simp only [Tryd.ntmps31, List.size_toArray, List.length_cons, List.length_nil, Nat.reduceAdd, Nat.reduceSub, Array.replicate_succ, Array.replicate_zero, List.push_toArray, List.append_toArray, List.nil_append, List.cons_append]
  gi_wp2
  go_ret
  exact ⟨rfl, rfl⟩

/-- The iterator turns its box. -/
def Tb (Bx : Nat) (W W' : World) : Prop := ∃ v, W' = W.setCell ⟨Bx, 0, none⟩ v
theorem tb_keeps {Bx : Nat} (A B : World) (h : Tb Bx A B) : KeepsOthers A B := by
  obtain ⟨v, rfl⟩ := h
  exact KeepsOthers.setCell _ _ _
/-- What a round keeps: the iterator's box. -/
def Kb (Bx : Nat) (W W' : World) : Prop := W'.heap[Bx]? = W.heap[Bx]?
theorem kb_t {Bx : Nat} {A B C : World} (h : Kb Bx A B) (k : Kb Bx B C) : Kb Bx A C := k.trans h
/-- The k-th piece as it is told: its address, its room. -/
def pieceV (A : Option Addr) (c k : Nat) : Array Value := #[.slice (A.map fun a => ⟨a.block, a.off + 80 * k, none⟩) 80 (c - 80 * k)]
def TellsP (n : Nat) (pre : List Nat) : Prop := ∃ k, pre = List.range k ∧ 80 * k ≤ n
structure PIt (A : Option Addr) (n c Bx : Nat) (J : List Nat → World → Prop) (wr : World) (k : Nat) (A' : Option Addr) : Prop where
  le : 80 * k ≤ n
  adr : 80 * k < n → A' = A.map fun a => ⟨a.block, a.off + 80 * k, none⟩
  inv : J (List.range k) wr
  box : Boxed wr Bx 27 (.slice A' (n - 80 * k) (c - 80 * k))

set_option maxRecDepth 100000 in
set_option maxHeartbeats 2000000 in
theorem parts1_in (l Bx : Nat) (A : Option Addr) (n c : Nat) (hA : 0 < n → ∃ b o, A = some ⟨b, o, none⟩) (hnc : n ≤ c) (hc : c ≤ 9223372036854775807) (J Jx : List Nat → World → Prop)
    (hT : ∀ s X Y, J s X → Tb Bx X Y → J s Y)
    (hY : ∀ pre x W, J pre W → TellsP n (pre ++ [x]) → YieldAt Fence.wide 1 Tryd.prog l (pieceV A c x) W fun e W' => (e = .returned (.bool true) ∧ J (pre ++ [x]) W' ∧ Kb Bx W W') ∨ (e = .returned (.bool false) ∧ Jx (pre ++ [x]) W'))
    (W : World) (hBx : Boxed W Bx 27 (.slice A n c)) (h0 : J [] W) :
    CallsIn Fence.wide 2 Tryd.prog 34 #[.func (.yield l) #[] #[], .pointer (some ⟨Bx, 0, none⟩)] W fun e W' => (∃ v, e = .returned v) ∧
      ((∃ ys, (ys = List.range (n / 80)) ∧ J ys W') ∨ (∃ pre, TellsP n pre ∧ Jx pre W')) := by
  refine callsIn_of_wp Tryd.func34 rfl trivial ?_ rfl
  simp only [Tryd.ntmps34, List.size_toArray, List.length_cons, List.length_nil, Nat.reduceAdd, Nat.reduceSub, Array.replicate_succ, Array.replicate_zero, List.push_toArray, List.append_toArray, List.nil_append, List.cons_append]
  gi_wp2
  gi_loopw [3] (fun _ wr => ∃ k A', PIt A n c Bx J wr k A') (fun _ wr => match wr.cell? ⟨Bx, 0, none⟩ with | some (.slice _ m _) => m | _ => 0)
  case atStart => exact ⟨0, A, ⟨Nat.zero_le _, fun h => by obtain ⟨b, o, rfl⟩ := hA (by omega); rfl, h0, hBx⟩⟩
  case round =>
    obtain ⟨k, A', H⟩ := hrel
    have hbx := H.box.cell
    have hbf := H.box.frozen
    have hk := H.le
    have HH := Lib.hid H
    have fin : ∀ W3, Kb Bx wr W3 → Boxed W3 Bx 27 (.slice A' (n - 80 * k) (c - 80 * k)) := fun W3 h => h.trans HH.out.box
    have FIN := Lib.hid fin
    clear H fin
    by_cases hlt : 80 * k + 80 ≤ n
    · obtain ⟨m, hm⟩ : ∃ m, n - 80 * k = m := ⟨_, rfl⟩
      obtain ⟨q, hq⟩ : ∃ q, c - 80 * k = q := ⟨_, rfl⟩
      have hT1 : TellsP n (List.range k ++ [k]) := ⟨k + 1, List.range_succ.symm, by omega⟩
      obtain ⟨fn, tmps, assign, body, hy, hR⟩ := hY _ k wr HH.out.inv hT1
      have hA' := HH.out.adr (by omega)
      dsimp only [pieceV] at hy
      rw [← hA', hq] at hy
      rw [hm, hq] at hbx FIN
      have m80 : 80 ≤ m := by omega
      have mq : m ≤ q := by omega
      have q63 : q ≤ 9223372036854775807 := by omega
      have HT1 := Lib.hid hT1
      have HM := Lib.hid hm
      have HQ := Lib.hid hq
      have HA := Lib.hid hA'
      clear hT1 hm hq hA'
      have u1 : decide ((80 : Int) ≤ (m : Int)) = true := decide_eq_true (by omega)
      gi_wp2
      refine hR.mono ?_
      rintro e W3 (⟨rfl, hJ3, hkq⟩ | ⟨rfl, hJx3⟩)
      · have bx3 := FIN.out W3 hkq
        have bc3 := bx3.cell
        have bf3 := bx3.frozen
        have BX3 := Lib.hid bx3
        have HJ3 := Lib.hid hJ3
        have HBX := Lib.hid hbx
        clear hbx hbf hY hR hy FIN bx3 hJ3 hkq
        by_cases hq80 : q = 80
        · subst hq80
          gi_wp2
          have h1 := (BX3.out.set (.slice A' 0 0)).cell
          refine ⟨⟨k + 1, A', ⟨by omega, fun h => by have := HM.out; have := HQ.out; omega, by rw [List.range_succ]; exact hT _ _ _ HJ3.out ⟨_, rfl⟩, ?_⟩⟩, ?_⟩
          · have := BX3.out.set (.slice A' 0 0)
            rw [show n - 80 * (k + 1) = 0 by have := HM.out; have := HQ.out; omega, show c - 80 * (k + 1) = 0 by have := HQ.out; omega]
            exact this
          · rw [h1, HBX.out]
            show 0 < m
            omega
        · gi_wp2
          have h1 := (BX3.out.set (.slice (Option.map (fun x => { block := x.block, off := x.off + 80 }) A') (m - 80) (q - 80))).cell
          refine ⟨⟨k + 1, Option.map (fun x => { block := x.block, off := x.off + 80 }) A', ⟨by omega, fun h => ?_, by rw [List.range_succ]; exact hT _ _ _ HJ3.out ⟨_, rfl⟩, ?_⟩⟩, ?_⟩
          · rw [HA.out]
            cases A <;> rfl
          · have := BX3.out.set (.slice (Option.map (fun x => { block := x.block, off := x.off + 80 }) A') (m - 80) (q - 80))
            rw [show n - 80 * (k + 1) = m - 80 by have := HM.out; omega, show c - 80 * (k + 1) = q - 80 by have := HQ.out; omega]
            exact this
          · rw [h1, HBX.out]
            show m - 80 < m
            omega
      · gi_wp2
        refine bodyPost_ret (results_none rfl _ _ _) rfl ?_
        exact ⟨⟨_, rfl⟩, .inr ⟨_, HT1.out, hJx3⟩⟩
    · obtain ⟨m, hm⟩ : ∃ m, n - 80 * k = m := ⟨_, rfl⟩
      rw [hm] at hbx
      have u1 : decide ((80 : Int) ≤ (m : Int)) = false := decide_eq_false (by omega)
      have HM := Lib.hid hm
      clear hm
      gi_wp2
      refine bodyPost_end (results_none rfl _ _ _) rfl ?_
      exact ⟨⟨_, rfl⟩, .inl ⟨_, by rw [show n / 80 = k by omega], HH.out.inv⟩⟩
theorem parts_turns (Bx : Nat) (A : Option Addr) (n c : Nat) (hA : 0 < n → ∃ b o, A = some ⟨b, o, none⟩) (hnc : n ≤ c) (hc : c ≤ 9223372036854775807) (w : World) (hBx : Boxed w Bx 27 (.slice A n c)) :
    SeqTurns Fence.wide 2 Tryd.prog 34 #[.pointer (some ⟨Bx, 0, none⟩)] (pieceV A c) (Tb Bx) (Kb Bx) (fun xs => xs = List.range (n / 80)) (TellsP n) w := fun l J Jx W hW _ _ hT hY h0 =>
  parts1_in l Bx A n c hA hnc hc J Jx hT hY W ((hW.block Bx hBx.lt).trans hBx) h0

/-- Blocks of cells, but for one, lie as they lay; and so do all below s. -/
structure Keeps (s Bx : Nat) (W W' : World) : Prop where
  size : W.heap.size ≤ W'.heap.size
  cells : ∀ k o, k ≠ Bx → W.heap[k]? = some o → o.isCells = true → W'.heap[k]? = some o
  low : ∀ k, k < s → W'.heap[k]? = W.heap[k]?
  os : W'.os = W.os
  tape : W'.tape = W.tape
  output : W'.output = W.output
theorem Keeps.below {s Bx : Nat} {W W' : World} (h : Keeps s Bx W W') {B : Nat} (hB : B ≤ s) : Below B W W' := ⟨h.os, h.tape, h.output, h.size, fun k hk => h.low k (by omega)⟩
theorem Keeps.of_grown {s Bx : Nat} {W W' : World} {row : Option Nat} (hs : s ≤ W.heap.size) (hg : W.grownBy W' row) (hr : ∀ r, row = some r → s ≤ r ∧ ∃ o : Obj, W.heap[r]? = some o ∧ o.isCells = false) : Keeps s Bx W W' :=
  ⟨hg.size, fun k o _ hk hc => by rw [grownBy_keeps_cells hg (fun r e => (hr r e).2) hk hc, hk], fun k hk => hg.block k (by omega) (fun e => by have := (hr k e.symm).1; omega), hg.os, hg.tape, hg.output⟩
theorem Keeps.of_box {s Bx : Nat} {W W' : World} (hs : s ≤ Bx) (h : Tb Bx W W') : Keeps s Bx W W' := by
  obtain ⟨v, rfl⟩ := h
  exact ⟨by simp [World.setCell], fun k o hk ho _ => (Below.heap_setCell W ⟨Bx, 0, none⟩ v k hk).trans ho, fun k hk => Below.heap_setCell W ⟨Bx, 0, none⟩ v k (by show k ≠ Bx; omega), rfl, rfl, rfl⟩
/-- Between two pieces. -/
structure CJ (w : World) (L : List Nat) (k : Nat) (v : Value) (W : World) : Prop where
  box : Boxed W w.heap.size 38 v
  own : OwnH w v k (cutN L k) W
  new : ∀ q, v.ownBlock = some q → w.heap.size + 2 ≤ q
  size : w.heap.size + 2 ≤ W.heap.size
theorem CJ.keep {w : World} {L : List Nat} {k : Nat} {v : Value} {W W' : World} (h : CJ w L k v W) (g : Keeps w.heap.size (w.heap.size + 1) W W') : CJ w L k v W' := by
  refine ⟨g.cells _ _ (by omega) h.box rfl, ⟨?_, h.own.ok, h.own.bel.trans (g.below (Nat.le_refl _))⟩, h.new, Nat.le_trans h.size g.size⟩
  refine ⟨h.own.row.1, ?_⟩
  rcases h.own.row.2 with h2 | ⟨q, cap, cur, hv, hb, hh, r⟩
  · exact .inl h2
  · exact .inr ⟨q, cap, cur, hv, hb, g.cells q _ (fun e => by have := h.new q (by rw [hv]; rfl); omega) hh rfl, r⟩
theorem CJ.later {w : World} {L : List Nat} {k : Nat} {v : Value} {W W' : World} (h : CJ w L k v W) (g : Below W.heap.size W W') : CJ w L k v W' :=
  ⟨(g.block _ h.box.lt).trans h.box, h.own.later g, h.new, Nat.le_trans h.size g.size⟩
/-- A header more. -/
theorem CJ.next {w : World} {L : List Nat} {k : Nat} {v v' : Value} {W W' : World} {h : Hd} (J : CJ w L k v W) (O : OwnH w v' (k + 1) (cutN L k ++ [h]) W') (e : cutN L (k + 1) = cutN L k ++ [h]) (g : W.grownBy W' v.ownBlock) (n : v'.ownBlock = v.ownBlock ∨ v'.ownBlock = some W.heap.size) : CJ w L (k + 1) v' (W'.setCell ⟨w.heap.size, 0, none⟩ v') := by
  have hn : ∀ q, v'.ownBlock = some q → w.heap.size + 2 ≤ q := fun q hq => by
    rcases n with n | n
    · exact J.new q (by rw [← n]; exact hq)
    · rw [n] at hq
      injection hq with hq
      have := J.size
      omega
  have bx : Boxed W' w.heap.size 38 v := J.box.kept g (fun e => by have := J.new _ e.symm; omega)
  refine ⟨bx.set v', ⟨?_, by rw [e]; exact O.ok, O.bel.setCell (Nat.le_refl _) _⟩, hn, by have := J.size; have := g.size; simp; omega⟩
  rw [e]
  refine O.row.kept (row := some w.heap.size) ⟨rfl, rfl, rfl, by simp, fun q _ hq => Below.heap_setCell W' ⟨w.heap.size, 0, none⟩ v' q (fun e => hq (by rw [e]))⟩ ?_
  cases hv : v'.ownBlock with
  | none => exact .inl rfl
  | some q => exact .inr (fun e => by injection e with e; have := hn q hv; omega)
/-- What an iteration does to blocks that are none of its own. -/
def Rd (s : Nat) (W W' : World) : Prop := KeepsFrom (s + 2) W W' ∧ W'.heap[s + 1]? = W.heap[s + 1]?
theorem Rd.trans {s : Nat} {A B C : World} (h : Rd s A B) (k : Rd s B C) : Rd s A C := ⟨h.1.trans k.1, k.2.trans h.2⟩
theorem Rd.set {s : Nat} (W : World) (a : Addr) (x : Value) (h : a.block ≠ s + 1) : Rd s W (W.setCell a x) := ⟨(KeepsOthers.setCell W a x).from _, Below.heap_setCell W a x _ (fun e => h e.symm)⟩
theorem Rd.below {s : Nat} {W W' : World} (h : s + 2 ≤ W.heap.size) (g : Below W.heap.size W W') : Rd s W W' := ⟨⟨g.size, fun k o _ hk _ => by rw [g.block k (Array.getElem?_eq_some_iff.1 hk).1]; exact hk⟩, g.block _ (by omega)⟩
theorem Rd.row {s base : Nat} {W W' : World} {e : TypeId} {size n : Nat} {v : Value} {xs : List Value} (hr : W.ownsRow base e size v n xs) (hg : W.grownBy W' v.ownBlock) (hs : s + 2 ≤ W.heap.size) (hne : v.ownBlock ≠ some (s + 1)) : Rd s W W' :=
  ⟨(KeepsOthers.of_grownBy hg fun j o ej hj => by
    rcases hr.2 with ⟨rfl, _⟩ | ⟨g, cap, cur, rfl, _, hh, _⟩
    · cases ej
    · injection ej with ej
      subst ej
      have hh' : W.heap[g]? = some o := hj
      rw [hh] at hh'
      injection hh' with hh'
      subst hh'
      rfl).from _, hg.block _ (by omega) (fun e => hne e.symm)⟩
end Go.Proofs.YtkocbkckfkbmhaaDoor
