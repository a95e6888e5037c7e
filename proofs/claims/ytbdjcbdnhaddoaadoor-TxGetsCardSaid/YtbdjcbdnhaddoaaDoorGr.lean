/- A reader: what it holds, and how it takes bytes. No condition. -/
import Derived.Test.YtbdjcbdnhaddoaaDoorGt
import Derived.Test.YtbdjcbdnhaddoaaDoorGa
import Derived.RegionTactic
import Derived.LoopTactic
import Derived.RangeFuncNested
import Derived.RangeFuncBound
import Derived.RangeFuncCalls
import Derived.RangeFuncLeaves
import Derived.Shelf.Abstract
import Derived.Shelf.RegionOpen
import Derived.OwnWalkIn
import Derived.TacticsInMore
import Derived.LoopNIn
import Derived.LoopIn
import Derived.Outline

namespace Go.Proofs.YtbdjcbdnhaddoaaDoor
open Go.RowKit

/-- A reader at block r that has L still to read; its bytes lay in w0. -/
structure Reader (w0 w : World) (r : Nat) (L : List Nat) : Prop where
  box : ∃ A n c, Ro w r 81 [.slice A n c] ∧ n ≤ c ∧ n ≤ 1073741824 ∧ Bs w0 A n L
  lo : w0.heap.size ≤ r
  bel : Below w0.heap.size w0 w
/-- Nothing has turned but the block r. -/
abbrev Gr (r : Nat) (w w' : World) : Prop := w.grownBy w' (some r)
section
variable {w0 w w1 w2 : World} {r : Nat} {L : List Nat}
theorem gr_trans (g : Gr r w w1) (h : Gr r w1 w2) : Gr r w w2 :=
  ⟨h.os.trans g.os, h.tape.trans g.tape, h.output.trans g.output, Nat.le_trans g.size h.size, fun k hk hne => by rw [h.block k (Nat.lt_of_lt_of_le hk g.size) hne, g.block k hk hne]⟩
theorem gr_below (r : Nat) (g : Below w.heap.size w w1) : Gr r w w1 := ⟨g.os, g.tape, g.output, g.size, fun k hk _ => g.block k hk⟩
theorem gr_refl (r : Nat) (w : World) : Gr r w w := World.grownBy.refl _ _
theorem gr_set (w : World) (r k : Nat) (v : Value) : Gr r w (w.setCell ⟨r, k, none⟩ v) := ⟨rfl, rfl, rfl, by simp, fun b _ hne => Below.heap_setCell _ _ _ _ (fun e => hne (by rw [e]))⟩
theorem gr_bel (b : Below w0.heap.size w0 w) (g : Gr r w w1) (hr : w0.heap.size ≤ r) : Below w0.heap.size w0 w1 := b.grown g b.size (fun q e => by injection e with e; omega)
/-- What is made at w, and turned no more but at r and in what is new. -/
theorem gr_new {n : Nat} (g : Gr r w w1) (h : Below n w1 w2) (hn : w.heap.size ≤ n) : Gr r w w2 :=
  ⟨h.os.trans g.os, h.tape.trans g.tape, h.output.trans g.output, Nat.le_trans g.size h.size, fun k hk hne => by rw [h.block k (by omega), g.block k hk hne]⟩
theorem Reader.below {n : Nat} (R : Reader w0 w r L) (g : Below n w w1) (hr : r < n) : Reader w0 w1 r L := by
  obtain ⟨A, m, c, h1, h2, h3, h4⟩ := R.box
  have := R.lo
  exact ⟨⟨A, m, c, h1.same (g.block r hr), h2, h3, h4⟩, R.lo, R.bel.trans (g.mono (by omega))⟩
theorem Reader.lt (R : Reader w0 w r L) : r < w.heap.size := by
  obtain ⟨A, m, c, h1, _⟩ := R.box
  exact h1.lt
theorem Reader.later (R : Reader w0 w r L) (g : Below w.heap.size w w1) : Reader w0 w1 r L := R.below g R.lt
theorem Reader.byt (R : Reader w0 w r L) : AllB L := by
  obtain ⟨A, m, c, h1, h2, h3, h4⟩ := R.box
  exact h4.byt
theorem Reader.len (R : Reader w0 w r L) : L.length ≤ 1073741824 := by
  obtain ⟨A, m, c, h1, h2, h3, h4⟩ := R.box
  have := h4.len
  omega
end
/-- The panic of a reader whose bytes are at an end. -/
def shortP : List PanicEntry := [{ v := .iface 109 (.agg #[]), recovered := false }]
def Fails (r : Nat) (w : World) (e : Ending) (w' : World) : Prop := e = .panicked shortP ∧ Gr r w w'

theorem nth_drop (L : List Nat) (n k : Nat) : nth (L.drop n) k = nth L (n + k) := by simp [nth, List.getD, List.getElem?_drop]
theorem Bs.tail {w : World} {A : Option Addr} {n c m : Nat} {L : List Nat} (h : Bs w A m L) (hn : n ≤ m) (hc : m ≤ c) : Bs w (if c = n then A else A.map (·.add n)) (m - n) (L.drop n) := by
  have := h.cut (k := n) (m := m - n) (by omega) hc
  have hl := h.len
  rwa [List.take_of_length_le (by rw [List.length_drop]; omega)] at this
theorem Bs.front {w : World} {A : Option Addr} {n m : Nat} {L : List Nat} (h : Bs w A m L) (hn : n ≤ m) : Bs w A n (L.take n) := by
  have hl := h.len
  exact Bs.head (L := L.take n) (M := L.drop n) (by rw [List.take_append_drop]; exact h) (by rw [List.length_take]; omega)

set_option maxRecDepth 100000 in
set_option maxHeartbeats 2000000 in
theorem some_not {w0 w : World} {r : Nat} {L : List Nat} {n : Nat} (R : Reader w0 w r L) (hn : L.length < n) :
    Calls Tryd.prog 71 #[.pointer (some ⟨r, 0, none⟩), .int .u64 (n : Int)] w (Fails r w) := by
  obtain ⟨A, m, c, h1, h2, h3, h4⟩ := R.box
  obtain rfl := h4.len
  have c0 := h1.cell (k := 0) rfl
  have W1 : IntKind.u64.wrap (L.length : Int) = (L.length : Int) := by rw [IntKind.wrap_u64]; omega
  have t1 : decide ((L.length : Int) < (n : Int)) = true := decide_eq_true (by omega)
  have G := Lib.hid (gr_refl r w)
  clear R h1 h4
  go_enter Tryd.func71, Tryd.ntmps71
  go_wp2_with fail
  exact ⟨rfl, rfl, G.out⟩

set_option maxRecDepth 100000 in
set_option maxHeartbeats 2000000 in
theorem some_yes {w0 w : World} {r : Nat} {L : List Nat} {n : Nat} (R : Reader w0 w r L) (hn : n ≤ L.length) :
    Calls Tryd.prog 71 #[.pointer (some ⟨r, 0, none⟩), .int .u64 (n : Int)] w fun e w' => ∃ A c, e = .returned (.slice A n c) ∧ n ≤ c ∧ Bs w0 A n (L.take n) ∧ Reader w0 w' r (L.drop n) ∧ Gr r w w' := by
  obtain ⟨A, m, c, h1, h2, h3, h4⟩ := R.box
  obtain rfl := h4.len
  have c0 := h1.cell (k := 0) rfl
  have f0 := h1.free 0
  have W1 : IntKind.u64.wrap (L.length : Int) = (L.length : Int) := by rw [IntKind.wrap_u64]; omega
  have t1 : decide ((L.length : Int) < (n : Int)) = false := decide_eq_false (by omega)
  have H1 := Lib.hid h1
  have H4 := Lib.hid h4
  have HR := Lib.hid R
  clear R h1 h4
  go_enter Tryd.func71, Tryd.ntmps71
  go_wp2_with fail
  all_goals go_ret
  all_goals have h6 := HR.out.lo
  all_goals have h7 := H4.out.tail hn h2
  · subst h
    rw [if_pos rfl] at h7
    exact ⟨A, _, rfl, by omega, H4.out.front hn, ⟨⟨_, _, _, H1.out.set 0 _, by omega, by omega, h7⟩, HR.out.lo, HR.out.bel.setCell (p := ⟨r, 0, none⟩) h6 _⟩, gr_set w r 0 _⟩
  · rw [if_neg (by omega)] at h7
    exact ⟨A, _, rfl, by omega, H4.out.front hn, ⟨⟨_, _, _, H1.out.set 0 _, by omega, by omega, h7⟩, HR.out.lo, HR.out.bel.setCell (p := ⟨r, 0, none⟩) h6 _⟩, gr_set w r 0 _⟩
end Go.Proofs.YtbdjcbdnhaddoaaDoor

/- A reader's number of so many bytes. No condition. -/
namespace Go.Proofs.YtbdjcbdnhaddoaaDoor
open Go.RowKit Go.Shelf
attribute [local go_sem] Oper.semAt_some

/-- A byte. -/
def b8 (n : Nat) : Nat := n % 256
theorem b8_lt (n : Nat) : b8 n < 256 := Nat.mod_lt _ (by decide)
theorem b8_of {n : Nat} (h : n < 256) : b8 n = n := Nat.mod_eq_of_lt h
/-- What has come when k rounds are over. -/
def backTo (L : List Nat) (n : Nat) (k : Nat) : List (Nat × Nat) := (List.range k).map fun j => (n - 1 - j, nth L (n - 1 - j))
theorem backTo_succ (L : List Nat) (n k : Nat) : backTo L n (k + 1) = backTo L n k ++ [(n - 1 - k, nth L (n - 1 - k))] := by simp [backTo, List.range_succ]
theorem backTo_length (L : List Nat) (n k : Nat) : (backTo L n k).length = k := by simp [backTo]

/-- What a round keeps: what lay below n₀, and the box of the slice. -/
def KpB (n₀ Bx : Nat) (W W' : World) : Prop := Below n₀ W W' ∧ W'.heap[Bx]? = W.heap[Bx]?
theorem kpB_refl (n₀ Bx : Nat) (W : World) : KpB n₀ Bx W W := ⟨Below.refl _ _, rfl⟩
theorem kpB_t {n₀ Bx : Nat} {A B C : World} (h : KpB n₀ Bx A B) (k : KpB n₀ Bx B C) : KpB n₀ Bx A C := ⟨h.1.trans k.1, k.2.trans h.2⟩
theorem belowK_b9 {n₀ : Nat} {w : World} (hn : n₀ ≤ w.heap.size) (W : World) (l : Nat) (o o' : Obj) (hl : w.heap.size ≤ l) (h : W.heap[l]? = some o) (h1 : o.isCells = false) (h2 : o.isWalk = false) : Below n₀ W (W.putObj l o') :=
  belowK_b hn W l o o' hl h h1 h2
theorem kpB_b {n₀ Bx : Nat} {w : World} (hn : n₀ ≤ w.heap.size) (hB : Bx < w.heap.size) (W : World) (l : Nat) (o o' : Obj) (hl : w.heap.size ≤ l) (h : W.heap[l]? = some o) (h1 : o.isCells = false) (h2 : o.isWalk = false) : KpB n₀ Bx W (W.putObj l o') :=
  ⟨belowK_b9 hn W l o o' hl h h1 h2, World.putObj_heap_other (by omega)⟩
theorem KpB.set {n₀ Bx : Nat} (W : World) {a : Addr} (v : Value) (h1 : n₀ ≤ a.block) (h2 : Bx ≠ a.block) : KpB n₀ Bx W (W.setCell a v) := ⟨(Below.refl _ _).setCell h1 v, Below.heap_setCell W a v Bx h2⟩

set_option maxRecDepth 100000 in
set_option maxHeartbeats 2000000 in
/-- The library's walk over a slice of bytes from its end on. -/
theorem back1_in (F : Fence) (n : Nat) (h7 : F.fn 82) (hro : F.round = none) (hn : 1 ≤ n) (l Bx : Nat) (A : Option Addr) (len cap : Nat) (L : List Nat) (hreach : len ≤ 549755813888) (J Jx : List (Nat × Nat) → World → Prop) (n₀ : Nat)
    (hY : ∀ pre x W, J pre W → pre.length < len → YieldAt F (n - 1) Tryd.prog l #[.int .i64 (x.1 : Int), .int .u8 (b8 x.2 : Nat)] W fun e W' =>
      (e = .returned (.bool true) ∧ J (pre ++ [x]) W' ∧ KpB n₀ Bx W W') ∨ (e = .returned (.bool false) ∧ Jx (pre ++ [x]) W'))
    (W : World) (hBx : W.cell? ⟨Bx, 0, none⟩ = some (.slice A len cap)) (hL : Bs W A len L) (hn₀ : ∀ a, A = some a → a.block < n₀) (h0 : J [] W) :
    CallsIn F n Tryd.prog 82 #[.func (.yield l) #[] #[], .pointer (some ⟨Bx, 0, none⟩)] W fun e W' => (∃ v, e = .returned v) ∧
      ((∃ ys, ys = backTo L len len ∧ J ys W') ∨ (∃ pre, (∃ k, k ≤ len ∧ pre = backTo L len k) ∧ Jx pre W')) := by
  refine callsIn_of_wp Tryd.func82 rfl h7 ?_ hro
  simp only [Tryd.ntmps82, List.size_toArray, List.length_cons, List.length_nil, Nat.reduceAdd, Nat.reduceSub, Array.replicate_succ, Array.replicate_zero, List.push_toArray, List.append_toArray, List.nil_append, List.cons_append]
  have HL := Lib.hid hL
  have HN := Lib.hid hn₀
  clear hL hn₀
  gi_wp2
  gi_loopw [3] (fun i wr => ∃ k r : Nat, r + k = len ∧ i = .int .i64 ((r : Int) - 1) ∧ J (backTo L len k) wr ∧ KpB n₀ Bx W wr)
    (fun i _ => (intOf i + 1).toNat)
  case atStart => exact ⟨0, len, by omega, rfl, h0, kpB_refl _ _ _⟩
  case round =>
    obtain ⟨k, r, hk, rfl, hJs, hnx⟩ := hrel
    have hbx : wr.cell? ⟨Bx, 0, none⟩ = some (.slice A len cap) := (World.cell?_of_block (w := W) hnx.2).trans hBx
    rcases r with _ | r
    · obtain rfl : k = len := by omega
      gi_wp2
      go_end0
      exact ⟨⟨_, rfl⟩, .inl ⟨_, rfl, hJs⟩⟩
    · have hr : len - 1 - k = r := by omega
      obtain ⟨a, rfl, _, ca, la⟩ := HL.out.at_ (k := r) (by omega)
      have ca' : wr.cell? (a.add r) = some (.int .u8 (nth L r : Nat)) := (hnx.1.cell (by rw [add_block]; exact HN.out a rfl)).trans ca
      have hb := b8_of la
      obtain ⟨fn, tmps, assign, body, hy, hR⟩ := hY _ (r, nth L r) wr hJs (by rw [backTo_length]; omega)
      dsimp only at hy
      rw [hb] at hy
      have hs := backTo_succ L len k
      rw [hr] at hs
      have HS := Lib.hid hs
      clear hs hb ca
      gi_wp2
      refine hR.mono ?_
      rintro e W3 (⟨rfl, hJ3, hk3⟩ | ⟨rfl, hJx3⟩)
      · gi_wp2
        go_roundw
        case rel => exact ⟨k + 1, r, by omega, by go_num, by rw [HS.out]; exact hJ3, kpB_t hnx hk3⟩
        case measure => simp [intOf]
      · gi_wp2
        refine bodyPost_ret (results_none rfl _ _ _) rfl ?_
        exact ⟨⟨_, rfl⟩, .inr ⟨_, ⟨k + 1, by omega, HS.out.symm⟩, hJx3⟩⟩

set_option maxHeartbeats 1000000 in
/-- The library's walk, as it is handed on. -/
theorem back_in (F : Fence) (n : Nat) (h5 : F.fn 79) (hro : F.round = none) (A : Option Addr) (len cap : Nat) (w : World) :
    CallsIn F n Tryd.prog 79 #[.slice A len cap] w fun e w' => e = .returned (.func (.func 82) #[] #[.pointer (some ⟨w.heap.size, 0, none⟩)]) ∧ w' = w.alloc (.cells #[.slice A len cap] 29) := by
  refine callsIn_of_wp Tryd.func79 rfl h5 ?_ hro
  simp only [Tryd.ntmps79, List.size_toArray, List.length_cons, List.length_nil, Nat.reduceAdd, Nat.reduceSub, Array.replicate_succ, Array.replicate_zero, List.push_toArray, List.append_toArray, List.nil_append, List.cons_append]
  gi_wp2
  go_ret
  exact ⟨rfl, rfl⟩
theorem back_stops (F : Fence) (n : Nat) (h7 : F.fn 82) (hro : F.round = none) (hn : 1 ≤ n) (Bx : Nat) (A : Option Addr) (len cap : Nat) (L : List Nat) (hreach : len ≤ 549755813888) (n₀ : Nat) (w : World)
    (hBx : w.cell? ⟨Bx, 0, none⟩ = some (.slice A len cap)) (hB : Bx < w.heap.size) (hL : Bs w A len L) (hn₀ : ∀ a, A = some a → a.block < n₀) :
    SeqStopsK F n Tryd.prog 82 #[.pointer (some ⟨Bx, 0, none⟩)] (fun x : Nat × Nat => #[Value.int .i64 (x.1 : Int), Value.int .u8 (b8 x.2 : Nat)]) (KpB n₀ Bx) (fun ys => ys = backTo L len len) (fun pre => ∃ k, k ≤ len ∧ pre = backTo L len k) len w := fun l J Jx W hW _ _ hY h0 =>
  back1_in F n h7 hro hn l Bx A len cap L hreach J Jx n₀ hY W ((hW.cell (p := ⟨Bx, 0, none⟩) hB).trans hBx) (hL.later hW) hn₀ h0

/-- What is read so far. -/
def numOf (l : List (Nat × Nat)) : Nat := l.foldl (fun s x => 256 * s + b8 x.2) 0
theorem numOf_snoc (l : List (Nat × Nat)) (x : Nat × Nat) : numOf (l ++ [x]) = 256 * numOf l + b8 x.2 := by simp [numOf]

/-- The bytes' number, from the end on. -/
theorem numOf_back {L : List Nat} (h : AllB L) (n : Nat) : ∀ k, k ≤ n → n = L.length → numOf (backTo L n k) = valLE (L.drop (n - k))
  | 0, _, e => by rw [Nat.sub_zero, List.drop_of_length_le (by omega)]; rfl
  | k + 1, hk, e => by
    have hd : L.drop (n - (k + 1)) = nth L (n - (k + 1)) :: L.drop (n - k) := by
      have hlt : n - (k + 1) < L.length := by omega
      rw [List.drop_eq_getElem_cons hlt, show n - (k + 1) + 1 = n - k by omega]
      simp [nth, List.getD, hlt]
    rw [backTo_succ, numOf_snoc, numOf_back h n k (by omega) e, b8_of (nth_lt h _), show n - 1 - k = n - (k + 1) by omega, hd, valLE]
    omega
/-- What a call gives that reads a value. -/
def ReadsV (w0 : World) (r : Nat) (w : World) (v : Value) (L : List Nat) (e : Ending) (w' : World) : Prop := e = .returned v ∧ Reader w0 w' r L ∧ Gr r w w'

set_option maxRecDepth 100000 in
set_option maxHeartbeats 2000000 in
theorem number_in {w0 w : World} {r : Nat} {L : List Nat} (s : Nat) (s1 : 1 ≤ s) (s8 : s ≤ 8) (R : Reader w0 w r L) (hle : s ≤ L.length) :
    CallsIn Fence.wide 3 Tryd.prog 70 #[.pointer (some ⟨r, 0, none⟩), .int .u64 (s : Int)] w (ReadsV w0 r w (.int .u64 (valLE (L.take s) : Int)) (L.drop s)) := by
  have HR := Lib.hid R
  have rl := R.lt
  have rlo := R.lo
  have HL := Lib.hid R.byt
  have R1 := Lib.hid (R.later ((Below.refl _ w).alloc (Nat.le_refl _) (.cells #[.int .u64 0] 44)))
  have HS := Lib.hid (some_yes R1.out hle)
  have HE := Lib.hid hle
  clear R
  refine callsIn_of_wp_marks Tryd.func70 rfl trivial ?_ rfl
  simp only [Tryd.ntmps70, List.size_toArray, List.length_cons, List.length_nil, Nat.reduceAdd, Nat.reduceSub, Array.replicate_succ, Array.replicate_zero, List.push_toArray, List.append_toArray, List.nil_append, List.cons_append]
  gi_wp2_with (first | (refine ⟨trivial, ?_⟩; gi_at_call 71; refine (callsIn_wide.2 HS.out).mono ?_; rintro e w2 ⟨A2, c2, rfl, hc2, B2, R2, G2⟩) | (refine ⟨trivial, ?_⟩; gi_at_call 79; refine (back_in Fence.wide _ trivial rfl _ _ _ _).mono ?_; rintro e w3 ⟨rfl, rfl⟩))
  have gs : w.heap.size + 1 ≤ w2.heap.size := by have := G2.size; simpa using this
  have bS : Boxed w2 w.heap.size 44 (.int .u64 0) := (Boxed.new w 44 (.int .u64 0)).kept G2 (fun e => by injection e with e; omega)
  have bN := Boxed.new w2 29 (.slice A2 s c2)
  have GW : Gr r w w2 := gr_trans (gr_below r ((Below.refl _ w).alloc (Nat.le_refl _) _)) G2
  have hB0 : Below w.heap.size w2 (w2.alloc (.cells #[.slice A2 s c2] 29)) := (Below.refl _ w2).alloc (by omega) _
  have hblk : ∀ a, A2 = some a → 0 < s → a.block < w.heap.size := fun a e h => by
    obtain ⟨b, e2, hb, _⟩ := B2.cel h
    rw [e] at e2
    injection e2 with e2
    subst e2
    omega
  have HB := Lib.hid B2
  have HR2 := Lib.hid R2
  have HGW := Lib.hid GW
  have hst : SeqStopsK Fence.wide 2 Tryd.prog 82 #[.pointer (some ⟨w2.heap.size, 0, none⟩)] (fun x : Nat × Nat => #[Value.int .i64 (x.1 : Int), Value.int .u8 (b8 x.2 : Nat)]) (KpB w.heap.size w2.heap.size) (fun ys => ys = backTo (L.take s) s s) (fun pre => ∃ k, k ≤ s ∧ pre = backTo (L.take s) s k) s (w2.alloc (.cells #[.slice A2 s c2] 29)) := by
    have hb2 : Bs (w2.alloc (.cells #[.slice A2 s c2] 29)) A2 s (L.take s) := HB.out.later (HR2.out.bel.trans ((Below.refl _ w2).alloc (by have := HR2.out.bel.size; omega) _))
    exact back_stops Fence.wide 2 trivial rfl (by decide) w2.heap.size A2 s c2 _ (by omega) w.heap.size _ bN.cell (by simp) hb2 (fun a e => hblk a e (by omega))
  have hl2 : (L.take s).length = s := by rw [List.length_take]; omega
  have HT := Lib.hid hl2
  clear hl2 B2 R2 GW G2
  refine wpIn_rangeFunc_ownG rfl (by decide) (gf := 82) (lb := #[.pointer (some ⟨w2.heap.size, 0, none⟩)]) rfl trivial (enters_of Tryd.func82 (by kernel_rfl) rfl)
    hst kpB_t (kpB_b (by simp; omega) (by simp)) (Below.refl _ _) (fun _ => rfl)
    (fun pre W => ((numOf pre < 256 ^ pre.length ∧ W.cell? ⟨w.heap.size, 0, none⟩ = some (.int .u64 (numOf pre : Nat))) ∧ W.frozen? ⟨w.heap.size, 0, none⟩ = false) ∧ Below w.heap.size w2 W)
    (fun _ _ _ => False)
    (OwnFrom.and (Own.from (fun s A B row hs hg hr => ⟨⟨hs.1.1, cell_kept hs.1.2 hg hr⟩, (frozen_kept hs.1.2 hg hr).trans hs.2⟩) _) (ownFrom_below (by omega) (by simp; omega)))
    (fun _ _ _ _ _ hs _ _ => hs)
    ⟨⟨⟨by decide, (bS.alloc _).cell⟩, (bS.alloc _).frozen⟩, hB0⟩
    (fun x => { tmps := #[Value.pointer (some { block := r, off := 0 }), Value.int IntKind.u64 ↑s, undef, undef, Value.int IntKind.u64 0, Value.pointer (some { block := w.heap.size, off := 0 }), undef, .int .u8 (b8 x.2 : Nat), Value.pointer (some { block := r, off := 0 }), Value.int IntKind.u64 ↑s, Value.slice A2 s c2, Value.func (Fn.func 82) #[] #[Value.pointer (some { block := w2.heap.size, off := 0 })], .int .i64 (x.1 : Int), .int .u8 (b8 x.2 : Nat), undef, undef, undef, undef, undef, undef], defers := [] }) ?assign ?body ?done ?stop
  case assign =>
    intro l x W K hK
    gi_wp2
    exact hK
  case body =>
    rintro l pre x W ⟨⟨⟨hv, hc⟩, hf⟩, hB⟩ hp
    have hq : numOf pre < 72057594037927936 := Nat.lt_of_lt_of_le hv (Nat.le_trans (Nat.pow_le_pow_right (by decide) (by omega : pre.length ≤ 7)) (by decide))
    have hb := b8_lt x.2
    have hn := numOf_snoc pre x
    have hp2 : 256 ^ (pre ++ [x]).length = 256 * 256 ^ pre.length := by rw [List.length_append, List.length_singleton, Nat.pow_succ, Nat.mul_comm]
    obtain ⟨q, hqe⟩ : ∃ q, q = numOf pre := ⟨_, rfl⟩
    obtain ⟨b, hbe⟩ : ∃ b, b = b8 x.2 := ⟨_, rfl⟩
    rw [← hqe] at hv hc hq hn
    rw [← hbe] at hb hn ⊢
    have HN := Lib.hid hn
    have HP := Lib.hid hp2
    have HV := Lib.hid hv
    clear hn hp2 hv hqe hbe hst
    have ho : bits BinOp.or IntKind.u64 ((q : Int) * 256) (b : Int) = ((256 * q + b : Nat) : Int) := by
      have e1 : ((q : Int) * 256) = ((256 * q : Nat) : Int) := by omega
      rw [e1, bits_or_u64_nat (256 * q) b (by omega) (by omega)]
      have := Nat.two_pow_add_eq_or_of_lt (show b < 2 ^ 8 from hb) q
      rw [show (2 : Nat) ^ 8 = 256 from rfl] at this
      rw [← this]
    gi_wp2
    refine ⟨(KeepsOthers.setCell _ _ _).from _, KpB.set _ _ (Nat.le_refl _) (by simp; omega), ⟨⟨by rw [HN.out, HP.out]; have := HV.out; omega, by rw [HN.out]; exact World.cell?_setCell_same' _ _ _ (by rw [hc]; rfl)⟩, by rw [World.frozen?_setCell]; exact hf⟩, hB.setCell (p := ⟨w.heap.size, 0, none⟩) (Nat.le_refl _) _⟩
  case done =>
    rintro D ys W hD rfl ⟨⟨⟨_, hc⟩, hf⟩, hB⟩ hK
    have hn := numOf_back HB.out.byt s s (Nat.le_refl _) HT.out.symm
    rw [Nat.sub_self, List.drop_zero] at hn
    rw [hn] at hc
    obtain ⟨q, hq⟩ : ∃ q, q = valLE (L.take s) := ⟨_, rfl⟩
    rw [← hq] at hc
    have HQ := Lib.hid hq
    clear hn hq hst
    gi_wp2
    refine ⟨by simp, .inl ⟨_, _, rfl, run_takeDeferred hK, ?_⟩⟩
    have hB4 := hB.trans (belowK_b (n₀ := w.heap.size) (w := w) (Nat.le_refl _) W D (.deferred (some [])) (.deferred none) (by simp at hD; omega) hK rfl rfl)
    refine ⟨.int .u64 (q : Int), ?_, by rw [HQ.out], HR2.out.below hB4 rl, gr_new HGW.out hB4 (Nat.le_refl _)⟩
    simp [results, Tryd.f70, go_sem]
  case stop =>
    rintro D c pre W _ _ h _
    exact h.elim
theorem number_yes {w0 w : World} {r : Nat} {L R' : List Nat} {s x : Nat} (R : Reader w0 w r L) (s1 : 1 ≤ s) (s8 : s ≤ 8) (h : numP s L = some (x, R')) :
    Calls Tryd.prog 70 #[.pointer (some ⟨r, 0, none⟩), .int .u64 (s : Int)] w (ReadsV w0 r w (.int .u64 (x : Int)) R') := by
  unfold numP at h
  obtain ⟨⟨y, r'⟩, h1, h2⟩ := Option.map_eq_some_iff.1 h
  simp only [Prod.mk.injEq] at h2
  obtain ⟨rfl, rfl⟩ := h2
  unfold takeP at h1
  split at h1
  · rename_i hle
    injection h1 with h1
    simp only [Prod.mk.injEq] at h1
    obtain ⟨rfl, rfl⟩ := h1
    exact callsIn_wide.1 (number_in s s1 s8 R hle)
  · cases h1
set_option maxRecDepth 100000 in
theorem number_not {w0 w : World} {r : Nat} {L : List Nat} {s : Nat} (R : Reader w0 w r L) (h : numP s L = none) :
    Calls Tryd.prog 70 #[.pointer (some ⟨r, 0, none⟩), .int .u64 (s : Int)] w (Fails r w) := by
  have hlt : L.length < s := by
    unfold numP takeP at h
    split at h
    · cases h
    · omega
  have bl := (Below.refl _ w).alloc (Nat.le_refl _) (.cells #[.int .u64 0] 44)
  have HB := Lib.hid (gr_below r bl)
  have HS := Lib.hid (some_not (R.later bl) hlt)
  clear R bl h hlt
  go_enter Tryd.func70, Tryd.ntmps70
  go_wp2_with (go_at_call 71; refine HS.out.mono ?_; rintro e w2 ⟨rfl, G⟩)
  exact ⟨rfl, rfl, gr_trans HB.out G⟩
end Go.Proofs.YtbdjcbdnhaddoaaDoor

/- A reader's counts and items. No condition. -/
namespace Go.Proofs.YtbdjcbdnhaddoaaDoor
open Go.RowKit

theorem cnt_cases {L : List Nat} {x : Nat} {R' : List Nat} (h : cntP L = some (x, R')) : ∃ y r1, numP 1 L = some (y, r1) ∧ ((y = 253 ∧ numP 2 r1 = some (x, R')) ∨ (y = 254 ∧ numP 4 r1 = some (x, R')) ∨ (y = 255 ∧ numP 8 r1 = some (x, R')) ∨ (y ≠ 253 ∧ y ≠ 254 ∧ y ≠ 255 ∧ x = y ∧ R' = r1)) := by
  unfold cntP at h
  obtain ⟨⟨y, r1⟩, h1, h2⟩ := Option.bind_eq_some_iff.1 h
  refine ⟨y, r1, h1, ?_⟩
  simp only at h2
  split at h2
  · exact .inl ⟨by assumption, h2⟩
  · split at h2
    · exact .inr (.inl ⟨by assumption, h2⟩)
    · split at h2
      · exact .inr (.inr (.inl ⟨by assumption, h2⟩))
      · injection h2 with h2
        simp only [Prod.mk.injEq] at h2
        exact .inr (.inr (.inr ⟨by assumption, by assumption, by assumption, h2.1.symm, h2.2.symm⟩))
theorem cnt_not {L : List Nat} (h : cntP L = none) : numP 1 L = none ∨ ∃ y r1, numP 1 L = some (y, r1) ∧ ((y = 253 ∧ numP 2 r1 = none) ∨ (y = 254 ∧ numP 4 r1 = none) ∨ (y = 255 ∧ numP 8 r1 = none)) := by
  unfold cntP at h
  cases e : numP 1 L with
  | none => exact .inl rfl
  | some z =>
    obtain ⟨y, r1⟩ := z
    rw [e, Option.bind_some] at h
    refine .inr ⟨y, r1, rfl, ?_⟩
    simp only at h
    split at h
    · exact .inl ⟨by assumption, h⟩
    · split at h
      · exact .inr (.inl ⟨by assumption, h⟩)
      · split at h
        · exact .inr (.inr ⟨by assumption, h⟩)
        · cases h

set_option maxRecDepth 100000 in
set_option maxHeartbeats 2000000 in
theorem count_yes {w0 w : World} {r : Nat} {L R' : List Nat} {x : Nat} (R : Reader w0 w r L) (h : cntP L = some (x, R')) :
    Calls Tryd.prog 72 #[.pointer (some ⟨r, 0, none⟩)] w (ReadsV w0 r w (.int .u64 (x : Int)) R') := by
  obtain ⟨y, r1, h1, hc⟩ := cnt_cases h
  have N1 := Lib.hid (number_yes R (by decide) (by decide) h1)
  clear h h1
  rcases hc with ⟨rfl, h2⟩ | ⟨rfl, h2⟩ | ⟨rfl, h2⟩ | ⟨n1, n2, n3, rfl, rfl⟩
  iterate 3
    · have H2 := Lib.hid h2
      clear h2
      go_enter Tryd.func72, Tryd.ntmps72
      go_wp2_with (go_at_call 70; first | (refine N1.out.mono ?_; rintro e w2 ⟨rfl, R2, G2⟩; clear N1) | (refine (number_yes R2 (by decide) (by decide) H2.out).mono ?_; rintro e w3 ⟨rfl, R3, G3⟩))
      go_ret
      exact ⟨rfl, R3, gr_trans G2 G3⟩
  · have t1 : decide ((x : Int) = 253) = false := decide_eq_false (by omega)
    have t2 : decide ((x : Int) = 254) = false := decide_eq_false (by omega)
    have t3 : decide ((x : Int) = 255) = false := decide_eq_false (by omega)
    have u1 : ¬ (x : Int) = 253 := by omega
    have u2 : ¬ (x : Int) = 254 := by omega
    have u3 : ¬ (x : Int) = 255 := by omega
    go_enter Tryd.func72, Tryd.ntmps72
    go_wp2_with (go_at_call 70; refine N1.out.mono ?_; rintro e w2 ⟨rfl, R2, G2⟩)
    go_ret
    exact ⟨rfl, R2, G2⟩
set_option maxRecDepth 100000 in
set_option maxHeartbeats 2000000 in
theorem count_not {w0 w : World} {r : Nat} {L : List Nat} (R : Reader w0 w r L) (h : cntP L = none) :
    Calls Tryd.prog 72 #[.pointer (some ⟨r, 0, none⟩)] w (Fails r w) := by
  rcases cnt_not h with h1 | ⟨y, r1, h1, hc⟩
  · have N1 := Lib.hid (number_not R h1)
    clear h h1
    go_enter Tryd.func72, Tryd.ntmps72
    go_wp2_with (go_at_call 70; refine N1.out.mono ?_; rintro e w2 ⟨rfl, G⟩)
    exact ⟨rfl, rfl, G⟩
  · have N1 := Lib.hid (number_yes R (by decide) (by decide) h1)
    clear h h1
    rcases hc with ⟨rfl, h2⟩ | ⟨rfl, h2⟩ | ⟨rfl, h2⟩
    all_goals
      have H2 := Lib.hid h2
      clear h2
      go_enter Tryd.func72, Tryd.ntmps72
      go_wp2_with (go_at_call 70; first | (refine N1.out.mono ?_; rintro e w2 ⟨rfl, R2, G2⟩; clear N1) | (refine (number_not R2 H2.out).mono ?_; rintro e w3 ⟨rfl, G3⟩))
      exact ⟨rfl, rfl, gr_trans G2 G3⟩

end Go.Proofs.YtbdjcbdnhaddoaaDoor

/- A reader's items. No condition. -/
namespace Go.Proofs.YtbdjcbdnhaddoaaDoor
open Go.RowKit

/-- What a call gives that reads an item. -/
def ReadsB (w0 : World) (r : Nat) (w : World) (y L : List Nat) (e : Ending) (w' : World) : Prop := ∃ A n c, e = .returned (.slice A n c) ∧ n ≤ c ∧ n ≤ 1073741824 ∧ BsP w' (fun b => w.heap.size ≤ b) A n y ∧ Reader w0 w' r L ∧ Gr r w w'
theorem item_cases {L y R' : List Nat} (h : itemP L = some (y, R')) : ∃ n r1, cntP L = some (n, r1) ∧ n ≤ r1.length ∧ y = r1.take n ∧ R' = r1.drop n := by
  unfold itemP at h
  obtain ⟨⟨n, r1⟩, h1, h2⟩ := Option.bind_eq_some_iff.1 h
  refine ⟨n, r1, h1, ?_⟩
  simp only [takeP] at h2
  split at h2
  · injection h2 with h2
    simp only [Prod.mk.injEq] at h2
    exact ⟨by assumption, h2.1.symm, h2.2.symm⟩
  · cases h2
theorem item_not' {L : List Nat} (h : itemP L = none) : cntP L = none ∨ ∃ n r1, cntP L = some (n, r1) ∧ r1.length < n := by
  unfold itemP at h
  cases e : cntP L with
  | none => exact .inl rfl
  | some z =>
    obtain ⟨n, r1⟩ := z
    rw [e, Option.bind_some] at h
    refine .inr ⟨n, r1, rfl, ?_⟩
    simp only [takeP] at h
    split at h
    · cases h
    · omega
set_option maxRecDepth 100000 in
set_option maxHeartbeats 2000000 in
theorem item_yes {w0 w : World} {r : Nat} {L y R' : List Nat} (R : Reader w0 w r L) (h : itemP L = some (y, R')) :
    Calls Tryd.prog 74 #[.pointer (some ⟨r, 0, none⟩)] w (ReadsB w0 r w y R') := by
  obtain ⟨n, r1, h1, hn, rfl, rfl⟩ := item_cases h
  have N1 := Lib.hid (count_yes R h1)
  have hn2 : n ≤ 1073741824 := by
    have := R.len
    have := (cntP_some h1 R.byt).1
    omega
  have HN := Lib.hid hn
  have HL := Lib.hid hn2
  clear h h1 R
  go_enter Tryd.func74, Tryd.ntmps74
  go_wp2_with (first
    | (go_at_call 72; refine N1.out.mono ?_; rintro e w2 ⟨rfl, R2, G2⟩; have HR2 := Lib.hid R2; have HG2 := Lib.hid G2; clear R2 G2)
    | (go_at_call 71; refine (some_yes HR2.out HN.out).mono ?_; rintro e w3 ⟨A3, c3, rfl, hc3, B3, R3, G3⟩; have HB3 := Lib.hid B3; have HR3 := Lib.hid R3; have HG3 := Lib.hid G3; clear B3 R3 G3)
    | (at_builtin; refine wpList_appB (w0 := w3) rfl _ _ rfl rfl ⟨World.ownsRow_nil _ _ _ _, allB_nil, Below.refl _ _⟩ rfl (HB3.out.later HR3.out.bel) (by have := HL.out; omega) ?_))
  intro A4 N4 c4 w4 hc4 O4 G4
  have HO := Lib.hid O4
  clear O4 G4
  go_wp2_with fail
  go_ret
  have O := HO.out
  have gr := gr_trans HG2.out HG3.out
  have hl := O.len
  try rw [List.nil_append] at hl
  rw [List.length_take] at hl
  have b := O.reads
  try rw [List.nil_append] at b
  have := HL.out
  refine ⟨A4, N4, c4, rfl, hc4, by omega, ⟨b, fun h0 a e => ?_⟩, HR3.out.later O.bel, gr_trans gr (gr_below r O.bel)⟩
  have hw := gr.size
  have := (O.new a.block (by rw [e]; rfl)).1
  omega
set_option maxRecDepth 100000 in
set_option maxHeartbeats 2000000 in
theorem item_not {w0 w : World} {r : Nat} {L : List Nat} (R : Reader w0 w r L) (h : itemP L = none) :
    Calls Tryd.prog 74 #[.pointer (some ⟨r, 0, none⟩)] w (Fails r w) := by
  rcases item_not' h with h1 | ⟨n, r1, h1, hn⟩
  · have N1 := Lib.hid (count_not R h1)
    clear h h1
    go_enter Tryd.func74, Tryd.ntmps74
    go_wp2_with (go_at_call 72; refine N1.out.mono ?_; rintro e w2 ⟨rfl, G⟩)
    exact ⟨rfl, rfl, G⟩
  · have N1 := Lib.hid (count_yes R h1)
    have HN := Lib.hid hn
    clear h h1 hn
    go_enter Tryd.func74, Tryd.ntmps74
    go_wp2_with (first
      | (go_at_call 72; refine N1.out.mono ?_; rintro e w2 ⟨rfl, R2, G2⟩)
      | (go_at_call 71; refine (some_not R2 HN.out).mono ?_; rintro e w3 ⟨rfl, G3⟩))
    exact ⟨rfl, rfl, gr_trans G2 G3⟩
end Go.Proofs.YtbdjcbdnhaddoaaDoor
