/- Bytes as strings; a struct built. No condition. -/
import Derived.Test.YtjcphpmlekfhdaaGreatDoorGe
import Derived.Laws.IdiomStrings
import Derived.Laws.BytesString
import Derived.RangeFuncNested
import Derived.RangeFuncBound
import Derived.RangeFuncCalls
import Derived.RangeFuncLeaves
import Derived.Shelf.Abstract
import Derived.Shelf.RegionOpen
import Derived.OwnWalkIn
import Derived.TacticsInMore
import Derived.LoopNIn
import Derived.LoopIn
import Derived.Outline
import Derived.Test.YtjcphpmlekfhdaaGreatDoorGa
import Derived.Test.YtjcphpmlekfhdaaGreatDoorGc
import Derived.Stop.RegionWithIn
import Derived.Laws.ResultCell

namespace Go.Proofs.YtjcphpmlekfhdaaGreatDoor
open Go.RowKit

/-- A string of these bytes. -/
def strB (L : List Nat) : ByteArray := ⟨(L.map UInt8.ofNat).toArray⟩
def strL (s : ByteArray) : List Nat := s.data.toList.map UInt8.toNat
theorem strL_strB {L : List Nat} (h : AllB L) : strL (strB L) = L := by
  simp only [strL, strB, List.map_map]
  conv => rhs; rw [← List.map_id L]
  apply List.map_congr_left
  intro x hx
  have := h x hx
  simp; omega
theorem strB_inj {L M : List Nat} (h : AllB L) (k : AllB M) (e : strB L = strB M) : L = M := by rw [← strL_strB h, e, strL_strB k]
theorem strB_size (L : List Nat) : (strB L).size = L.length := by
  show ((L.map UInt8.ofNat).toArray).size = _
  simp
theorem run_str {A : Option Addr} {n c : Nat} {L : List Nat} {w : World} (h : Bs w A n L) : (convert 40 9 (.slice A n c)).run Tryz.prog w = .ok (.string (strB L)) w := by
  rcases A with _ | a
  · obtain rfl : n = 0 := by
      rcases Nat.eq_zero_or_pos n with h0 | h0
      · exact h0
      · obtain ⟨_, e, _⟩ := h.cel h0
        cases e
    obtain rfl : L = [] := List.eq_nil_of_length_eq_zero h.len
    rw [run_convert_bytes_string w 40 9 5 none 0 c Tryz.underlying40 Tryz.underlying5 Tryz.underlying9]
    rfl
  · have hl := h.len
    have := run_convert_bytes_back (P := Tryz.prog) w 40 9 5 a c (L.map UInt8.ofNat) Tryz.underlying40 Tryz.underlying5 Tryz.underlying9 (fun j hj => by
      have hj' : j < L.length := by simpa using hj
      obtain ⟨b, e, _, hc⟩ := h.cel (by omega)
      injection e with e
      subst e
      rw [hc j (by omega)]
      have hlt := nth_lt h.byt j
      have e2 : nth L j = L[j] := by simp [nth, List.getD, hj']
      simp only [List.getElem_map]
      rw [UInt8.toNat_ofNat', ← e2, Nat.mod_eq_of_lt hlt])
    rw [List.length_map, hl] at this
    exact this
theorem str_iff {L M : List Nat} (h : AllB L) (k : AllB M) : ((strB L).toList == (strB M).toList) = true ↔ L = M := by
  rw [beq_iff_eq]
  constructor
  · intro e
    refine strB_inj h k ?_
    rw [ByteArray.toList_eq, ByteArray.toList_eq] at e
    exact ByteArray.ext (Array.toList_inj.1 e)
  · rintro rfl; rfl
theorem str_dec {L M : List Nat} (h : AllB L) (k : AllB M) : ((strB L).toList == (strB M).toList) = decide (L = M) := by
  rw [Bool.eq_iff_iff, str_iff h k, decide_eq_true_iff]

section
variable {w : World} {o : Oper} {a : Act} {Q : Exit → Act → World → Prop} {K : Act → World → Prop} {d : Option Tmp}
theorem wp_buildR (hd : o.dst = d) (T : TypeId) (parts : Array (Nat × Operand)) (ho : o.op = .build T parts) {us : Array (Nat × Value)} {v : Value} (hx : (parts.map fun y => (y.1, a.eval y.2)) = us) (hrun : (Instr.build T us).run Tryz.prog w = .ok v w)
    (h : K (a.put d v) w) : o.wp Tryz.prog a w K Q := by
  subst hd
  have hx' : (parts.map fun (x : Nat × Operand) => match x with | (i, x) => (i, a.eval x)) = us := hx
  unfold Oper.wp execOp
  simp only [ho, Sem.run_bind, hx', hrun, Result.andThen_ok, Sem.run_pure]
  exact h
end
end Go.Proofs.YtjcphpmlekfhdaaGreatDoor

/- The number that bytes are: a walk from the end on. No condition but a bound on the length. -/
namespace Go.Proofs.YtjcphpmlekfhdaaGreatDoor
open Go.RowKit Go.Shelf
attribute [local go_sem] Oper.semAt_some

/-- The number in the k bytes from p on. -/
def numAt (L : List Nat) (p : Nat) : Nat → Nat
  | 0 => 0
  | k + 1 => nth L p + 256 * numAt L (p + 1) k
theorem numAt_lt {L : List Nat} (h : AllB L) : ∀ k p, numAt L p k < 256 ^ k
  | 0, _ => Nat.zero_lt_one
  | k + 1, p => by
    have h1 := numAt_lt h k (p + 1)
    have h2 := nth_lt h p
    rw [numAt, Nat.pow_succ]
    omega
theorem numAt_56 {L : List Nat} (h : AllB L) {k p : Nat} (hk : k ≤ 7) : numAt L p k < 72057594037927936 :=
  Nat.lt_of_lt_of_le (numAt_lt h k p) (Nat.le_trans (Nat.pow_le_pow_right (by decide) hk) (by decide))
theorem numAt_64 {L : List Nat} (h : AllB L) {k p : Nat} (hk : k ≤ 8) : numAt L p k < 18446744073709551616 :=
  Nat.lt_of_lt_of_le (numAt_lt h k p) (Nat.le_trans (Nat.pow_le_pow_right (by decide) hk) (by decide))

/-- A byte. -/
def b8 (n : Nat) : Nat := n % 256
theorem b8_lt (n : Nat) : b8 n < 256 := Nat.mod_lt _ (by decide)
theorem b8_of {n : Nat} (h : n < 256) : b8 n = n := Nat.mod_eq_of_lt h
/-- What has come when k rounds are over. -/
def backTo (L : List Nat) (n : Nat) (k : Nat) : List (Nat × Nat) := (List.range k).map fun j => (n - 1 - j, nth L (n - 1 - j))
theorem backTo_succ (L : List Nat) (n k : Nat) : backTo L n (k + 1) = backTo L n k ++ [(n - 1 - k, nth L (n - 1 - k))] := by simp [backTo, List.range_succ]
theorem backTo_length (L : List Nat) (n k : Nat) : (backTo L n k).length = k := by simp [backTo]

/-- What a round keeps: what lay below n₀, and the box of the slice. -/
def KpB (n₀ Bx : Nat) (W W' : World) : Prop := Below n₀ W W' ∧ W'.heap[Bx]? = W.heap[Bx]?
theorem kpB_refl (n₀ Bx : Nat) (W : World) : KpB n₀ Bx W W := ⟨Below.refl _ _, rfl⟩
theorem kpB_t {n₀ Bx : Nat} {A B C : World} (h : KpB n₀ Bx A B) (k : KpB n₀ Bx B C) : KpB n₀ Bx A C := ⟨h.1.trans k.1, k.2.trans h.2⟩
theorem kpB_b {n₀ Bx : Nat} {w : World} (hn : n₀ ≤ w.heap.size) (hB : Bx < w.heap.size) (W : World) (l : Nat) (o o' : Obj) (hl : w.heap.size ≤ l) (h : W.heap[l]? = some o) (h1 : o.isCells = false) (h2 : o.isWalk = false) : KpB n₀ Bx W (W.putObj l o') :=
  ⟨belowK_b hn W l o o' hl h h1 h2, World.putObj_heap_other (by omega)⟩
theorem KpB.set {n₀ Bx : Nat} (W : World) {a : Addr} (v : Value) (h1 : n₀ ≤ a.block) (h2 : Bx ≠ a.block) : KpB n₀ Bx W (W.setCell a v) := ⟨(Below.refl _ _).setCell h1 v, Below.heap_setCell W a v Bx h2⟩

set_option maxRecDepth 100000 in
set_option maxHeartbeats 2000000 in
/-- The library's walk over a slice of bytes from its end on. -/
theorem back1_in (F : Fence) (n : Nat) (h7 : F.fn 101) (hro : F.round = none) (hn : 1 ≤ n) (l Bx : Nat) (A : Option Addr) (len cap : Nat) (L : List Nat) (hreach : len ≤ 549755813888) (J Jx : List (Nat × Nat) → World → Prop) (n₀ : Nat)
    (hY : ∀ pre x W, J pre W → pre.length < len → YieldAt F (n - 1) Tryz.prog l #[.int .i64 (x.1 : Int), .int .u8 (b8 x.2 : Nat)] W fun e W' =>
      (e = .returned (.bool true) ∧ J (pre ++ [x]) W' ∧ KpB n₀ Bx W W') ∨ (e = .returned (.bool false) ∧ Jx (pre ++ [x]) W'))
    (W : World) (hBx : W.cell? ⟨Bx, 0, none⟩ = some (.slice A len cap)) (hL : Bs W A len L) (hn₀ : ∀ a, A = some a → a.block < n₀) (h0 : J [] W) :
    CallsIn F n Tryz.prog 101 #[.func (.yield l) #[] #[], .pointer (some ⟨Bx, 0, none⟩)] W fun e W' => (∃ v, e = .returned v) ∧
      ((∃ ys, ys = backTo L len len ∧ J ys W') ∨ (∃ pre, (∃ k, k ≤ len ∧ pre = backTo L len k) ∧ Jx pre W')) := by
  refine callsIn_of_wp Tryz.func101 rfl h7 ?_ hro
  simp only [Tryz.ntmps101, List.size_toArray, List.length_cons, List.length_nil, Nat.reduceAdd, Nat.reduceSub, Array.replicate_succ, Array.replicate_zero, List.push_toArray, List.append_toArray, List.nil_append, List.cons_append]
  have HL := Lib.hid hL
  have HN := Lib.hid hn₀
  clear hL hn₀
  gi_wp2
  gi_loopw [3] (fun i wr => ∃ k r : Nat, r + k = len ∧ i = .int .i64 ((r : Int) - 1) ∧ J (backTo L len k) wr ∧ KpB n₀ Bx W wr)
    (fun i _ => (intOf i + 1).toNat)
  case atStart => exact ⟨0, len, by omega, rfl, h0, kpB_refl _ _ _⟩
  case round =>
    obtain ⟨k, r, hk, rfl, hJs, hnx⟩ := hrel
    have hbx : wr.cell? ⟨Bx, 0, none⟩ = some (.slice A len cap) := (World.cell?_of_block (w := W) hnx.2).trans hBx
    rcases r with _ | r
    · obtain rfl : k = len := by omega
      gi_wp2
      go_end0
      exact ⟨⟨_, rfl⟩, .inl ⟨_, rfl, hJs⟩⟩
    · have hr : len - 1 - k = r := by omega
      obtain ⟨a, rfl, _, ca, la⟩ := HL.out.at_ (k := r) (by omega)
      have ca' : wr.cell? (a.add r) = some (.int .u8 (nth L r : Nat)) := (hnx.1.cell (by rw [add_block]; exact HN.out a rfl)).trans ca
      have hb := b8_of la
      obtain ⟨fn, tmps, assign, body, hy, hR⟩ := hY _ (r, nth L r) wr hJs (by rw [backTo_length]; omega)
      dsimp only at hy
      rw [hb] at hy
      have hs := backTo_succ L len k
      rw [hr] at hs
      have HS := Lib.hid hs
      clear hs hb ca
      gi_wp2
      refine hR.mono ?_
      rintro e W3 (⟨rfl, hJ3, hk3⟩ | ⟨rfl, hJx3⟩)
      · gi_wp2
        go_roundw
        case rel => exact ⟨k + 1, r, by omega, by go_num, by rw [HS.out]; exact hJ3, kpB_t hnx hk3⟩
        case measure => simp [intOf]
      · gi_wp2
        refine bodyPost_ret (results_none rfl _ _ _) rfl ?_
        exact ⟨⟨_, rfl⟩, .inr ⟨_, ⟨k + 1, by omega, HS.out.symm⟩, hJx3⟩⟩

set_option maxHeartbeats 1000000 in
/-- The library's walk, as it is handed on. -/
theorem back_in (F : Fence) (n : Nat) (h5 : F.fn 95) (hro : F.round = none) (A : Option Addr) (len cap : Nat) (w : World) :
    CallsIn F n Tryz.prog 95 #[.slice A len cap] w fun e w' => e = .returned (.func (.func 101) #[] #[.pointer (some ⟨w.heap.size, 0, none⟩)]) ∧ w' = w.alloc (.cells #[.slice A len cap] 40) := by
  refine callsIn_of_wp Tryz.func95 rfl h5 ?_ hro
  simp only [Tryz.ntmps95, List.size_toArray, List.length_cons, List.length_nil, Nat.reduceAdd, Nat.reduceSub, Array.replicate_succ, Array.replicate_zero, List.push_toArray, List.append_toArray, List.nil_append, List.cons_append]
  gi_wp2
  go_ret
  exact ⟨rfl, rfl⟩
theorem back_stops (F : Fence) (n : Nat) (h7 : F.fn 101) (hro : F.round = none) (hn : 1 ≤ n) (Bx : Nat) (A : Option Addr) (len cap : Nat) (L : List Nat) (hreach : len ≤ 549755813888) (n₀ : Nat) (w : World)
    (hBx : w.cell? ⟨Bx, 0, none⟩ = some (.slice A len cap)) (hB : Bx < w.heap.size) (hL : Bs w A len L) (hn₀ : ∀ a, A = some a → a.block < n₀) :
    SeqStopsK F n Tryz.prog 101 #[.pointer (some ⟨Bx, 0, none⟩)] (fun x : Nat × Nat => #[Value.int .i64 (x.1 : Int), Value.int .u8 (b8 x.2 : Nat)]) (KpB n₀ Bx) (fun ys => ys = backTo L len len) (fun pre => ∃ k, k ≤ len ∧ pre = backTo L len k) len w := fun l J Jx W hW _ _ hY h0 =>
  back1_in F n h7 hro hn l Bx A len cap L hreach J Jx n₀ hY W ((hW.cell (p := ⟨Bx, 0, none⟩) hB).trans hBx) (hL.later hW) hn₀ h0

/-- What is read so far. -/
def numOf (l : List (Nat × Nat)) : Nat := l.foldl (fun s x => 256 * s + b8 x.2) 0
theorem numOf_snoc (l : List (Nat × Nat)) (x : Nat × Nat) : numOf (l ++ [x]) = 256 * numOf l + b8 x.2 := by simp [numOf]
theorem numOf_back {L : List Nat} (h : AllB L) (n : Nat) : ∀ k, k ≤ n → numOf (backTo L n k) = numAt L (n - k) k
  | 0, _ => by simp [backTo, numOf, numAt]
  | k + 1, hk => by
    rw [backTo_succ, numOf_snoc, numOf_back h n k (by omega), b8_of (nth_lt h _), numAt, show n - (k + 1) + 1 = n - k by omega, show n - 1 - k = n - (k + 1) by omega, Nat.add_comm]

theorem numAt_num : ∀ (L M : List Nat), numAt (L ++ M) L.length M.length = num M
  | _, [] => rfl
  | L, x :: M => by
    have h := numAt_num (L ++ [x]) M
    rw [List.append_assoc, List.length_append] at h
    rw [List.length_cons, numAt, num]
    have e : nth (L ++ x :: M) L.length = x := by simp [nth, List.getD]
    rw [e]
    congr 2
theorem numAt_all (M : List Nat) : numAt M 0 M.length = num M := numAt_num [] M
set_option maxRecDepth 100000 in
set_option maxHeartbeats 2000000 in
theorem numberOf_in {A : Option Addr} {m c : Nat} {L : List Nat} (w : World) (hm : m ≤ 8) (HL : Hid (Bs w A m L)) (HA : Hid (∀ a, A = some a → a.block < w.heap.size)) :
    CallsIn Fence.wide 3 Tryz.prog 69 #[.slice A m c] w fun e W => e = .returned (.int .u64 (num L : Nat)) ∧ Below w.heap.size w W := by
  refine callsIn_of_wp_marks Tryz.func69 rfl trivial ?_ rfl
  simp only [Tryz.ntmps69, List.size_toArray, List.length_cons, List.length_nil, Nat.reduceAdd, Nat.reduceSub, Array.replicate_succ, Array.replicate_zero, List.push_toArray, List.append_toArray, List.nil_append, List.cons_append]
  gi_wp2_with (refine ⟨trivial, ?_⟩; gi_at_call 95; refine (back_in Fence.wide _ trivial rfl _ _ _ _).mono ?_; rintro e w2 ⟨rfl, rfl⟩)
  have bS := Boxed.new w 49 (.int .u64 0)
  have bN := Boxed.new (w.alloc (.cells #[.int .u64 0] 49)) 40 (.slice A m c)
  rw [World.size_alloc] at bN
  have hB0 : Below w.heap.size w ((w.alloc (.cells #[.int .u64 0] 49)).alloc (.cells #[.slice A m c] 40)) := ((Below.refl _ w).alloc (Nat.le_refl _) _).alloc (by simp) _
  refine wpIn_rangeFunc_ownG rfl (by decide) (gf := 101) (lb := #[.pointer (some ⟨w.heap.size + 1, 0, none⟩)]) rfl trivial (enters_of Tryz.func101 (by kernel_rfl) rfl)
    (back_stops Fence.wide 2 trivial rfl (by decide) (w.heap.size + 1) A m c L (by omega) w.heap.size _ bN.cell (by simp) (HL.out.later hB0) HA.out) kpB_t (kpB_b (by simp; omega) (by simp)) (Below.refl _ _) (fun _ => rfl)
    (fun pre W => ((numOf pre < 256 ^ pre.length ∧ W.cell? ⟨w.heap.size, 0, none⟩ = some (.int .u64 (numOf pre : Nat))) ∧ W.frozen? ⟨w.heap.size, 0, none⟩ = false) ∧ Below w.heap.size w W)
    (fun _ _ _ => False)
    (OwnFrom.and (Own.from (fun s A B row hs hg hr => ⟨⟨hs.1.1, cell_kept hs.1.2 hg hr⟩, (frozen_kept hs.1.2 hg hr).trans hs.2⟩) _) (ownFrom_below (Nat.le_refl _) (by simp; omega)))
    (fun _ _ _ _ _ hs _ _ => hs)
    ⟨⟨⟨by decide, (bS.alloc _).cell⟩, (bS.alloc _).frozen⟩, hB0⟩
    (fun x => { tmps := #[Value.slice A m c, undef, Value.int IntKind.u64 0, Value.pointer (some { block := w.heap.size, off := 0 }), undef, .int .u8 (b8 x.2 : Nat), Value.slice A m c, Value.func (Fn.func 101) #[] #[Value.pointer (some { block := w.heap.size + 1, off := 0 })], .int .i64 (x.1 : Int), .int .u8 (b8 x.2 : Nat), undef, undef, undef, undef, undef, undef], defers := [] }) ?assign ?body ?done ?stop
  case assign =>
    intro l x W K hK
    gi_wp2
    exact hK
  case body =>
    rintro l pre x W ⟨⟨⟨hv, hc⟩, hf⟩, hB⟩ hp
    have hq : numOf pre < 72057594037927936 := Nat.lt_of_lt_of_le hv (Nat.le_trans (Nat.pow_le_pow_right (by decide) (by omega : pre.length ≤ 7)) (by decide))
    have hb := b8_lt x.2
    have hn := numOf_snoc pre x
    have hp2 : 256 ^ (pre ++ [x]).length = 256 * 256 ^ pre.length := by rw [List.length_append, List.length_singleton, Nat.pow_succ, Nat.mul_comm]
    obtain ⟨q, hqe⟩ : ∃ q, q = numOf pre := ⟨_, rfl⟩
    obtain ⟨b, hbe⟩ : ∃ b, b = b8 x.2 := ⟨_, rfl⟩
    rw [← hqe] at hv hc hq hn
    rw [← hbe] at hb hn ⊢
    have HN := Lib.hid hn
    have HP := Lib.hid hp2
    have HV := Lib.hid hv
    clear hn hp2 hv hqe hbe
    have ho : bits BinOp.or IntKind.u64 ((q : Int) * 256) (b : Int) = ((256 * q + b : Nat) : Int) := by
      have e1 : ((q : Int) * 256) = ((256 * q : Nat) : Int) := by omega
      rw [e1, bits_or_u64_nat (256 * q) b (by omega) (by omega)]
      have := Nat.two_pow_add_eq_or_of_lt (show b < 2 ^ 8 from hb) q
      rw [show (2 : Nat) ^ 8 = 256 from rfl] at this
      rw [← this]
    gi_wp2
    refine ⟨(KeepsOthers.setCell _ _ _).from _, KpB.set _ _ (Nat.le_refl _) (by simp), ⟨⟨by rw [HN.out, HP.out]; have := HV.out; omega, by rw [HN.out]; exact World.cell?_setCell_same' _ _ _ (by rw [hc]; rfl)⟩, by rw [World.frozen?_setCell]; exact hf⟩, hB.setCell (p := ⟨w.heap.size, 0, none⟩) (Nat.le_refl _) _⟩
  case done =>
    rintro D ys W hD rfl ⟨⟨⟨_, hc⟩, hf⟩, hB⟩ hK
    have hn := numOf_back HL.out.byt m m (Nat.le_refl _)
    rw [Nat.sub_self] at hn
    have hl := HL.out.len
    have hn2 : numAt L 0 m = num L := by rw [← hl]; exact numAt_all L
    rw [hn, hn2] at hc
    obtain ⟨q, hq⟩ : ∃ q, num L = q := ⟨_, rfl⟩
    rw [hq] at hc
    clear hn hn2 hl
    gi_wp2
    refine ⟨by simp, .inl ⟨_, _, rfl, run_takeDeferred hK, ?_⟩⟩
    refine ⟨.int .u64 (q : Int), ?_, ?_, hB.trans (belowK_b (w := w) (Nat.le_refl _) _ D _ _ (by simp at hD; omega) hK rfl rfl)⟩
    · simp [results, Tryz.f69, go_sem]
    · rw [hq]
  case stop =>
    rintro D c pre W _ _ h _
    exact h.elim
theorem numberOf_any {A : Option Addr} {m c : Nat} {L : List Nat} (w : World) (hm : m ≤ 8) (hL : Bs w A m L) (hA : ∀ a, A = some a → a.block < w.heap.size) :
    Calls Tryz.prog 69 #[.slice A m c] w fun e W => e = .returned (.int .u64 (num L : Nat)) ∧ Below w.heap.size w W :=
  callsIn_wide.1 (numberOf_in w hm (Lib.hid hL) (Lib.hid hA))
end Go.Proofs.YtjcphpmlekfhdaaGreatDoor

/- A range over a function whose iterator turns a box of its own between two rounds ('b = b[n+1:]' in a captured variable): the iterator's contract asks of the caller's word that it abides such turns (Tn); the caller's law with it. No condition on the program. -/
namespace Go.Proofs.YtjcphpmlekfhdaaGreatDoor
open Go.RowKit

def SeqTurns {α : Type} (F : Fence) (n : Nat) (P : Program) (g : Nat) (lb : Array Value) (encs : α → Array Value) (Tn Kp : World → World → Prop) (S Sp : List α → Prop) (w : World) : Prop :=
  ∀ (l : Nat) (J Jx : List α → World → Prop) (W : World), Below w.heap.size w W → AbidesFrom W.heap.size J → AbidesFrom W.heap.size Jx → (∀ s A B, J s A → Tn A B → J s B) →
    (∀ pre x W1, J pre W1 → Sp (pre ++ [x]) → YieldAt F (n - 1) P l (encs x) W1 fun e W' => (e = .returned (.bool true) ∧ J (pre ++ [x]) W' ∧ Kp W1 W') ∨ (e = .returned (.bool false) ∧ Jx (pre ++ [x]) W')) →
    J [] W → CallsIn F n P g (#[.func (.yield l) #[] #[]] ++ lb) W fun e W' => (∃ v, e = .returned v) ∧ ((∃ xs, S xs ∧ J xs W') ∨ (∃ pre, Sp pre ∧ Jx pre W'))

variable {F : Fence} {n : Nat} {P : Program} {w : World}

theorem range_turns {α : Type} {g : Operand} {ps : Array Tmp} {assign body : Code} {Q : Exit → Act → World → Prop} {a : Act}
    (hro : F.round = none) (h1 : 1 ≤ n) {gf : Nat} {lb : Array Value} (hg : a.eval g = .func (.func gf) #[] lb) (hFg : F.fn gf) (eg : ∀ args w, (callFunc gf args).run P w = .ok (.enter gf args) w)
    {encs : α → Array Value} {Tn Kp : World → World → Prop} {S Sp : List α → Prop} (hseq : SeqTurns F (n - 1) P gf lb encs Tn Kp S Sp w)
    (hTn : ∀ A B, Tn A B → KeepsOthers A B)
    (hKt : ∀ {A B C : World}, Kp A B → Kp B C → Kp A C) (hKb : ∀ (W : World) (l : Nat) (o o' : Obj), w.heap.size ≤ l → W.heap[l]? = some o → o.isCells = false → o.isWalk = false → Kp W (W.putObj l o')) (hps : ∀ x, (encs x).size = ps.size)
    (I : List α → World → Prop) (Ix : Code → List α → World → Prop) (hI : OwnFrom w.heap.size I) (hIx : ∀ c, OwnFrom w.heap.size (Ix c)) (hIT : ∀ s A B, I s A → Tn A B → I s B) (h0 : I [] w) (a₁ : α → Act)
    (hassign : ∀ (l : Nat) (x : α) (W : World) (K : Act → World → Prop), K (a₁ x) W →
      assign.wpIn (F.inRound l) (n - 1 - 1) P (Exit.then K (fun _ _ _ => False)) { tmps := (ps.zip (encs x)).foldl (fun t (p, v) => t.setIfInBounds p v) a.tmps, defers := [] } W)
    (hbody : ∀ (l : Nat) (pre : List α) (x : α) (W : World), I pre W → Sp (pre ++ [x]) → body.wpIn (F.inRound l) (n - 1 - 1) P (ownPostG w.heap.size Kp I Ix (pre ++ [x]) W) (a₁ x) W)
    (hdone : ∀ (D : Nat) (xs : List α) (W : World), w.heap.size ≤ D → S xs → I xs W → W.heap[D]? = some (.deferred (some [])) → Q .normal { a with defers := { target := .collected D, args := #[] } :: a.defers } W)
    (hstop : ∀ (D : Nat) (c : Code) (pre : List α) (W : World), w.heap.size ≤ D → Sp pre → Ix c pre W → W.heap[D]? = some (.deferred (some [])) → c.wpIn F n P Q { a with defers := { target := .collected D, args := #[] } :: a.defers } W) :
    (Code.rangeFunc g ps assign body).wpIn F n P Q a w := by
  refine wpIn_rangeFunc fun fn hfn => ?_
  rw [hro]
  obtain ⟨D, hD⟩ : ∃ D, D = w.heap.size := ⟨_, rfl⟩
  obtain ⟨R, hR⟩ : ∃ R : LoopState → Option Code → Obj, R = fun st pe => .loop { state := st, pending := pe, fn, tmps := a.tmps, params := ps, assign, body, defers := D } := ⟨_, rfl⟩
  obtain ⟨V, hV⟩ : ∃ V, V = (w.alloc (.deferred (some []))).alloc (R .ready none) := ⟨_, rfl⟩
  have sz : V.heap.size = D + 2 := by rw [hV, hD]; simp
  have bel : Below w.heap.size w V := by rw [hV]; exact ((Below.refl _ w).alloc (Nat.le_refl _) _).alloc (by simp) _
  -- the books: the record in a state, and the block of the rounds' deferred calls
  obtain ⟨Bk, hBk⟩ : ∃ Bk : LoopState → Option Code → World → Prop, Bk = fun st pe W => W.heap[D + 1]? = some (R st pe) ∧ W.heap[D]? = some (.deferred (some [])) := ⟨_, rfl⟩
  have bk0 : Bk .ready none V := by
    rw [hBk, hV, hD]
    refine ⟨?_, (Below.heap_alloc _ _ _ (by simp)).trans (World.alloc_heap_new w _)⟩
    have := World.alloc_heap_new (w.alloc (.deferred (some []))) (R .ready none)
    rwa [World.size_alloc] at this
  have bkF : ∀ st pe A B, KeepsFrom D A B → Bk st pe A → Bk st pe B := fun st pe A B hk h => by
    rw [hBk] at h ⊢
    exact ⟨hk.same _ _ (by omega) h.1 (by rw [hR]; rfl), hk.same _ _ (Nat.le_refl _) h.2 rfl⟩
  have bkW : ∀ st pe (A B : World) (row : Option Nat), A.grownBy B row → (∀ r, row = some r → V.heap.size ≤ r ∧ ∃ o : Obj, A.heap[r]? = some o ∧ o.isWalk = true) → Bk st pe A → Bk st pe B := fun st pe A B row hg hr h => by
    rw [hBk] at h ⊢
    exact ⟨(grownBy_keeps hg (fun r e => (hr r e).2) h.1 (by rw [hR]; rfl)).trans h.1, (grownBy_keeps hg (fun r e => (hr r e).2) h.2 rfl).trans h.2⟩
  have bkP : ∀ st pe st' pe' (A : World), Bk st pe A → Bk st' pe' (A.putObj (D + 1) (R st' pe')) := fun st pe st' pe' A h => by
    rw [hBk] at h ⊢
    exact ⟨World.putObj_heap_same (Array.getElem?_eq_some_iff.1 h.1).1, (World.putObj_heap_other (by omega)).trans h.2⟩
  have ownW : ∀ {β : Type} (I' : β → World → Prop), OwnFrom D I' → ∀ s st pe st' pe' (A : World), Bk st pe A → I' s A → I' s (A.putObj (D + 1) (R st' pe')) := fun I' hI' s st pe st' pe' A hb hi => by
    rw [hBk] at hb
    exact hI'.putObj _ hi (by omega) hb.1 (by rw [hR]; rfl)
  have rows : ∀ {A : World} {row : Option Nat}, (∀ r, row = some r → V.heap.size ≤ r ∧ ∃ o : Obj, A.heap[r]? = some o ∧ o.isWalk = true) → (∀ r, row = some r → D ≤ r ∧ ∃ o : Obj, A.heap[r]? = some o ∧ o.isCells = false) := fun hr r e => by
    obtain ⟨h, o, ho, hw⟩ := hr r e
    exact ⟨by omega, o, ho, Obj.not_cells_of_walk hw⟩
  rw [← hD] at hI hIx hKb hbody hdone hstop
  refine ⟨D + 1, [{ target := .collected D, args := #[] }], V, { target := .fn (.func gf) lb, args := #[.func (.yield (D + 1)) #[] #[]] }, V, gf, #[.func (.yield (D + 1)) #[] #[]] ++ lb, V, ?_, ?_, ?_, ?_, fun _ => h1, ?_⟩
  · rw [hV, hR, hD]; exact run_enterLoop_outer _ _ _ _ _
  · simp only [resolve, hg]
    simp [go_sem]
  · intro f' hf'
    simp [Target.leads] at hf'
    subst hf'
    exact hFg
  · simp [invoke, go_sem, eg]
  refine (hseq (D + 1) (fun pre W => I pre W ∧ Bk .ready none W) (fun pre W => ∃ c, Ix c pre W ∧ Bk .done (some c) W) V bel
    (fun s A B row hs hg' hr => ⟨hI s A B row hs.1 hg' (rows hr), bkW _ _ A B row hg' hr hs.2⟩)
    (fun s A B row hs hg' hr => hs.elim fun c hc => ⟨c, hIx c s A B row hc.1 hg' (rows hr), bkW _ _ A B row hg' hr hc.2⟩)
    (fun s A B hs ht => ⟨hIT s A B hs.1 ht, bkF _ _ A B ((hTn A B ht).from D) hs.2⟩) ?_ ⟨by rw [hV]; exact hI.alloc _ (hI.alloc _ h0), bk0⟩).mono ?_
  · rintro pre x W ⟨hi, hb⟩ hlen
    have hl : W.heap[D + 1]? = some (.loop { state := .ready, pending := none, fn, tmps := a.tmps, params := ps, assign, body, defers := D }) := by rw [hBk, hR] at hb; exact hb.1
    refine ⟨fn, _, assign, body, run_yield hl (hps x), roundIn_of_wpIn hfn (hassign _ x W _ ⟨W.putObj (D + 1) (R .busy none), by rw [hR]; exact run_beginRound hl rfl, ?_⟩)⟩
    have hb2 := bkP _ _ .busy none W hb
    have hk2 : Kp W (W.putObj (D + 1) (R .busy none)) := hKb _ _ _ _ (by omega) hl rfl rfl
    refine wpIn_mono (hbody _ pre x _ (ownW I hI pre _ _ _ _ W hb hi) hlen) ?_
    have fin : ∀ (jump : Option Code) (W3 : World), KeepsFrom D (W.putObj (D + 1) (R .busy none)) W3 →
        (Instr.endRound (D + 1) jump).run P W3 = .ok (.bool jump.isNone) (W3.putObj (D + 1) (R (if jump.isNone then .ready else .done) jump)) ∧ Bk .busy none W3 := fun jump W3 hk => by
      have hb3 := bkF _ _ _ _ hk hb2
      refine ⟨?_, hb3⟩
      rw [hBk, hR] at hb3
      rw [hR]
      exact run_endRound jump hb3.1
    have hlO : ∀ W3, Bk .busy none W3 → W3.heap[D + 1]? = some (R .busy none) := fun W3 h => by rw [hBk] at h; exact h.1
    have hRc : ∀ st pe, (R st pe).isCells = false ∧ (R st pe).isWalk = false := fun st pe => by rw [hR]; exact ⟨rfl, rfl⟩
    rintro e a3 W3 hp
    cases e with
    | normal =>
      obtain ⟨hk3, hkp3, hi3⟩ := hp
      obtain ⟨hr, hb3⟩ := fin none W3 hk3
      exact ⟨_, _, hr, .inl ⟨rfl, ⟨ownW I hI _ _ _ _ _ W3 hb3 hi3, bkP _ _ _ _ W3 hb3⟩, hKt (hKt hk2 hkp3) (hKb _ _ _ _ (by omega) (hlO W3 hb3) (hRc _ _).1 (hRc _ _).2)⟩⟩
    | ret =>
      obtain ⟨hk3, hi3⟩ := hp
      obtain ⟨hr, hb3⟩ := fin (some .ret) W3 hk3
      exact ⟨_, _, hr, .inr ⟨rfl, _, ownW (Ix _) (hIx _) _ _ _ _ _ W3 hb3 hi3, bkP _ _ _ _ W3 hb3⟩⟩
    | exit id =>
      obtain ⟨hk3, hi3⟩ := hp
      obtain ⟨hr, hb3⟩ := fin (some (.exit id)) W3 hk3
      exact ⟨_, _, hr, .inr ⟨rfl, _, ownW (Ix _) (hIx _) _ _ _ _ _ W3 hb3 hi3, bkP _ _ _ _ W3 hb3⟩⟩
    | goto t =>
      obtain ⟨hk3, hi3⟩ := hp
      obtain ⟨hr, hb3⟩ := fin (some (.goto t)) W3 hk3
      exact ⟨_, _, hr, .inr ⟨rfl, _, ownW (Ix _) (hIx _) _ _ _ _ _ W3 hb3 hi3, bkP _ _ _ _ W3 hb3⟩⟩
    | panic ch => exact hp.elim
    | outgrown => exact hp.elim
  · have ends : ∀ st pe (W : World), st ≠ .busy → Bk st pe W → (Instr.endLoop (D + 1)).run P W = .ok pe (W.putObj (D + 1) (R .exhausted pe)) := fun st pe W hst hb => by
      rw [hBk, hR] at hb
      rw [hR]
      exact run_endLoop hb.1 hst
    have dd : ∀ st pe (W : World), Bk st pe W → (W.putObj (D + 1) (R .exhausted pe)).heap[D]? = some (.deferred (some [])) := fun st pe W hb => by
      rw [hBk] at hb
      exact (World.putObj_heap_other (by omega)).trans hb.2
    rintro e W2 ⟨⟨v, rfl⟩, (⟨xs, hS, hi, hb⟩ | ⟨pre, hSp, c, hi, hb⟩)⟩
    · exact ⟨none, _, ends _ _ W2 (by simp) hb, hdone _ xs _ (Nat.le_refl _) hS (ownW I hI _ _ _ _ _ W2 hb hi) (dd _ _ W2 hb)⟩
    · exact ⟨some c, _, ends _ _ W2 (by simp) hb, hstop _ c pre _ (Nat.le_refl _) hSp (ownW (Ix c) (hIx c) _ _ _ _ _ W2 hb hi) (dd _ _ W2 hb)⟩

end Go.Proofs.YtjcphpmlekfhdaaGreatDoor

/- What a vault's records are told as, one by one; between two of them. No condition. -/
namespace Go.Proofs.YtjcphpmlekfhdaaGreatDoor
open Go.RowKit Go.Shelf

set_option maxRecDepth 100000 in
set_option maxHeartbeats 4000000 in
theorem bytesEqual_any {A B : Option Addr} {n c m d : Nat} {L M : List Nat} (w : World) (hA : Bs w A n L) (hB : Bs w B m M) :
    Calls Tryz.prog 70 #[.slice A n c, .slice B m d] w fun e w' => e = .returned (.bool (decide (L = M))) ∧ w' = w := by
  have r1 := run_str (c := c) hA
  have r2 := run_str (c := d) hB
  have e1 := str_dec hA.byt hB.byt
  obtain ⟨q, hq⟩ : ∃ q, decide (L = M) = q := ⟨_, rfl⟩
  rw [hq] at e1 ⊢
  obtain ⟨S, hS⟩ : ∃ S, strB L = S := ⟨_, rfl⟩
  obtain ⟨T, hT⟩ : ∃ S, strB M = S := ⟨_, rfl⟩
  rw [hS] at r1 e1
  rw [hT] at r2 e1
  clear hA hB hq hS hT
  go_enter Tryz.func70, Tryz.ntmps70
  go_wp2_with fail
  go_ret
  exact ⟨rfl, rfl⟩

/-- A record that is told: its address, its room, its bytes. -/
abbrev Tr := Option Addr × Nat × List Nat
def trV (x : Tr) : Array Value := #[.slice x.1 x.2.2.length x.2.1]
/-- It is a part of those bytes. -/
def Sub (A : Option Addr) (cap : Nat) (L : List Nat) (x : Tr) : Prop := ∃ p, p + x.2.2.length ≤ L.length ∧ x.2.2 = (L.drop p).take x.2.2.length ∧ x.2.1 = cap - p ∧ (0 < x.2.2.length → x.1 = A.map fun a => a.add p)
theorem Sub.bs {A : Option Addr} {cap : Nat} {L : List Nat} {x : Tr} {W : World} (h : Sub A cap L x) (hb : Bs W A L.length L) (hc : L.length ≤ cap) : Bs W x.1 x.2.2.length x.2.2 := by
  obtain ⟨p, h1, h2, h3, h4⟩ := h
  by_cases e : x.2.2.length = 0
  · rw [List.length_eq_zero_iff.1 e]
    exact Bs.nil _ _
  · have := hb.cut (k := p) (m := x.2.2.length) h1 hc
    rw [← h2] at this
    rw [h4 (by omega)]
    by_cases e2 : cap = p
    · omega
    · rwa [if_neg e2] at this
def TellsR (g : Nat) (A : Option Addr) (cap : Nat) (L : List Nat) (pre : List Tr) : Prop := (∃ t, pre.map (·.2.2) ++ t = recsS g L) ∧ ∀ x ∈ pre, Sub A cap L x
def AllR (g : Nat) (A : Option Addr) (cap : Nat) (L : List Nat) (pre : List Tr) : Prop := pre.map (·.2.2) = recsS g L ∧ ∀ x ∈ pre, Sub A cap L x

/-- What a round keeps: the blocks of a set, as they are. -/
def Kq (Q : Nat → Prop) (W W' : World) : Prop := ∀ k, Q k → W'.heap[k]? = W.heap[k]?
theorem kq_t {Q : Nat → Prop} {A B C : World} (h : Kq Q A B) (k : Kq Q B C) : Kq Q A C := fun i hi => (k i hi).trans (h i hi)
theorem kq_b {Q : Nat → Prop} {w : World} (hQ : ∀ k, Q k → k < w.heap.size) (W : World) (l : Nat) (o o' : Obj) (hl : w.heap.size ≤ l) (_h : W.heap[l]? = some o) (_h1 : o.isCells = false) (_h2 : o.isWalk = false) : Kq Q W (W.putObj l o') :=
  fun k hk => World.putObj_heap_other (by have := hQ k hk; omega)
theorem Bs.kept {W W' : World} {A : Option Addr} {n : Nat} {L : List Nat} (h : Bs W A n L) (hk : 0 < n → ∀ a, A = some a → W'.heap[a.block]? = W.heap[a.block]?) : Bs W' A n L :=
  ⟨h.len, h.byt, fun hn => by
    obtain ⟨a, e, hb, hc⟩ := h.cel hn
    have hs := hk hn a e
    refine ⟨a, e, ?_, fun k hk' => ?_⟩
    · have : W'.heap[a.block]? = some W.heap[a.block] := by rw [hs, Array.getElem?_eq_getElem hb]
      exact (Array.getElem?_eq_some_iff.1 this).1
    · rw [← hc k hk']
      exact World.cell?_of_block (by rw [add_block]; exact hs)⟩

/-- The iterator makes memory and turns its box. -/
structure Tw (Bx : Nat) (W W' : World) : Prop where
  oth : KeepsOthers W W'
  blk : ∀ k, k < W.heap.size → k ≠ Bx → W'.heap[k]? = W.heap[k]?
  below : ∀ m, m ≤ Bx → m ≤ W.heap.size → Below m W W'
theorem Tw.of {Bx : Nat} {W W' : World} (h : Below W.heap.size W W') : Tw Bx W W' :=
  ⟨⟨h.size, fun k o hk _ => (h.block k (Array.getElem?_eq_some_iff.1 hk).1).trans hk⟩, fun k hk _ => h.block k hk, fun m _ hm => h.mono hm⟩
theorem Tw.set (Bx : Nat) (W : World) (v : Value) : Tw Bx W (W.setCell ⟨Bx, 0, none⟩ v) :=
  ⟨KeepsOthers.setCell _ _ _, fun k _ hk => Below.heap_setCell _ _ _ _ hk, fun m hm _ => (Below.refl m W).setCell (p := ⟨Bx, 0, none⟩) hm _⟩
theorem Tw.trans {Bx : Nat} {A B C : World} (h : Tw Bx A B) (k : Tw Bx B C) : Tw Bx A C :=
  ⟨h.oth.trans k.oth, fun i hi hne => (k.blk i (Nat.lt_of_lt_of_le hi h.oth.size) hne).trans (h.blk i hi hne), fun m hm hs => (h.below m hm hs).trans (k.below m hm (Nat.le_trans hs h.oth.size))⟩
theorem Laid.kept {W W' : World} (h : Laid W) (h0 : W'.heap[0]? = W.heap[0]?) (h1 : W'.heap[1]? = W.heap[1]?) : Laid W' := by
  obtain ⟨T, fr, e⟩ := h.start
  obtain ⟨T', fr', e'⟩ := h.roots
  exact ⟨⟨T, fr, h0.trans e⟩, ⟨T', fr', h1.trans e'⟩⟩

/-- Between two rounds of the iterator. -/
structure WAt (g : Nat) (A : Option Addr) (len cap Bx Gx : Nat) (L : List Nat) (J : List Tr → World → Prop) (wr : World) (pre : List Tr) (p f : Nat) (A' : Option Addr) : Prop where
  all : pre.map (·.2.2) ++ wholeS g f pre.length (L.drop p) = recsS g L
  ok : ∀ x ∈ pre, Sub A cap L x
  le : p ≤ len
  many : 36 * pre.length ≤ p
  fu : len + 1 ≤ f + p
  adr : p < len → A' = A.map fun a => a.add p
  blk : ∀ a, A' = some a → ∃ b, A = some b ∧ a.block = b.block
  inv : J pre wr
  box : Boxed wr Bx 40 (.slice A' (len - p) (cap - p))
  gen : Boxed wr Gx 49 (.int .u64 (g : Nat))
  rd : Bs wr A len L
  laid : Laid wr
section
variable {g : Nat} {A : Option Addr} {len cap Bx Gx : Nat} {L : List Nat} {J : List Tr → World → Prop} {wr : World} {pre : List Tr} {p f : Nat} {A' : Option Addr}
theorem WAt.reads (h : WAt g A len cap Bx Gx L J wr pre p f A') (hc : len ≤ cap) : Bs wr A' (len - p) (L.drop p) := by
  have hl := h.rd.len
  by_cases e : p = len
  · subst e
    rw [Nat.sub_self, List.drop_of_length_le (by omega)]
    exact Bs.nil _ _
  · have hp := h.le
    have := h.rd.cut (k := p) (m := len - p) (by omega) hc
    rw [if_neg (by omega), List.take_of_length_le (by rw [List.length_drop]; omega)] at this
    rw [h.adr (by omega)]
    exact this
/-- A part of what is left. -/
theorem WAt.part (h : WAt g A len cap Bx Gx L J wr pre p f A') (hc : len ≤ cap) {k m : Nat} (hk : k + m ≤ len - p) (hm : 0 < m) : Bs wr (A'.map fun a => a.add k) m (((L.drop p).drop k).take m) := by
  have := (h.reads hc).cut (k := k) (m := m) (c := cap - p) hk (by omega)
  rwa [if_neg (by omega)] at this
/-- The next record that is told. -/
theorem WAt.tells (h : WAt g A len cap Bx Gx L J wr pre p (f + 1) A') {r : List Nat} (hr : firstS g pre.length (L.drop p) = some r) (hn : r.length ≤ len - p - 36) (hn2 : 36 ≤ len - p) (hcap : len ≤ cap) {X : Option Addr} {c : Nat} (hX : X = A'.map fun a => a.add 4) (hc : c = cap - p - 4) : TellsR g A cap L (pre ++ [(X, c, r)]) := by
  have ha := h.all
  have hl := h.rd.len
  rw [wholeS, hr] at ha
  refine ⟨⟨wholeS g f (pre.length + 1) ((L.drop p).drop (36 + r.length)), ?_⟩, fun x hx => ?_⟩
  · rw [← ha, List.map_append, List.append_assoc]; rfl
  · rcases List.mem_append.1 hx with hx | hx
    · exact h.ok x hx
    · obtain rfl := List.mem_singleton.1 hx
      refine ⟨p + 4, by show p + 4 + r.length ≤ L.length; omega, ?_, by show c = cap - (p + 4); omega, fun _ => ?_⟩
      · unfold firstS at hr
        split at hr
        · cases hr
        · split at hr
          · cases hr
          · rename_i h1 h2
            split at hr
            · injection hr with hr
              have e : r.length = num ((L.drop p).take 4) := by rw [← hr, List.length_take, List.length_drop, List.length_drop]; rw [List.length_drop] at h1 h2; omega
              show r = (L.drop (p + 4)).take r.length
              rw [e, ← hr, List.drop_drop]
            · cases hr
      · show X = A.map fun a => a.add (p + 4)
        rw [hX, h.adr (by omega)]
        cases A with
        | none => rfl
        | some a => simp only [Option.map_some, add_add']
theorem WAt.next (h : WAt g A len cap Bx Gx L J wr pre p (f + 1) A') {r : List Nat} (hr : firstS g pre.length (L.drop p) = some r) (hn2 : 36 + r.length ≤ len - p) (hcap : len ≤ cap) {x : Tr} (hx : x.2.2 = r) (ht : TellsR g A cap L (pre ++ [x])) {W3 : World} {A'' : Option Addr}
    (hA : (cap - p ≤ 36 + r.length ∧ A'' = A') ∨ (36 + r.length < cap - p ∧ A'' = A'.map fun a => a.add (36 + r.length))) {m z : Nat} (hm : m = len - p - (36 + r.length)) (hz : z = cap - p - (36 + r.length))
    (hne : 0 < len → ∀ a, A = some a → a.block ≠ Bx) (hG : Gx ≠ Bx) (hB : 2 ≤ Bx) {v : Value} (bx : Boxed W3 Bx 40 v) (gn : Boxed W3 Gx 49 (.int .u64 (g : Nat))) (rd : Bs W3 A len L) (ld : Laid W3) (hJ : J (pre ++ [x]) (W3.setCell ⟨Bx, 0, none⟩ (.slice A'' m z))) :
    WAt g A len cap Bx Gx L J (W3.setCell ⟨Bx, 0, none⟩ (.slice A'' m z)) (pre ++ [x]) (p + (36 + r.length)) f A'' := by
  have ha := h.all
  have hl := rd.len
  have hp := h.le
  have hf := h.fu
  have hmn := h.many
  subst hm hz
  rw [wholeS, hr] at ha
  simp only at ha
  refine ⟨?_, ht.2, by omega, by rw [List.length_append, List.length_singleton]; omega, by omega, fun hlt => ?_, fun a e => ?_, hJ, ?_, ?_, rd.kept fun hn a e => Below.heap_setCell _ _ _ _ (hne hn a e), ld.kept (Below.heap_setCell _ _ _ _ (by show (0 : Nat) ≠ Bx; omega)) (Below.heap_setCell _ _ _ _ (by show (1 : Nat) ≠ Bx; omega))⟩
  · rw [← ha, List.map_append, List.append_assoc, List.length_append, List.length_singleton, List.drop_drop, ← hx]
    rfl
  · rcases hA with ⟨hc, _⟩ | ⟨_, e⟩
    · omega
    · rw [e, h.adr (by omega)]
      cases A with
      | none => rfl
      | some a => simp only [Option.map_some, add_add']
  · rcases hA with ⟨_, e2⟩ | ⟨_, e2⟩
    · exact h.blk a (by rw [← e2]; exact e)
    · rw [e2] at e
      cases A' with
      | none => cases e
      | some a' =>
        injection e with e
        subst e
        obtain ⟨b, e1, e2⟩ := h.blk a' rfl
        exact ⟨b, e1, (add_block _ _).trans e2⟩
  · have := bx.set (.slice A'' (len - p - (36 + r.length)) (cap - p - (36 + r.length)))
    rw [show len - (p + (36 + r.length)) = len - p - (36 + r.length) by omega, show cap - (p + (36 + r.length)) = cap - p - (36 + r.length) by omega]
    exact this
  · exact (Below.heap_setCell _ _ _ _ hG).trans gn
end
end Go.Proofs.YtjcphpmlekfhdaaGreatDoor

/- What stands in a file: what is answered of it; the files that are none. No condition but bounds on the lengths. -/
namespace Go.Proofs.YtjcphpmlekfhdaaGreatDoor
open Go.RowKit

/-- A file's contents as they are told. -/
def contV (g : Nat) (v : Value) (good : Nat) : Value := .agg #[.int .u64 (g : Nat), v, .int .i64 (good : Nat)]
def ContP (w : World) (f : Nat) (L : List Nat) (e : Ending) (W : World) : Prop :=
  Below w.heap.size w W ∧ ∃ g A m c good, e = .returned (.tuple #[contV g (.slice A m c) good, .bool (soundS f L).isSome]) ∧
    ∀ x, soundS f L = some x → g = x.1 ∧ good = x.2.2 ∧ OwnRw 40 1 ByR w (fun b => w.heap.size ≤ b) (.slice A m c) x.2.1.length x.2.1 W
theorem ContP.none_ {w W : World} {f : Nat} {L : List Nat} {g good m c : Nat} {A : Option Addr} (b : Below w.heap.size w W) (h : soundS f L = none) : ContP w f L (.returned (.tuple #[contV g (.slice A m c) good, .bool false])) W :=
  ⟨b, g, A, m, c, good, by rw [h]; rfl, fun x e => by rw [h] at e; cases e⟩

theorem rowContent : IsRow 83 3 := ⟨.inl ⟨_, Tryz.underlying83⟩, by kernel_rfl⟩
/-- The answer, read out of its box. -/
theorem results_content {tmps : Array Value} {b : Nat} {vs : List Value} {v u : Value} {w : World} (hp : tmps.getD 4 undef = .pointer (some ⟨b, 0, none⟩)) (hr : Ro w b 83 vs) (hl : vs.length = 3) (hu : tmps.getD 5 undef = u := by rfl) (hv : v = .tuple #[.agg vs.toArray, u] := by rfl) :
    (results Tryz.f29 tmps).run Tryz.prog w = .ok v w := by
  have key : (loadVar 83 ⟨b, 0, none⟩).run Tryz.prog w = .ok (.agg vs.toArray) w := by
    obtain ⟨⟨f, h1⟩ | ⟨j, e, h1⟩, h3⟩ := rowContent
    · exact run_loadVar_row w b _ 83 vs.toArray (0, 0) _ hr h1 rfl (by rw [h3]; simp [hl])
    · exact run_loadVar_row w b _ 83 vs.toArray (0, 0) _ hr h1 rfl (by rw [h3]; simp [hl])
  rw [results_cell_tmp (p := 4) (u := 5) (ty := 83) (by kernel_rfl), hp, hu, hv]
  simp [asAddr, Sem.run_pure, Result.andThen, key]

set_option maxRecDepth 100000 in
set_option maxHeartbeats 1000000 in
theorem content_short {A : Option Addr} {n c f : Nat} {L : List Nat} (w : World) (hL : Bs w A n L) (hn : n < 44) :
    Calls Tryz.prog 29 #[.slice A n c, .int .i64 (f : Nat)] w (ContP w f L) := by
  have hs := Lib.hid (soundS_short (f := f) (s := L) (by rw [hL.len]; exact hn))
  have t1 : decide ((n : Int) < 44) = true := decide_eq_true (by omega)
  clear hL
  go_enter Tryz.func29, Tryz.ntmps29
  go_wp2_with fail
  go_returns
  exact ContP.none_ (by first | exact Below.setCell (p := ⟨w.heap.size, 2, none⟩) (Below.setCell (p := ⟨w.heap.size, 1, none⟩) (Below.setCell (p := ⟨w.heap.size, 0, none⟩) (Below.alloc (Below.refl _ _) (Nat.le_refl _) _) (Nat.le_refl _) _) (Nat.le_refl _) _) (Nat.le_refl _) _ | exact Below.alloc (Below.refl _ _) (Nat.le_refl _) _ | trace_state) hs.out
end Go.Proofs.YtjcphpmlekfhdaaGreatDoor

/- What contentOf keeps between two records. No condition. -/
namespace Go.Proofs.YtjcphpmlekfhdaaGreatDoor
open Go.RowKit

theorem elemB : ElemT 39 40 1 24 (.slice none 0 0) := ⟨by kernel_rfl, by kernel_rfl, rfl, by decide⟩
/-- A row of the call's own, where its block and those of its elements lie as they lay. -/
theorem OwnRw.same {α : Type} {T : TypeId} {sz : Nat} {R : Reads α} (M : Mono R) {w0 W W' : World} {P : Nat → Prop} {v : Value} {n : Nat} {l : List α} (h : OwnRw T sz R w0 P v n l W) (g : Kept (fun b => P b ∨ v.ownBlock = some b) W W') (b : Below w0.heap.size w0 W') : OwnRw T sz R w0 P v n l W' := by
  obtain ⟨cs, h1, h2, h3⟩ := h.row
  refine ⟨⟨cs, ⟨h1.1, ?_⟩, h2.imp fun V x hx => M.keep hx ⟨g.size, fun b hb hl => g.blk b (.inl hb.1) hl⟩, h3⟩, h.len, b⟩
  rcases h1.2 with e | ⟨q, cap, cur, hv, hb, hh, r⟩
  · exact .inl e
  · exact .inr ⟨q, cap, cur, hv, hb, (g.blk q (.inr (by rw [hv]; rfl)) (Array.getElem?_eq_some_iff.1 hh).1).trans hh, r⟩
/-- Blocks of cells, but for one, lie as they lay; and so do all below s. -/
structure Keeps (s Bx : Nat) (W W' : World) : Prop where
  size : W.heap.size ≤ W'.heap.size
  cells : ∀ k o, k ≠ Bx → W.heap[k]? = some o → o.isCells = true → W'.heap[k]? = some o
  below : Below s W W'
theorem Keeps.of_grown {s Bx : Nat} {W W' : World} {row : Option Nat} (hs : s ≤ W.heap.size) (hg : W.grownBy W' row) (hr : ∀ r, row = some r → s ≤ r ∧ ∃ o : Obj, W.heap[r]? = some o ∧ o.isCells = false) : Keeps s Bx W W' :=
  ⟨hg.size, fun k o _ hk hc => by rw [grownBy_keeps_cells hg (fun r e => (hr r e).2) hk hc, hk], ⟨hg.os, hg.tape, hg.output, hg.size, fun k hk => hg.block k (by omega) (fun e => by have := (hr k e.symm).1; omega)⟩⟩
theorem Keeps.of_tw {s Bx : Nat} {W W' : World} (hs : s ≤ Bx) (hW : s ≤ W.heap.size) (h : Tw Bx W W') : Keeps s Bx W W' :=
  ⟨h.oth.size, fun k o hk ho _ => by rw [h.blk k (Array.getElem?_eq_some_iff.1 ho).1 hk, ho], h.below s hs hW⟩
/-- Blocks of cells that are none of the boxes. -/
def cellP (s Cb Bx : Nat) (W : World) (b : Nat) : Prop := s < b ∧ b ≠ Cb ∧ b ≠ Bx ∧ ∃ o, W.heap[b]? = some o ∧ o.isCells = true
/-- Between two records: the result's box, the contents' box, the records. -/
structure CntJ (w : World) (Cb Bx g : Nat) (l : List (List Nat)) (v : Value) (W : World) : Prop where
  res : Ro W w.heap.size 83 [.int .u64 0, .slice none 0 0, .int .i64 0]
  box : Ro W Cb 83 [.int .u64 (g : Nat), v, .int .i64 ((44 + wideS l : Nat) : Int)]
  own : OwnRw 40 1 ByR w (cellP w.heap.size Cb Bx W) v l.length l W
  new : ∀ q, v.ownBlock = some q → w.heap.size < q ∧ q ≠ Cb ∧ q ≠ Bx ∧ q ≠ Bx + 1
  size : Bx + 1 < W.heap.size
section
variable {w W W' : World} {Cb Bx g : Nat} {l : List (List Nat)} {v : Value}
theorem CntJ.bel (h : CntJ w Cb Bx g l v W) : Below w.heap.size w W := h.own.bel
theorem OwnRw.cellsBlock {α : Type} {T : TypeId} {sz : Nat} {R : Reads α} {w0 W : World} {P : Nat → Prop} {n : Nat} {l : List α} (h : OwnRw T sz R w0 P v n l W) {q : Nat} (hq : v.ownBlock = some q) : ∃ o, W.heap[q]? = some o ∧ o.isCells = true := by
  obtain ⟨cs, h1, _⟩ := h.row
  rcases h1.2 with ⟨rfl, _⟩ | ⟨g, cap, cur, rfl, _, hh, _⟩
  · cases hq
  · injection hq with hq
    subst hq
    exact ⟨_, hh, rfl⟩
/-- No element lies in the row itself. -/
theorem OwnRw.apart {α : Type} {T : TypeId} {sz : Nat} {R : Reads α} (M : Mono R) {w0 W : World} {P : Nat → Prop} {n : Nat} {l : List α} (h : OwnRw T sz R w0 P v n l W) : OwnRw T sz R w0 (fun b => P b ∧ some b ≠ v.ownBlock) v n l W := by
  obtain ⟨cs, h1, h2, h3⟩ := h.row
  exact ⟨⟨cs, h1, h2.imp fun V x hx => M.weak hx fun b hb _ => ⟨hb, hb.2⟩, h3⟩, h.len, h.bel⟩
theorem CntJ.keep (h : CntJ w Cb Bx g l v W) (hC : Cb ≠ Bx) (hB : w.heap.size < Bx) (k : Keeps w.heap.size Bx W W') : CntJ w Cb Bx g l v W' := by
  have hb : Below w.heap.size w W' := h.bel.trans k.below
  have O := h.own.same byM (W' := W') ⟨k.size, fun b hb hl => by
    rcases hb with hb | hb
    · obtain ⟨o, ho, hc⟩ := hb.2.2.2
      rw [k.cells b o hb.2.2.1 ho hc, ho]
    · obtain ⟨o, ho, hc⟩ := h.own.cellsBlock hb
      rw [k.cells b o (h.new b hb).2.2.1 ho hc, ho]⟩ hb
  have O2 := OwnRw.weak (Q := cellP w.heap.size Cb Bx W') byM O fun b hb hl => by
    obtain ⟨h1, h2, h3, o, ho, hc⟩ := hb
    exact ⟨h1, h2, h3, o, k.cells b o h3 ho hc, hc⟩
  exact ⟨k.cells _ _ (by omega) h.res rfl, k.cells _ _ hC h.box rfl, O2, h.new, Nat.lt_of_lt_of_le h.size k.size⟩
theorem CntJ.later (h : CntJ w Cb Bx g l v W) (hC : Cb ≠ Bx) (hB : w.heap.size < Bx) (b : Below W.heap.size W W') : CntJ w Cb Bx g l v W' :=
  h.keep hC hB ⟨b.size, fun k _ _ hk _ => (b.block k (Array.getElem?_eq_some_iff.1 hk).1).trans hk, b.mono h.bel.size⟩
/-- What an iteration leaves. -/
def Kx (D : Nat) (Q : Nat → Prop) (W W' : World) : Prop := KeepsFrom D W W' ∧ Kq Q W W'
theorem Kx.trans {D : Nat} {Q : Nat → Prop} {A B C : World} (h : Kx D Q A B) (k : Kx D Q B C) : Kx D Q A C := ⟨h.1.trans k.1, kq_t h.2 k.2⟩
theorem Kx.below {D : Nat} {Q : Nat → Prop} (hQ : ∀ k, Q k → k < W.heap.size) (b : Below W.heap.size W W') : Kx D Q W W' :=
  ⟨⟨b.size, fun k o _ hk _ => by rw [b.block k (Array.getElem?_eq_some_iff.1 hk).1]; exact hk⟩, fun k hk => b.block k (hQ k hk)⟩
theorem Kx.set {D : Nat} {Q : Nat → Prop} (W : World) (a : Addr) (x : Value) (h : ¬ Q a.block) : Kx D Q W (W.setCell a x) :=
  ⟨(KeepsOthers.setCell W a x).from _, fun k hk => Below.heap_setCell W a x k (fun e => h (by rw [← e]; exact hk))⟩
theorem Kx.row {D : Nat} {Q : Nat → Prop} {α : Type} {T : TypeId} {sz : Nat} {R : Reads α} {w0 : World} {P : Nat → Prop} {n : Nat} {l : List α} (hr : OwnRw T sz R w0 P v n l W) (hg : W.grownBy W' v.ownBlock) (hQ : ∀ k, Q k → k < W.heap.size ∧ v.ownBlock ≠ some k) : Kx D Q W W' :=
  ⟨(KeepsOthers.of_grownBy hg fun j o ej hj => by
    obtain ⟨o', h1, h2⟩ := hr.cellsBlock ej
    have hj' : W.heap[j]? = some o := hj
    rw [h1] at hj'
    injection hj' with hj'
    subst hj'
    exact h2).from _, fun k hk => hg.block k (hQ k hk).1 (fun e => (hQ k hk).2 e.symm)⟩
/-- A record more: the row has grown, the box is turned. -/
theorem CntJ.next (J : CntJ w Cb Bx g l v W) (hCw : w.heap.size < Cb) (hCs : Cb < W.heap.size) {v6 : Value} {W6 : World} {r : List Nat} (O : OwnRw 40 1 ByR w (fun b => cellP w.heap.size Cb Bx W b ∧ some b ≠ v.ownBlock) v6 (l.length + 1) (l ++ [r]) W6) (hg : W.grownBy W6 v.ownBlock) (hn : v6.ownBlock = v.ownBlock ∨ v6.ownBlock = some W.heap.size) :
    CntJ w Cb Bx g (l ++ [r]) v6 ((W6.setCell ⟨Cb, 1, none⟩ v6).setCell ⟨Cb, 2, none⟩ (.int .i64 ((44 + wideS (l ++ [r]) : Nat) : Int))) := by
  have h6 : ∀ q, v6.ownBlock = some q → w.heap.size < q ∧ q ≠ Cb ∧ q ≠ Bx ∧ q ≠ Bx + 1 := fun q hq => by
    rcases hn with e | e
    · exact J.new q (by rw [← e]; exact hq)
    · rw [e] at hq
      injection hq with hq
      have := J.size
      have := J.bel.size
      exact ⟨by omega, by omega, by omega, by omega⟩
  have res6 : Ro W6 w.heap.size _ _ := J.res.far hg (fun e => by have := (J.new _ e.symm).1; omega)
  have box6 : Ro W6 Cb _ _ := J.box.far hg (fun e => by have := (J.new _ e.symm).2.1; omega)
  have b7 := (box6.set 1 v6).set 2 (.int .i64 ((44 + wideS (l ++ [r]) : Nat) : Int))
  have kp : ∀ b, b ≠ Cb → ((W6.setCell ⟨Cb, 1, none⟩ v6).setCell ⟨Cb, 2, none⟩ (.int .i64 ((44 + wideS (l ++ [r]) : Nat) : Int))).heap[b]? = W6.heap[b]? := fun b hb =>
    (Below.heap_setCell _ ⟨Cb, 2, none⟩ _ b hb).trans (Below.heap_setCell _ ⟨Cb, 1, none⟩ _ b hb)
  have sz : ((W6.setCell ⟨Cb, 1, none⟩ v6).setCell ⟨Cb, 2, none⟩ (.int .i64 ((44 + wideS (l ++ [r]) : Nat) : Int))).heap.size = W6.heap.size := by simp [World.setCell]
  have O7 := O.same byM (W' := (W6.setCell ⟨Cb, 1, none⟩ v6).setCell ⟨Cb, 2, none⟩ (.int .i64 ((44 + wideS (l ++ [r]) : Nat) : Int))) ⟨by rw [sz]; exact Nat.le_refl _, fun b hb _ => by
    rcases hb with hb | hb
    · exact kp b hb.1.2.1
    · exact kp b (h6 b hb).2.1⟩ ((O.bel.setCell (p := ⟨Cb, 1, none⟩) (Nat.le_of_lt hCw) _).setCell (p := ⟨Cb, 2, none⟩) (Nat.le_of_lt hCw) _)
  refine ⟨res6.same (kp _ (by omega)), b7, ?_, h6, by rw [sz]; exact Nat.lt_of_lt_of_le J.size hg.size⟩
  rw [List.length_append, List.length_singleton]
  refine OwnRw.weak byM O7 fun b hb hl => ?_
  obtain ⟨⟨h1, h2, h3, o, ho, hc⟩, hne⟩ := hb
  exact ⟨h1, h2, h3, o, (kp b h2).trans ((hg.block b (Array.getElem?_eq_some_iff.1 ho).1 hne).trans ho), hc⟩
end
theorem range_one (w : World) (T : TypeId) (u : Value) : (w.alloc (.cells #[u] T)).rangeAt w.heap.size 0 [u] := fun j v hj => by
  have := (List.getElem?_eq_some_iff.1 hj).1
  obtain rfl : j = 0 := by simpa using this
  exact (Ro.new w T [u]).cell hj
theorem step_wp {P : Program} {w : World} {o : Oper} {ops : Array Oper} {a : Act} {Q : Exit → Act → World → Prop} {K : Act → World → Prop} {E : Prop} (hg : o.guard = none) (h : Oper.wp P o a w K Q) : if Region.wanted o (yielded ops a.tmps) = true then Oper.wp P o a w K Q else E := by
  have hw : Region.wanted o (yielded ops a.tmps) = true := by simp [Region.wanted, hg]
  rw [if_pos hw]
  exact h
/-- The copy of a record, as an element. -/
theorem new_elem {s Cb Bx nc cc : Nat} {v : Value} {W0 wc wz : World} {Ac : Option Addr} {r : List Nat} (hcc : nc ≤ cc) (O : Own W0 (.slice Ac nc cc) nc r wc) (b : Below wc.heap.size wc wz) (hm : r.length ≤ 1099511627776) (h1 : s < W0.heap.size) (h2 : Cb < W0.heap.size) (h3 : Bx < W0.heap.size) (h4 : ∀ q, v.ownBlock = some q → q < W0.heap.size) :
    Each 1 (ByR wz fun b => (cellP s Cb Bx wz b ∧ some b ≠ v.ownBlock) ∧ some b ≠ v.ownBlock ∧ b < wz.heap.size) [.slice Ac nc cc] [r] := by
  have hl := O.len
  subst hl
  refine Each.one rfl ⟨Ac, cc, rfl, ⟨hcc, by omega⟩, Own.cap O, O.reads.later b, fun h0 a e => ?_⟩
  obtain ⟨q1, q2⟩ := O.new a.block (by rw [e]; rfl)
  have hne : some a.block ≠ v.ownBlock := fun q => by have := h4 _ q.symm; omega
  have hs := b.size
  refine ⟨⟨⟨by omega, by omega, by omega, ?_⟩, hne⟩, hne, by omega⟩
  rcases O.row.2 with ⟨e2, _⟩ | ⟨g, cap, cur, e2, _, hh, _⟩
  · injection e2 with e2
    rw [e2] at e
    cases e
  · injection e2 with e2
    rw [e] at e2
    injection e2 with e2
    rw [e2]
    exact ⟨_, (b.block g (Array.getElem?_eq_some_iff.1 hh).1).trans hh, rfl⟩
end Go.Proofs.YtjcphpmlekfhdaaGreatDoor
