/- Take of the package octet, at every slice of bytes, every place and every size. No condition but a bound on the length. -/
import Derived.RangeFuncNested
import Derived.RangeFuncBound
import Derived.RangeFuncCalls
import Derived.RangeFuncLeaves
import Derived.Shelf.Abstract
import Derived.Shelf.RegionOpen
import Derived.OwnWalkIn
import Derived.TacticsInMore
import Derived.LoopNIn
import Derived.LoopIn
import Derived.Outline
import Derived.Test.YtcnmplkljpkheaaTakeS
namespace Go.Proofs.Ytcnmplkljpkheaa
open Go.RowKit Go.Shelf
attribute [local go_sem] Oper.semAt_some

/-- A byte. -/
def b8 (n : Nat) : Nat := n % 256
theorem b8_lt (n : Nat) : b8 n < 256 := Nat.mod_lt _ (by decide)
theorem b8_of {n : Nat} (h : n < 256) : b8 n = n := Nat.mod_eq_of_lt h
/-- What has come when k rounds are over. -/
def backTo (L : List Nat) (n : Nat) (k : Nat) : List (Nat × Nat) := (List.range k).map fun j => (n - 1 - j, nth L (n - 1 - j))
theorem backTo_succ (L : List Nat) (n k : Nat) : backTo L n (k + 1) = backTo L n k ++ [(n - 1 - k, nth L (n - 1 - k))] := by simp [backTo, List.range_succ]
theorem backTo_length (L : List Nat) (n k : Nat) : (backTo L n k).length = k := by simp [backTo]

/-- What a round keeps: what lay below n₀, and the box of the slice. -/
def KpB (n₀ Bx : Nat) (W W' : World) : Prop := Below n₀ W W' ∧ W'.heap[Bx]? = W.heap[Bx]?
theorem kpB_refl (n₀ Bx : Nat) (W : World) : KpB n₀ Bx W W := ⟨Below.refl _ _, rfl⟩
theorem kpB_t {n₀ Bx : Nat} {A B C : World} (h : KpB n₀ Bx A B) (k : KpB n₀ Bx B C) : KpB n₀ Bx A C := ⟨h.1.trans k.1, k.2.trans h.2⟩
theorem kpB_b {n₀ Bx : Nat} {w : World} (hn : n₀ ≤ w.heap.size) (hB : Bx < w.heap.size) (W : World) (l : Nat) (o o' : Obj) (hl : w.heap.size ≤ l) (h : W.heap[l]? = some o) (h1 : o.isCells = false) (h2 : o.isWalk = false) : KpB n₀ Bx W (W.putObj l o') :=
  ⟨belowK_b hn W l o o' hl h h1 h2, World.putObj_heap_other (by omega)⟩
theorem KpB.set {n₀ Bx : Nat} (W : World) {a : Addr} (v : Value) (h1 : n₀ ≤ a.block) (h2 : Bx ≠ a.block) : KpB n₀ Bx W (W.setCell a v) := ⟨(Below.refl _ _).setCell h1 v, Below.heap_setCell W a v Bx h2⟩

set_option maxRecDepth 100000 in
set_option maxHeartbeats 2000000 in
/-- The library's walk over a slice of bytes from its end on. -/
theorem back1_in (F : Fence) (n : Nat) (h7 : F.fn 43) (hro : F.round = none) (hn : 1 ≤ n) (l Bx : Nat) (A : Option Addr) (len cap : Nat) (L : List Nat) (hreach : len ≤ 549755813888) (J Jx : List (Nat × Nat) → World → Prop) (n₀ : Nat)
    (hY : ∀ pre x W, J pre W → pre.length < len → YieldAt F (n - 1) Try.prog l #[.int .i64 (x.1 : Int), .int .u8 (b8 x.2 : Nat)] W fun e W' =>
      (e = .returned (.bool true) ∧ J (pre ++ [x]) W' ∧ KpB n₀ Bx W W') ∨ (e = .returned (.bool false) ∧ Jx (pre ++ [x]) W'))
    (W : World) (hBx : W.cell? ⟨Bx, 0, none⟩ = some (.slice A len cap)) (hL : Bs W A len L) (hn₀ : ∀ a, A = some a → a.block < n₀) (h0 : J [] W) :
    CallsIn F n Try.prog 43 #[.func (.yield l) #[] #[], .pointer (some ⟨Bx, 0, none⟩)] W fun e W' => (∃ v, e = .returned v) ∧
      ((∃ ys, ys = backTo L len len ∧ J ys W') ∨ (∃ pre, (∃ k, k ≤ len ∧ pre = backTo L len k) ∧ Jx pre W')) := by
  refine callsIn_of_wp Try.func43 rfl h7 ?_ hro
  simp only [Try.ntmps43, List.size_toArray, List.length_cons, List.length_nil, Nat.reduceAdd, Nat.reduceSub, Array.replicate_succ, Array.replicate_zero, List.push_toArray, List.append_toArray, List.nil_append, List.cons_append]
  have HL := Lib.hid hL
  have HN := Lib.hid hn₀
  clear hL hn₀
  gi_wp2
  gi_loopw [3] (fun i wr => ∃ k r : Nat, r + k = len ∧ i = .int .i64 ((r : Int) - 1) ∧ J (backTo L len k) wr ∧ KpB n₀ Bx W wr)
    (fun i _ => (intOf i + 1).toNat)
  case atStart => exact ⟨0, len, by omega, rfl, h0, kpB_refl _ _ _⟩
  case round =>
    obtain ⟨k, r, hk, rfl, hJs, hnx⟩ := hrel
    have hbx : wr.cell? ⟨Bx, 0, none⟩ = some (.slice A len cap) := (World.cell?_of_block (w := W) hnx.2).trans hBx
    rcases r with _ | r
    · obtain rfl : k = len := by omega
      gi_wp2
      go_end0
      exact ⟨⟨_, rfl⟩, .inl ⟨_, rfl, hJs⟩⟩
    · have hr : len - 1 - k = r := by omega
      obtain ⟨a, rfl, _, ca, la⟩ := HL.out.at_ (k := r) (by omega)
      have ca' : wr.cell? (a.add r) = some (.int .u8 (nth L r : Nat)) := (hnx.1.cell (by rw [add_block]; exact HN.out a rfl)).trans ca
      have hb := b8_of la
      obtain ⟨fn, tmps, assign, body, hy, hR⟩ := hY _ (r, nth L r) wr hJs (by rw [backTo_length]; omega)
      dsimp only at hy
      rw [hb] at hy
      have hs := backTo_succ L len k
      rw [hr] at hs
      have HS := Lib.hid hs
      clear hs hb ca
      gi_wp2
      refine hR.mono ?_
      rintro e W3 (⟨rfl, hJ3, hk3⟩ | ⟨rfl, hJx3⟩)
      · gi_wp2
        go_roundw
        case rel => exact ⟨k + 1, r, by omega, by go_num, by rw [HS.out]; exact hJ3, kpB_t hnx hk3⟩
        case measure => simp [intOf]
      · gi_wp2
        refine bodyPost_ret (results_none rfl _ _ _) rfl ?_
        exact ⟨⟨_, rfl⟩, .inr ⟨_, ⟨k + 1, by omega, HS.out.symm⟩, hJx3⟩⟩

set_option maxHeartbeats 1000000 in
/-- The library's walk, as it is handed on. -/
theorem back_in (F : Fence) (n : Nat) (h5 : F.fn 31) (hro : F.round = none) (A : Option Addr) (len cap : Nat) (w : World) :
    CallsIn F n Try.prog 31 #[.slice A len cap] w fun e w' => e = .returned (.func (.func 43) #[] #[.pointer (some ⟨w.heap.size, 0, none⟩)]) ∧ w' = w.alloc (.cells #[.slice A len cap] 22) := by
  refine callsIn_of_wp Try.func31 rfl h5 ?_ hro
  simp only [Try.ntmps31, List.size_toArray, List.length_cons, List.length_nil, Nat.reduceAdd, Nat.reduceSub, Array.replicate_succ, Array.replicate_zero, List.push_toArray, List.append_toArray, List.nil_append, List.cons_append]
  gi_wp2
  go_ret
  exact ⟨rfl, rfl⟩
theorem back_stops (F : Fence) (n : Nat) (h7 : F.fn 43) (hro : F.round = none) (hn : 1 ≤ n) (Bx : Nat) (A : Option Addr) (len cap : Nat) (L : List Nat) (hreach : len ≤ 549755813888) (n₀ : Nat) (w : World)
    (hBx : w.cell? ⟨Bx, 0, none⟩ = some (.slice A len cap)) (hB : Bx < w.heap.size) (hL : Bs w A len L) (hn₀ : ∀ a, A = some a → a.block < n₀) :
    SeqStopsK F n Try.prog 43 #[.pointer (some ⟨Bx, 0, none⟩)] (fun x : Nat × Nat => #[Value.int .i64 (x.1 : Int), Value.int .u8 (b8 x.2 : Nat)]) (KpB n₀ Bx) (fun ys => ys = backTo L len len) (fun pre => ∃ k, k ≤ len ∧ pre = backTo L len k) len w := fun l J Jx W hW _ _ hY h0 =>
  back1_in F n h7 hro hn l Bx A len cap L hreach J Jx n₀ hY W ((hW.cell (p := ⟨Bx, 0, none⟩) hB).trans hBx) (hL.later hW) hn₀ h0

theorem isSize_yes {size : Int} (h : sizeB size = true) (w : World) : Calls Try.prog 30 #[.int .i64 size] w fun e w' => e = .returned (.bool true) ∧ w' = w := by
  have := isSize_any size w
  rwa [h] at this
theorem isSize_not {size : Int} (h : sizeB size = false) (w : World) : Calls Try.prog 30 #[.int .i64 size] w fun e w' => e = .returned (.bool false) ∧ w' = w := by
  have := isSize_any size w
  rwa [h] at this

/-- What is read so far. -/
def numOf (l : List (Nat × Nat)) : Nat := l.foldl (fun s x => 256 * s + b8 x.2) 0
theorem numOf_snoc (l : List (Nat × Nat)) (x : Nat × Nat) : numOf (l ++ [x]) = 256 * numOf l + b8 x.2 := by simp [numOf]
theorem numOf_back {L : List Nat} (h : AllB L) (n : Nat) : ∀ k, k ≤ n → numOf (backTo L n k) = numAt L (n - k) k
  | 0, _ => by simp [backTo, numOf, numAt]
  | k + 1, hk => by
    rw [backTo_succ, numOf_snoc, numOf_back h n k (by omega), b8_of (nth_lt h _), numAt, show n - (k + 1) + 1 = n - k by omega, show n - 1 - k = n - (k + 1) by omega, Nat.add_comm]
theorem numAt_cut (L : List Nat) (p s : Nat) : ∀ k q, q + k ≤ s → numAt ((L.drop p).take s) q k = numAt L (p + q) k
  | 0, _, _ => rfl
  | k + 1, q, h => by
    have : nth ((L.drop p).take s) q = nth L (p + q) := by simp [nth, List.getD, show q < s by omega]
    rw [numAt, numAt, this, numAt_cut L p s k (q + 1) (by omega)]; rfl

set_option maxRecDepth 100000 in
set_option maxHeartbeats 2000000 in
theorem take_in {A : Option Addr} {m c : Nat} {L : List Nat} (p s : Nat) (a1 : (p : Int) ≤ 9223372036854775807) (w : World) (hm : m ≤ 549755813888) (hmc : m ≤ c) (HL : Hid (Bs w A m L)) (HE : Hid (L.length = m)) (p0 : 0 ≤ (p : Int)) (p1 : (p : Int) ≤ m)
    (hz : sizeB (s : Int) = true) (s1 : 1 ≤ s) (s8 : s ≤ 8) (t1 : decide ((p : Int) < 0) = false) (_t2 : decide ((m : Int) < (p : Int)) = false) (hle : p + s ≤ m) :
    CallsIn Fence.wide 3 Try.prog 11 #[.slice A m c, .int .i64 (p : Int), .int .i64 (s : Int)] w (TakeEnd L p s w) := by
  obtain ⟨h1, h2, h3⟩ := take_ok (L := L) hz p0 (by rw [HE.out]; omega)
  rw [Int.toNat_natCast, Int.toNat_natCast] at h1
  have HZ := Lib.hid (isSize_yes hz)
  have H1 := Lib.hid h1
  have H2 := Lib.hid h2
  have H3 := Lib.hid h3
  clear hz h1 h2 h3
  have t3 : decide ((m : Int) - (p : Int) < (s : Int)) = false := decide_eq_false (by omega)
  refine callsIn_of_wp_marks Try.func11 rfl trivial ?_ rfl
  simp only [Try.ntmps11, List.size_toArray, List.length_cons, List.length_nil, Nat.reduceAdd, Nat.reduceSub, Array.replicate_succ, Array.replicate_zero, List.push_toArray, List.append_toArray, List.nil_append, List.cons_append]
  gi_wp2_with (first | (refine ⟨trivial, ?_⟩; gi_at_call 30; refine (callsIn_wide.2 (HZ.out _)).mono ?_; rintro e w2 ⟨rfl, rfl⟩) | (refine ⟨trivial, ?_⟩; gi_at_call 31; refine (back_in Fence.wide _ trivial rfl _ _ _ _).mono ?_; rintro e w2 ⟨rfl, rfl⟩))
  obtain ⟨A2, hA2⟩ : ∃ A2, A2 = Option.map (fun x => x.add p) A := ⟨_, rfl⟩
  rw [← hA2]
  have hcut := HL.out.cut (k := p) (m := s) hle hmc
  rw [if_neg (by omega), ← hA2] at hcut
  have hblk : ∀ a, A2 = some a → a.block < w.heap.size := fun a e => by
    obtain ⟨b, e2, hb, _⟩ := hcut.cel (by omega)
    rw [e] at e2
    injection e2 with e2
    subst e2
    exact hb
  have HC := Lib.hid hcut
  have HK := Lib.hid hblk
  clear hA2 hcut hblk
  have bS := Boxed.new w 23 (.int .u64 0)
  have bN := Boxed.new (w.alloc (.cells #[.int .u64 0] 23)) 22 (.slice A2 s (c - p))
  rw [World.size_alloc] at bN
  have hB0 : Below w.heap.size w ((w.alloc (.cells #[.int .u64 0] 23)).alloc (.cells #[.slice A2 s (c - p)] 22)) := ((Below.refl _ w).alloc (Nat.le_refl _) _).alloc (by simp) _
  refine wpIn_rangeFunc_ownG rfl (by decide) (gf := 43) (lb := #[.pointer (some ⟨w.heap.size + 1, 0, none⟩)]) rfl trivial (enters_of Try.func43 (by kernel_rfl) rfl)
    (back_stops Fence.wide 2 trivial rfl (by decide) (w.heap.size + 1) A2 s (c - p) ((L.drop p).take s) (by omega) w.heap.size _ bN.cell (by simp) (HC.out.later hB0) HK.out) kpB_t (kpB_b (by simp; omega) (by simp)) (Below.refl _ _) (fun _ => rfl)
    (fun pre W => ((numOf pre < 256 ^ pre.length ∧ W.cell? ⟨w.heap.size, 0, none⟩ = some (.int .u64 (numOf pre : Nat))) ∧ W.frozen? ⟨w.heap.size, 0, none⟩ = false) ∧ Below w.heap.size w W)
    (fun _ _ _ => False)
    (OwnFrom.and (Own.from (fun s A B row hs hg hr => ⟨⟨hs.1.1, cell_kept hs.1.2 hg hr⟩, (frozen_kept hs.1.2 hg hr).trans hs.2⟩) _) (ownFrom_below (Nat.le_refl _) (by simp; omega)))
    (fun _ _ _ _ _ hs _ _ => hs)
    ⟨⟨⟨by decide, (bS.alloc _).cell⟩, (bS.alloc _).frozen⟩, hB0⟩
    (fun x => { tmps := #[Value.slice A m c, Value.int IntKind.i64 ↑p, Value.int IntKind.i64 ↑s, undef, undef, undef, Value.pointer (some { block := w.heap.size, off := 0 }), Value.int IntKind.i64 (↑p + ↑s), Value.int IntKind.i64 0, undef, .int .u8 (b8 x.2 : Nat), Value.bool false, Value.int IntKind.i64 ↑s, Value.bool true, Value.bool false, Value.bool false, Value.int IntKind.i64 ↑p, Value.bool false, Value.bool false, Value.bool false, Value.int IntKind.i64 ↑p, Value.slice A m c, Value.int IntKind.i64 ↑m, Value.bool false, Value.bool false, Value.bool false, Value.slice A m c, Value.int IntKind.i64 ↑m, Value.int IntKind.i64 ↑p, Value.int IntKind.i64 (↑m - ↑p), Value.int IntKind.i64 ↑s, Value.bool false, Value.int IntKind.i64 ↑p, Value.int IntKind.i64 ↑s, Value.int IntKind.i64 (↑p + ↑s), Value.slice A m c, Value.int IntKind.i64 ↑p, Value.int IntKind.i64 (↑p + ↑s), Value.slice A2 s (c - p), Value.func (Fn.func 43) #[] #[Value.pointer (some { block := w.heap.size + 1, off := 0 })], .int .i64 (x.1 : Int), .int .u8 (b8 x.2 : Nat), undef, undef, undef, undef, undef, undef, undef], defers := [] }) ?assign ?body ?done ?stop
  case assign =>
    intro l x W K hK
    gi_wp2
    exact hK
  case body =>
    rintro l pre x W ⟨⟨⟨hv, hc⟩, hf⟩, hB⟩ hp
    have hq : numOf pre < 72057594037927936 := Nat.lt_of_lt_of_le hv (Nat.le_trans (Nat.pow_le_pow_right (by decide) (by omega : pre.length ≤ 7)) (by decide))
    have hb := b8_lt x.2
    have hn := numOf_snoc pre x
    have hp2 : 256 ^ (pre ++ [x]).length = 256 * 256 ^ pre.length := by rw [List.length_append, List.length_singleton, Nat.pow_succ, Nat.mul_comm]
    obtain ⟨q, hqe⟩ : ∃ q, q = numOf pre := ⟨_, rfl⟩
    obtain ⟨b, hbe⟩ : ∃ b, b = b8 x.2 := ⟨_, rfl⟩
    rw [← hqe] at hv hc hq hn
    rw [← hbe] at hb hn ⊢
    have HN := Lib.hid hn
    have HP := Lib.hid hp2
    have HV := Lib.hid hv
    clear hn hp2 hv hqe hbe
    have ho : bits BinOp.or IntKind.u64 ((q : Int) * 256) (b : Int) = ((256 * q + b : Nat) : Int) := by
      have e1 : ((q : Int) * 256) = ((256 * q : Nat) : Int) := by omega
      rw [e1, bits_or_u64_nat (256 * q) b (by omega) (by omega)]
      have := Nat.two_pow_add_eq_or_of_lt (show b < 2 ^ 8 from hb) q
      rw [show (2 : Nat) ^ 8 = 256 from rfl] at this
      rw [← this]
    gi_wp2
    refine ⟨(KeepsOthers.setCell _ _ _).from _, KpB.set _ _ (Nat.le_refl _) (by simp), ⟨⟨by rw [HN.out, HP.out]; have := HV.out; omega, by rw [HN.out]; exact World.cell?_setCell_same' _ _ _ (by rw [hc]; rfl)⟩, by rw [World.frozen?_setCell]; exact hf⟩, hB.setCell (p := ⟨w.heap.size, 0, none⟩) (Nat.le_refl _) _⟩
  case done =>
    rintro D ys W hD rfl ⟨⟨⟨_, hc⟩, hf⟩, hB⟩ hK
    have hn := numOf_back HC.out.byt s s (Nat.le_refl _)
    rw [Nat.sub_self, numAt_cut L p s s 0 (by omega), Nat.add_zero] at hn
    rw [hn] at hc
    obtain ⟨q, hq⟩ : ∃ q, q = numAt L p s := ⟨_, rfl⟩
    rw [← hq] at hc H1
    clear hn hq
    gi_wp2
    have hK' := (KeepsOthers.setCell W ⟨w.heap.size, 0, none⟩ (.int .u64 (q : Int))).same D _ hK rfl
    refine ⟨by simp, .inl ⟨_, _, rfl, run_takeDeferred hK', ?_⟩⟩
    have hc5 := cell_kept (World.cell?_setCell_same' W ⟨w.heap.size, 0, none⟩ (.int .u64 (q : Int)) (by rw [hc]; rfl)) (grownBy_putObj' _ D (.deferred none)) (fun r e => by cases e; exact ⟨_, hK', rfl⟩)
    refine ⟨.tuple #[.int .u64 (q : Int), .int .i64 ((p : Int) + s), .int .i64 0], ?_, ?_, (hB.setCell (p := ⟨w.heap.size, 0, none⟩) (Nat.le_refl _) _).trans (belowK_b (w := w) (Nat.le_refl _) _ D _ _ (by simp at hD; omega) hK' rfl rfl)⟩
    · simp [results, Try.f11, go_sem, hc5]
    · rw [H1.out, H2.out, H3.out]
  case stop =>
    rintro D c pre W _ _ h _
    exact h.elim
end Go.Proofs.Ytcnmplkljpkheaa
