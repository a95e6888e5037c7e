/- Sum of the package target and of the document's answers of layer 3, of any works that lie in a slice. -/
import Derived.Test.YtnipajfglmahiaaCon
import Derived.Test.YtnipajfglmahiaaGrow
import Derived.Test.YtnipajfglmahiaaAfter
import Derived.Test.YtnipajfglmahiaaAnchor
import Derived.Test.YtnipajfglmahiaaTMeets
import Derived.Test.YtnipajfglmahiaaRefAdd
namespace Go.Proofs.Ytnipajfglmahiaa
open Go.RowKit

/-- The cells of a slice of numbers. -/
def Lies (w : World) (p : Option Addr) (len : Nat) (E : Nat → Nat → Nat) : Prop := ∀ i, i < len → ∃ a, p = some a ∧ a.block < w.heap.size ∧ ∀ q, q < 4 → w.cell? ((a.add (i * 4)).add q) = some (.int .u64 (E i q : Nat))
theorem addr_block (a : Addr) (n : Nat) : (a.add n).block = a.block := by unfold Addr.add; split <;> rfl
theorem Lies.later {w w1 : World} {p : Option Addr} {len : Nat} {E : Nat → Nat → Nat} (h : Lies w p len E) (g : Below w.heap.size w w1) : Lies w1 p len E := fun i hi => by
  obtain ⟨a, hp, hb, hc⟩ := h i hi
  refine ⟨a, hp, Nat.lt_of_lt_of_le hb g.size, fun q hq => ?_⟩
  rw [← hc q hq]
  exact g.cell (by rw [addr_block, addr_block]; exact hb)
def WordsAll (len : Nat) (E : Nat → Nat → Nat) : Prop := ∀ i, i < len → Words (E i 0) (E i 1) (E i 2) (E i 3)
def total (E : Nat → Nat → Nat) : Nat → Nat
  | 0 => 0
  | k + 1 => total E k + val (E k 0) (E k 1) (E k 2) (E k 3)
/-- The cells of one number, as a walk reads them. -/
theorem lies_at {w : World} {p : Option Addr} {len i : Nat} {E : Nat → Nat → Nat} {a : Addr} (h : Lies w p len E) (hi : i < len) (hp : p = some a) :
    w.cell? (a.add (i * 4)) = some (.int .u64 (E i 0 : Nat)) ∧ w.cell? ⟨(a.add (i * 4)).block, (a.add (i * 4)).off + 1, none⟩ = some (.int .u64 (E i 1 : Nat)) ∧ w.cell? ⟨(a.add (i * 4)).block, (a.add (i * 4)).off + 2, none⟩ = some (.int .u64 (E i 2 : Nat)) ∧ w.cell? ⟨(a.add (i * 4)).block, (a.add (i * 4)).off + 3, none⟩ = some (.int .u64 (E i 3 : Nat)) := by
  obtain ⟨b, hb, _, hc⟩ := h i hi
  obtain rfl : a = b := by rw [hp] at hb; injection hb
  exact ⟨hc 0 (by omega), hc 1 (by omega), hc 2 (by omega), hc 3 (by omega)⟩

structure SumAt (w : World) (c : Array Value) (wr : World) : Prop where
  z : Holds wr w.heap.size #[.int .u64 0, .int .u64 0, .int .u64 0, .int .u64 0] 25
  s : Holds wr (w.heap.size + 1) c 25
  bel : Below w.heap.size w wr
theorem SumAt.later {w wr w1 : World} {c : Array Value} (h : SumAt w c wr) (g : Below wr.heap.size wr w1) : SumAt w c w1 := ⟨h.z.later g, h.s.later g, h.bel.trans (g.mono h.bel.size)⟩
theorem SumAt.set {w wr : World} {c : Array Value} (h : SumAt w c wr) (k : Nat) (v : Value) : SumAt w (c.setIfInBounds k v) (wr.setCell ⟨w.heap.size + 1, k, none⟩ v) :=
  ⟨h.z.other (by omega) v, h.s.set v, h.bel.setCell (by simp) v⟩
theorem SumAt.set4 {w wr : World} {s0 s1 s2 s3 n0 n1 n2 n3 : Nat} (h : SumAt w #[.int .u64 (s0 : Nat), .int .u64 (s1 : Nat), .int .u64 (s2 : Nat), .int .u64 (s3 : Nat)] wr) : SumAt w #[.int .u64 (n0 : Nat), .int .u64 (n1 : Nat), .int .u64 (n2 : Nat), .int .u64 (n3 : Nat)] ((((wr.setCell ⟨w.heap.size + 1, 0, none⟩ (.int .u64 (n0 : Nat))).setCell ⟨w.heap.size + 1, 1, none⟩ (.int .u64 (n1 : Nat))).setCell ⟨w.heap.size + 1, 2, none⟩ (.int .u64 (n2 : Nat))).setCell ⟨w.heap.size + 1, 3, none⟩ (.int .u64 (n3 : Nat))) :=
  (((h.set 0 _).set 1 _).set 2 _).set 3 _
theorem sumAt_start (w : World) : SumAt w #[.int .u64 0, .int .u64 0, .int .u64 0, .int .u64 0] ((w.alloc (.cells #[.int .u64 0, .int .u64 0, .int .u64 0, .int .u64 0] 25)).alloc (.cells #[.int .u64 0, .int .u64 0, .int .u64 0, .int .u64 0] 25)) := ⟨boxes2 w _ _ 0 _ rfl, boxes2 w _ _ 1 _ rfl, below2 w _ _⟩
theorem total_step {T v s n : Nat} (hs : s = T % 115792089237316195423570985008687907853269984665640564039457584007913129639936) (hv : v < 115792089237316195423570985008687907853269984665640564039457584007913129639936) (hn : n = (s + v) % 115792089237316195423570985008687907853269984665640564039457584007913129639936) : n = (T + v) % 115792089237316195423570985008687907853269984665640564039457584007913129639936 ∧ (decide (115792089237316195423570985008687907853269984665640564039457584007913129639936 ≤ T) || decide (115792089237316195423570985008687907853269984665640564039457584007913129639936 ≤ s + v)) = decide (115792089237316195423570985008687907853269984665640564039457584007913129639936 ≤ T + v) := by
  refine ⟨by omega, ?_⟩
  rw [Bool.eq_iff_iff, Bool.or_eq_true, decide_eq_true_iff, decide_eq_true_iff, decide_eq_true_iff]
  omega
def SumEnd (E : Nat → Nat → Nat) (len : Nat) (w : World) (e : Ending) (w' : World) : Prop := ∃ s0 s1 s2 s3 : Nat, e = .returned (.tuple #[.agg #[.int .u64 (s0 : Nat), .int .u64 (s1 : Nat), .int .u64 (s2 : Nat), .int .u64 (s3 : Nat)], .bool (decide (115792089237316195423570985008687907853269984665640564039457584007913129639936 ≤ total E len))]) ∧ Words s0 s1 s2 s3 ∧ val s0 s1 s2 s3 = total E len % 115792089237316195423570985008687907853269984665640564039457584007913129639936 ∧ Below w.heap.size w w'

set_option maxRecDepth 100000 in
set_option maxHeartbeats 8000000 in
theorem sum_any (p : Option Addr) (len cap : Nat) (E : Nat → Nat → Nat) (w : World) (hl : Lies w p len E) (hw : WordsAll len E) (hlen : len ≤ 9223372036854775807) : Calls Try.prog 13 #[.slice p len cap] w (SumEnd E len w) := by
  have HL := Lib.hid hl
  have HW := Lib.hid hw
  clear hl hw
  go_enter Try.func13, Try.ntmps13
  go_wp2_with fail
  go_loopw [5, 12] (fun bv kv wr => ∃ k s0 s1 s2 s3 : Nat, k ≤ len ∧ kv = .int .i64 (k : Nat) ∧ bv = .bool (decide (115792089237316195423570985008687907853269984665640564039457584007913129639936 ≤ total E k)) ∧ Words s0 s1 s2 s3 ∧ val s0 s1 s2 s3 = total E k % 115792089237316195423570985008687907853269984665640564039457584007913129639936 ∧ SumAt w #[.int .u64 (s0 : Nat), .int .u64 (s1 : Nat), .int .u64 (s2 : Nat), .int .u64 (s3 : Nat)] wr) (fun _ i _ => len - (intOf i).toNat)
  case atStart => exact ⟨0, 0, 0, 0, 0, by omega, rfl, by rw [total]; rfl, ⟨by omega, by omega, by omega, by omega⟩, by rw [total]; rfl, sumAt_start w⟩
  case round =>
    obtain ⟨k, s0, s1, s2, s3, hk, rfl, rfl, ws, vs, L⟩ := hrel
    by_cases hlt : k < len
    · have t1 : decide ((k : Int) < (len : Int)) = true := decide_eq_true (by omega)
      obtain ⟨a, rfl, ha, _⟩ := HL.out k hlt
      obtain ⟨lc0, lc1, lc2, lc3⟩ := lies_at (HL.out.later L.bel) hlt rfl
      have we := HW.out k hlt
      obtain ⟨e0, he0⟩ : ∃ e0, e0 = E k 0 := ⟨_, rfl⟩
      obtain ⟨e1, he1⟩ : ∃ e1, e1 = E k 1 := ⟨_, rfl⟩
      obtain ⟨e2, he2⟩ : ∃ e2, e2 = E k 2 := ⟨_, rfl⟩
      obtain ⟨e3, he3⟩ : ∃ e3, e3 = E k 3 := ⟨_, rfl⟩
      have tk : total E (k + 1) = total E k + val e0 e1 e2 e3 := by rw [total, he0, he1, he2, he3]
      rw [← he0] at lc0
      rw [← he1] at lc1
      rw [← he2] at lc2
      rw [← he3] at lc3
      rw [← he0, ← he1, ← he2, ← he3] at we
      obtain ⟨n0, n1, n2, n3, wn, vn⟩ := words_of (x := (val s0 s1 s2 s3 + val e0 e1 e2 e3) % 115792089237316195423570985008687907853269984665640564039457584007913129639936) (Nat.mod_lt _ (by decide))
      have ADD := Lib.hid (addIs ws we wn _ vn rfl)
      obtain ⟨q1, q2⟩ := total_step vs (val_lt we) vn
      rw [← tk] at q1 q2
      have Q1 := Lib.hid q1
      have Q2 := Lib.hid q2
      have WN := Lib.hid wn
      obtain ⟨b, hb⟩ : ∃ b, b = decide (115792089237316195423570985008687907853269984665640564039457584007913129639936 ≤ total E k) := ⟨_, rfl⟩
      obtain ⟨c, hc⟩ : ∃ c, c = decide (115792089237316195423570985008687907853269984665640564039457584007913129639936 ≤ val s0 s1 s2 s3 + val e0 e1 e2 e3) := ⟨_, rfl⟩
      rw [← hb, ← hc] at q2
      rw [← hc] at ADD
      rw [← hb]
      replace Q2 := Lib.hid q2
      have LH := Lib.hid L
      have sc0 : wr.cell? ⟨w.heap.size + 1, 0, none⟩ = some (.int .u64 (s0 : Nat)) := L.s.cell 0
      have sc1 : wr.cell? ⟨w.heap.size + 1, 1, none⟩ = some (.int .u64 (s1 : Nat)) := L.s.cell 1
      have sc2 : wr.cell? ⟨w.heap.size + 1, 2, none⟩ = some (.int .u64 (s2 : Nat)) := L.s.cell 2
      have sc3 : wr.cell? ⟨w.heap.size + 1, 3, none⟩ = some (.int .u64 (s3 : Nat)) := L.s.cell 3
      have sl : w.heap.size + 1 < wr.heap.size := L.s.lt
      clear q1 q2 wn vn we tk he0 he1 he2 he3 hb hc ws vs L
      go_wp2_with fail
      refine (ADD.out _).mono ?_
      rintro e w2 ⟨rfl, h2⟩
      have L2 := Lib.hid ((LH.out.later ((Below.refl _ _).alloc (Nat.le_refl _) (.cells #[.int .u64 (e0 : Nat), .int .u64 (e1 : Nat), .int .u64 (e2 : Nat), .int .u64 (e3 : Nat)] 25))).later h2)
      clear h2 LH sc0 sc1 sc2 sc3 sl lc0 lc1 lc2 lc3
      have jc0 : w2.cell? ⟨w.heap.size + 1, 0, none⟩ = some (.int .u64 (s0 : Nat)) := L2.out.s.cell 0
      have jz0 : w2.frozen? ⟨w.heap.size + 1, 0, none⟩ = false := L2.out.s.free 0
      have jc1 : w2.cell? ⟨w.heap.size + 1, 1, none⟩ = some (.int .u64 (s1 : Nat)) := L2.out.s.cell 1
      have jz1 : w2.frozen? ⟨w.heap.size + 1, 1, none⟩ = false := L2.out.s.free 1
      have jc2 : w2.cell? ⟨w.heap.size + 1, 2, none⟩ = some (.int .u64 (s2 : Nat)) := L2.out.s.cell 2
      have jz2 : w2.frozen? ⟨w.heap.size + 1, 2, none⟩ = false := L2.out.s.free 2
      have jc3 : w2.cell? ⟨w.heap.size + 1, 3, none⟩ = some (.int .u64 (s3 : Nat)) := L2.out.s.cell 3
      have jz3 : w2.frozen? ⟨w.heap.size + 1, 3, none⟩ = false := L2.out.s.free 3
      have sl : w.heap.size + 1 < w2.heap.size := L2.out.s.lt
      have STEP := Lib.hid (SumAt.later (SumAt.set4 (n0 := n0) (n1 := n1) (n2 := n2) (n3 := n3) L2.out) ((Below.refl _ _).alloc (Nat.le_refl _) (.cells #[.int .u64 (n0 : Nat), .int .u64 (n1 : Nat), .int .u64 (n2 : Nat), .int .u64 (n3 : Nat)] 25)))
      clear L2
      rcases b with _ | _
      · go_wp2_with fail
        go_roundw
        case rel => exact ⟨k + 1, n0, n1, n2, n3, by omega, by go_num, by rw [← Q2.out]; rfl, WN.out, Q1.out, STEP.out⟩
        case measure => simp [intOf]; omega
      · go_wp2_with fail
        go_roundw
        case rel => exact ⟨k + 1, n0, n1, n2, n3, by omega, by go_num, by rw [← Q2.out]; rfl, WN.out, Q1.out, STEP.out⟩
        case measure => simp [intOf]; omega
    · obtain rfl : k = len := by omega
      have VS := Lib.hid vs
      have LH := Lib.hid L
      have t1 : decide ((k : Int) < (k : Int)) = false := decide_eq_false (by omega)
      have sc0 : wr.cell? ⟨w.heap.size + 1, 0, none⟩ = some (.int .u64 (s0 : Nat)) := L.s.cell 0
      have jc0 : wr.cell? ⟨w.heap.size, 0, none⟩ = some (.int .u64 0) := L.z.cell 0
      have jz0 : wr.frozen? ⟨w.heap.size, 0, none⟩ = false := L.z.free 0
      have sc1 : wr.cell? ⟨w.heap.size + 1, 1, none⟩ = some (.int .u64 (s1 : Nat)) := L.s.cell 1
      have jc1 : wr.cell? ⟨w.heap.size, 1, none⟩ = some (.int .u64 0) := L.z.cell 1
      have jz1 : wr.frozen? ⟨w.heap.size, 1, none⟩ = false := L.z.free 1
      have sc2 : wr.cell? ⟨w.heap.size + 1, 2, none⟩ = some (.int .u64 (s2 : Nat)) := L.s.cell 2
      have jc2 : wr.cell? ⟨w.heap.size, 2, none⟩ = some (.int .u64 0) := L.z.cell 2
      have jz2 : wr.frozen? ⟨w.heap.size, 2, none⟩ = false := L.z.free 2
      have sc3 : wr.cell? ⟨w.heap.size + 1, 3, none⟩ = some (.int .u64 (s3 : Nat)) := L.s.cell 3
      have jc3 : wr.cell? ⟨w.heap.size, 3, none⟩ = some (.int .u64 0) := L.z.cell 3
      have jz3 : wr.frozen? ⟨w.heap.size, 3, none⟩ = false := L.z.free 3
      obtain ⟨bb, hbb⟩ : ∃ bb, bb = decide (115792089237316195423570985008687907853269984665640564039457584007913129639936 ≤ total E k) := ⟨_, rfl⟩
      rw [← hbb]
      have HBB := Lib.hid hbb
      clear vs L hbb
      go_wp2_with fail
      have b := ((((LH.out.bel.setCell (p := ⟨w.heap.size, 0, none⟩) (by simp) (.int .u64 (s0 : Nat))).setCell (p := ⟨w.heap.size, 1, none⟩) (by simp) (.int .u64 (s1 : Nat))).setCell (p := ⟨w.heap.size, 2, none⟩) (by simp) (.int .u64 (s2 : Nat))).setCell (p := ⟨w.heap.size, 3, none⟩) (by simp) (.int .u64 (s3 : Nat)))
      have HS : Holds ((((wr.setCell ⟨w.heap.size, 0, none⟩ (.int .u64 (s0 : Nat))).setCell ⟨w.heap.size, 1, none⟩ (.int .u64 (s1 : Nat))).setCell ⟨w.heap.size, 2, none⟩ (.int .u64 (s2 : Nat))).setCell ⟨w.heap.size, 3, none⟩ (.int .u64 (s3 : Nat))) w.heap.size #[.int .u64 (s0 : Nat), .int .u64 (s1 : Nat), .int .u64 (s2 : Nat), .int .u64 (s3 : Nat)] 25 := (((LH.out.z.set _).set _).set _).set _
      have g0 : ((((wr.setCell ⟨w.heap.size, 0, none⟩ (.int .u64 (s0 : Nat))).setCell ⟨w.heap.size, 1, none⟩ (.int .u64 (s1 : Nat))).setCell ⟨w.heap.size, 2, none⟩ (.int .u64 (s2 : Nat))).setCell ⟨w.heap.size, 3, none⟩ (.int .u64 (s3 : Nat))).cell? ⟨w.heap.size, 0, none⟩ = some (.int .u64 (s0 : Nat)) := HS.cell 0
      have g1 : ((((wr.setCell ⟨w.heap.size, 0, none⟩ (.int .u64 (s0 : Nat))).setCell ⟨w.heap.size, 1, none⟩ (.int .u64 (s1 : Nat))).setCell ⟨w.heap.size, 2, none⟩ (.int .u64 (s2 : Nat))).setCell ⟨w.heap.size, 3, none⟩ (.int .u64 (s3 : Nat))).cell? ⟨w.heap.size, 1, none⟩ = some (.int .u64 (s1 : Nat)) := HS.cell 1
      have g2 : ((((wr.setCell ⟨w.heap.size, 0, none⟩ (.int .u64 (s0 : Nat))).setCell ⟨w.heap.size, 1, none⟩ (.int .u64 (s1 : Nat))).setCell ⟨w.heap.size, 2, none⟩ (.int .u64 (s2 : Nat))).setCell ⟨w.heap.size, 3, none⟩ (.int .u64 (s3 : Nat))).cell? ⟨w.heap.size, 2, none⟩ = some (.int .u64 (s2 : Nat)) := HS.cell 2
      have g3 : ((((wr.setCell ⟨w.heap.size, 0, none⟩ (.int .u64 (s0 : Nat))).setCell ⟨w.heap.size, 1, none⟩ (.int .u64 (s1 : Nat))).setCell ⟨w.heap.size, 2, none⟩ (.int .u64 (s2 : Nat))).setCell ⟨w.heap.size, 3, none⟩ (.int .u64 (s3 : Nat))).cell? ⟨w.heap.size, 3, none⟩ = some (.int .u64 (s3 : Nat)) := HS.cell 3
      refine bodyPost_ret (v := .tuple #[.agg #[.int .u64 (s0 : Nat), .int .u64 (s1 : Nat), .int .u64 (s2 : Nat), .int .u64 (s3 : Nat)], .bool bb]) (by simp [results, Try.results13, go_sem, g0, g1, g2, g3]) rfl ⟨s0, s1, s2, s3, by rw [HBB.out], ws, VS.out, b⟩

set_option maxRecDepth 100000 in
set_option maxHeartbeats 8000000 in
theorem rsum_any (p : Option Addr) (len cap : Nat) (E : Nat → Nat → Nat) (w : World) (hl : Lies w p len E) (hw : WordsAll len E) (hlen : len ≤ 9223372036854775806) : Calls Try.prog 14 #[.slice p len cap] w (SumEnd E len w) := by
  have HL := Lib.hid hl
  have HW := Lib.hid hw
  clear hl hw
  go_enter Try.func14, Try.ntmps14
  go_wp2_with fail
  go_loopw [5, 6] (fun bv kv wr => ∃ k s0 s1 s2 s3 : Nat, k ≤ len ∧ kv = .int .i64 (k : Nat) ∧ bv = .bool (decide (115792089237316195423570985008687907853269984665640564039457584007913129639936 ≤ total E k)) ∧ Words s0 s1 s2 s3 ∧ val s0 s1 s2 s3 = total E k % 115792089237316195423570985008687907853269984665640564039457584007913129639936 ∧ SumAt w #[.int .u64 (s0 : Nat), .int .u64 (s1 : Nat), .int .u64 (s2 : Nat), .int .u64 (s3 : Nat)] wr) (fun _ i _ => len - (intOf i).toNat)
  case atStart => exact ⟨0, 0, 0, 0, 0, by omega, rfl, by rw [total]; rfl, ⟨by omega, by omega, by omega, by omega⟩, by rw [total]; rfl, sumAt_start w⟩
  case round =>
    obtain ⟨k, s0, s1, s2, s3, hk, rfl, rfl, ws, vs, L⟩ := hrel
    by_cases hlt : k < len
    · have t1 : decide ((k : Int) < (len : Int)) = true := decide_eq_true (by omega)
      obtain ⟨a, rfl, ha, _⟩ := HL.out k hlt
      have HLT := Lib.hid hlt
      have we := HW.out k hlt
      obtain ⟨e0, he0'⟩ : ∃ e0, E k 0 = e0 := ⟨_, rfl⟩
      obtain ⟨e1, he1'⟩ : ∃ e1, E k 1 = e1 := ⟨_, rfl⟩
      obtain ⟨e2, he2'⟩ : ∃ e2, E k 2 = e2 := ⟨_, rfl⟩
      obtain ⟨e3, he3'⟩ : ∃ e3, E k 3 = e3 := ⟨_, rfl⟩
      have tk : total E (k + 1) = total E k + val e0 e1 e2 e3 := by rw [total, he0', he1', he2', he3']
      rw [he0', he1', he2', he3'] at we
      obtain ⟨n0, n1, n2, n3, wn, vn⟩ := words_of (x := (val s0 s1 s2 s3 + val e0 e1 e2 e3) % 115792089237316195423570985008687907853269984665640564039457584007913129639936) (Nat.mod_lt _ (by decide))
      have ADD : Hid (∀ w : World, Calls Try.prog 32 #[.agg #[.int .u64 (s0 : Nat), .int .u64 (s1 : Nat), .int .u64 (s2 : Nat), .int .u64 (s3 : Nat)], .agg #[.int .u64 (e0 : Nat), .int .u64 (e1 : Nat), .int .u64 (e2 : Nat), .int .u64 (e3 : Nat)]] w fun e w' => e = .returned (.tuple #[.agg #[.int .u64 (n0 : Nat), .int .u64 (n1 : Nat), .int .u64 (n2 : Nat), .int .u64 (n3 : Nat)], .bool (decide (115792089237316195423570985008687907853269984665640564039457584007913129639936 ≤ val s0 s1 s2 s3 + val e0 e1 e2 e3))]) ∧ Below w.heap.size w w') := fun w => (refadd_any ws we _ rfl w).mono fun e' w' ⟨p0, p1, p2, p3, e1', wp, vp, hbl⟩ => by
        obtain ⟨rfl, rfl, rfl, rfl⟩ := val_inj wp wn (vp.trans vn.symm)
        exact ⟨e1', hbl⟩
      obtain ⟨q1, q2⟩ := total_step vs (val_lt we) vn
      rw [← tk] at q1 q2
      have Q1 := Lib.hid q1
      have WN := Lib.hid wn
      obtain ⟨b, hb⟩ : ∃ b, b = decide (115792089237316195423570985008687907853269984665640564039457584007913129639936 ≤ total E k) := ⟨_, rfl⟩
      obtain ⟨c, hc⟩ : ∃ c, c = decide (115792089237316195423570985008687907853269984665640564039457584007913129639936 ≤ val s0 s1 s2 s3 + val e0 e1 e2 e3) := ⟨_, rfl⟩
      rw [← hb, ← hc] at q2
      rw [← hc] at ADD
      rw [← hb]
      have Q2 := Lib.hid q2
      have LH := Lib.hid L
      have PB := L.bel
      clear q1 q2 wn vn we tk hb hc ws vs
      go_wp2_with fail
      have HPB := Lib.hid PB
      clear PB
      refine wp_region_grow 9 (by kernel_rfl) (Nat.le_of_ble_eq_true (by kernel_rfl)) (by kernel_rfl) (by kernel_rfl) (fun _ _ _ _ _ h => h) ?_
      apply Exists.intro
      refine ⟨?_, ?_⟩
      · intro wg hg
        simp only [List.take_succ_cons, List.take_zero]
        have LG := LH.out.later hg
        obtain ⟨lc0, lc1, lc2, lc3⟩ := lies_at (HL.out.later LG.bel) HLT.out rfl
        rw [he0'] at lc0
        rw [he1'] at lc1
        rw [he2'] at lc2
        rw [he3'] at lc3
        have al : a.block < wg.heap.size := Nat.lt_of_lt_of_le ha LG.bel.size
        have us0 : ∀ u : After wg, u.w.cell? ⟨w.heap.size + 1, 0, none⟩ = some (.int .u64 (s0 : Nat)) := fun u => (LG.s.later u.below).cell 0
        have ul0 : ∀ u : After wg, u.w.cell? (a.add (k * 4)) = some (.int .u64 (e0 : Nat)) := fun u => (u.below.cell (by simp only [addr_block]; exact al)).trans lc0
        have us1 : ∀ u : After wg, u.w.cell? ⟨w.heap.size + 1, 1, none⟩ = some (.int .u64 (s1 : Nat)) := fun u => (LG.s.later u.below).cell 1
        have ul1 : ∀ u : After wg, u.w.cell? ⟨(a.add (k * 4)).block, (a.add (k * 4)).off + 1, none⟩ = some (.int .u64 (e1 : Nat)) := fun u => (u.below.cell (by simp only [addr_block]; exact al)).trans lc1
        have us2 : ∀ u : After wg, u.w.cell? ⟨w.heap.size + 1, 2, none⟩ = some (.int .u64 (s2 : Nat)) := fun u => (LG.s.later u.below).cell 2
        have ul2 : ∀ u : After wg, u.w.cell? ⟨(a.add (k * 4)).block, (a.add (k * 4)).off + 2, none⟩ = some (.int .u64 (e2 : Nat)) := fun u => (u.below.cell (by simp only [addr_block]; exact al)).trans lc2
        have us3 : ∀ u : After wg, u.w.cell? ⟨w.heap.size + 1, 3, none⟩ = some (.int .u64 (s3 : Nat)) := fun u => (LG.s.later u.below).cell 3
        have ul3 : ∀ u : After wg, u.w.cell? ⟨(a.add (k * 4)).block, (a.add (k * 4)).off + 3, none⟩ = some (.int .u64 (e3 : Nat)) := fun u => (u.below.cell (by simp only [addr_block]; exact al)).trans lc3
        clear LG lc0 lc1 lc2 lc3 al
        repeat (go_big_quiet_step ((first | (go_at_call 32; exact after_call (ADD.out _)))))
        refine wpQuiet_nil ?_
        exact rfl
      intro wg hg
      show wpK _ _ _ _ _ 3 _ _ _
      refine wpK_box1 (f := 2) (i := 9) (c := #[.int .u64 0, .int .u64 0, .int .u64 0, .int .u64 0]) (T := 25) (by kernel_rfl) rfl rfl rfl (fun w => by go_simp) hg ?_
      intro Bn wh gh ln Hn
      replace ln := Nat.le_trans hg.size ln
      have ge := hg.trans gh
      clear hg gh
      refine wpK_one (f := 1) (i := 10) (by kernel_rfl) rfl rfl ?_
      intro wc gc K hK
      replace ge := ge.trans gc
      replace Hn := Hn.later gc
      have ic0 : wc.cell? ⟨Bn, 0, none⟩ = some (.int .u64 0) := Hn.cell 0
      have iz0 : wc.frozen? ⟨Bn, 0, none⟩ = false := Hn.free 0
      have ic1 : wc.cell? ⟨Bn, 1, none⟩ = some (.int .u64 0) := Hn.cell 1
      have iz1 : wc.frozen? ⟨Bn, 1, none⟩ = false := Hn.free 1
      have ic2 : wc.cell? ⟨Bn, 2, none⟩ = some (.int .u64 0) := Hn.cell 2
      have iz2 : wc.frozen? ⟨Bn, 2, none⟩ = false := Hn.free 2
      have ic3 : wc.cell? ⟨Bn, 3, none⟩ = some (.int .u64 0) := Hn.cell 3
      have iz3 : wc.frozen? ⟨Bn, 3, none⟩ = false := Hn.free 3
      have HGE := Lib.hid ge
      clear ge gc
      go_simp
      have ge : Grows wr ((((wc.setCell ⟨Bn, 0, none⟩ (.int .u64 (n0 : Nat))).setCell ⟨Bn, 1, none⟩ (.int .u64 (n1 : Nat))).setCell ⟨Bn, 2, none⟩ (.int .u64 (n2 : Nat))).setCell ⟨Bn, 3, none⟩ (.int .u64 (n3 : Nat))) := (((HGE.out.setCell ln _).setCell ln _).setCell ln _).setCell ln _
      replace Hn : Holds ((((wc.setCell ⟨Bn, 0, none⟩ (.int .u64 (n0 : Nat))).setCell ⟨Bn, 1, none⟩ (.int .u64 (n1 : Nat))).setCell ⟨Bn, 2, none⟩ (.int .u64 (n2 : Nat))).setCell ⟨Bn, 3, none⟩ (.int .u64 (n3 : Nat))) Bn #[.int .u64 (n0 : Nat), .int .u64 (n1 : Nat), .int .u64 (n2 : Nat), .int .u64 (n3 : Nat)] 25 := (((Hn.set _).set _).set _).set _
      clear ic0 ic1 ic2 ic3 iz0 iz1 iz2 iz3 HGE
      refine hK _ _ ge ?_
      clear hK K
      generalize (((wc.setCell ⟨Bn, 0, none⟩ (.int .u64 (n0 : Nat))).setCell ⟨Bn, 1, none⟩ (.int .u64 (n1 : Nat))).setCell ⟨Bn, 2, none⟩ (.int .u64 (n2 : Nat))).setCell ⟨Bn, 3, none⟩ (.int .u64 (n3 : Nat)) = wd at *
      clear wc
      refine wpK_one (f := 0) (i := 11) (by kernel_rfl) rfl rfl ?_
      intro wc gc K hK
      go_simp
      replace Hn := Hn.later gc
      replace ge := ge.trans gc
      refine hK _ _ ge ?_
      clear hK K gc
      refine wpK_end (by kernel_rfl) ?_
      intro W21 gf
      replace Hn := Hn.later gf
      replace ge := ge.trans gf
      clear gf
      replace L := L.later ge
      have PB := below_step HPB.out ge
      clear ge HPB
      have xn : Box W21 Bn (n0 : Nat) (n1 : Nat) (n2 : Nat) (n3 : Nat) := ⟨Hn.cell 0, Hn.cell 1, Hn.cell 2, Hn.cell 3⟩
      clear Hn
      clear ln
      obtain ⟨cn0, cn1, cn2, cn3⟩ := xn
      have jc0 : W21.cell? ⟨w.heap.size + 1, 0, none⟩ = some (.int .u64 (s0 : Nat)) := L.s.cell 0
      have jz0 : W21.frozen? ⟨w.heap.size + 1, 0, none⟩ = false := L.s.free 0
      have jc1 : W21.cell? ⟨w.heap.size + 1, 1, none⟩ = some (.int .u64 (s1 : Nat)) := L.s.cell 1
      have jz1 : W21.frozen? ⟨w.heap.size + 1, 1, none⟩ = false := L.s.free 1
      have jc2 : W21.cell? ⟨w.heap.size + 1, 2, none⟩ = some (.int .u64 (s2 : Nat)) := L.s.cell 2
      have jz2 : W21.frozen? ⟨w.heap.size + 1, 2, none⟩ = false := L.s.free 2
      have jc3 : W21.cell? ⟨w.heap.size + 1, 3, none⟩ = some (.int .u64 (s3 : Nat)) := L.s.cell 3
      have jz3 : W21.frozen? ⟨w.heap.size + 1, 3, none⟩ = false := L.s.free 3
      have STEP := Lib.hid (SumAt.set4 (n0 := n0) (n1 := n1) (n2 := n2) (n3 := n3) L)
      have HPB := Lib.hid PB
      clear L PB LH
      rcases b with _ | _
      · go_wp2_with fail
        go_roundw
        case rel => exact ⟨k + 1, n0, n1, n2, n3, by omega, by go_num, by rw [← Q2.out]; rfl, WN.out, Q1.out, STEP.out⟩
        case measure => simp [intOf]; omega
      · go_wp2_with fail
        go_roundw
        case rel => exact ⟨k + 1, n0, n1, n2, n3, by omega, by go_num, by rw [← Q2.out]; rfl, WN.out, Q1.out, STEP.out⟩
        case measure => simp [intOf]; omega
    · obtain rfl : k = len := by omega
      have VS := Lib.hid vs
      have LH := Lib.hid L
      have t1 : decide ((k : Int) < (k : Int)) = false := decide_eq_false (by omega)
      have sc0 : wr.cell? ⟨w.heap.size + 1, 0, none⟩ = some (.int .u64 (s0 : Nat)) := L.s.cell 0
      have jc0 : wr.cell? ⟨w.heap.size, 0, none⟩ = some (.int .u64 0) := L.z.cell 0
      have jz0 : wr.frozen? ⟨w.heap.size, 0, none⟩ = false := L.z.free 0
      have sc1 : wr.cell? ⟨w.heap.size + 1, 1, none⟩ = some (.int .u64 (s1 : Nat)) := L.s.cell 1
      have jc1 : wr.cell? ⟨w.heap.size, 1, none⟩ = some (.int .u64 0) := L.z.cell 1
      have jz1 : wr.frozen? ⟨w.heap.size, 1, none⟩ = false := L.z.free 1
      have sc2 : wr.cell? ⟨w.heap.size + 1, 2, none⟩ = some (.int .u64 (s2 : Nat)) := L.s.cell 2
      have jc2 : wr.cell? ⟨w.heap.size, 2, none⟩ = some (.int .u64 0) := L.z.cell 2
      have jz2 : wr.frozen? ⟨w.heap.size, 2, none⟩ = false := L.z.free 2
      have sc3 : wr.cell? ⟨w.heap.size + 1, 3, none⟩ = some (.int .u64 (s3 : Nat)) := L.s.cell 3
      have jc3 : wr.cell? ⟨w.heap.size, 3, none⟩ = some (.int .u64 0) := L.z.cell 3
      have jz3 : wr.frozen? ⟨w.heap.size, 3, none⟩ = false := L.z.free 3
      obtain ⟨bb, hbb⟩ : ∃ bb, bb = decide (115792089237316195423570985008687907853269984665640564039457584007913129639936 ≤ total E k) := ⟨_, rfl⟩
      rw [← hbb]
      have HBB := Lib.hid hbb
      clear vs L hbb
      go_wp2_with fail
      have b := ((((LH.out.bel.setCell (p := ⟨w.heap.size, 0, none⟩) (by simp) (.int .u64 (s0 : Nat))).setCell (p := ⟨w.heap.size, 1, none⟩) (by simp) (.int .u64 (s1 : Nat))).setCell (p := ⟨w.heap.size, 2, none⟩) (by simp) (.int .u64 (s2 : Nat))).setCell (p := ⟨w.heap.size, 3, none⟩) (by simp) (.int .u64 (s3 : Nat)))
      have HS : Holds ((((wr.setCell ⟨w.heap.size, 0, none⟩ (.int .u64 (s0 : Nat))).setCell ⟨w.heap.size, 1, none⟩ (.int .u64 (s1 : Nat))).setCell ⟨w.heap.size, 2, none⟩ (.int .u64 (s2 : Nat))).setCell ⟨w.heap.size, 3, none⟩ (.int .u64 (s3 : Nat))) w.heap.size #[.int .u64 (s0 : Nat), .int .u64 (s1 : Nat), .int .u64 (s2 : Nat), .int .u64 (s3 : Nat)] 25 := (((LH.out.z.set _).set _).set _).set _
      have g0 : ((((wr.setCell ⟨w.heap.size, 0, none⟩ (.int .u64 (s0 : Nat))).setCell ⟨w.heap.size, 1, none⟩ (.int .u64 (s1 : Nat))).setCell ⟨w.heap.size, 2, none⟩ (.int .u64 (s2 : Nat))).setCell ⟨w.heap.size, 3, none⟩ (.int .u64 (s3 : Nat))).cell? ⟨w.heap.size, 0, none⟩ = some (.int .u64 (s0 : Nat)) := HS.cell 0
      have g1 : ((((wr.setCell ⟨w.heap.size, 0, none⟩ (.int .u64 (s0 : Nat))).setCell ⟨w.heap.size, 1, none⟩ (.int .u64 (s1 : Nat))).setCell ⟨w.heap.size, 2, none⟩ (.int .u64 (s2 : Nat))).setCell ⟨w.heap.size, 3, none⟩ (.int .u64 (s3 : Nat))).cell? ⟨w.heap.size, 1, none⟩ = some (.int .u64 (s1 : Nat)) := HS.cell 1
      have g2 : ((((wr.setCell ⟨w.heap.size, 0, none⟩ (.int .u64 (s0 : Nat))).setCell ⟨w.heap.size, 1, none⟩ (.int .u64 (s1 : Nat))).setCell ⟨w.heap.size, 2, none⟩ (.int .u64 (s2 : Nat))).setCell ⟨w.heap.size, 3, none⟩ (.int .u64 (s3 : Nat))).cell? ⟨w.heap.size, 2, none⟩ = some (.int .u64 (s2 : Nat)) := HS.cell 2
      have g3 : ((((wr.setCell ⟨w.heap.size, 0, none⟩ (.int .u64 (s0 : Nat))).setCell ⟨w.heap.size, 1, none⟩ (.int .u64 (s1 : Nat))).setCell ⟨w.heap.size, 2, none⟩ (.int .u64 (s2 : Nat))).setCell ⟨w.heap.size, 3, none⟩ (.int .u64 (s3 : Nat))).cell? ⟨w.heap.size, 3, none⟩ = some (.int .u64 (s3 : Nat)) := HS.cell 3
      refine bodyPost_ret (v := .tuple #[.agg #[.int .u64 (s0 : Nat), .int .u64 (s1 : Nat), .int .u64 (s2 : Nat), .int .u64 (s3 : Nat)], .bool bb]) (by simp [results, Try.results14, go_sem, g0, g1, g2, g3]) rfl ⟨s0, s1, s2, s3, by rw [HBB.out], ws, VS.out, b⟩


end Go.Proofs.Ytnipajfglmahiaa
