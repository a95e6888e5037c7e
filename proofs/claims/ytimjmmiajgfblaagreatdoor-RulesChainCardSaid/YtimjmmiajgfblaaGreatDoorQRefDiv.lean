/- Div of the document's answers of layer 2, at every two numbers: digit by digit, from the highest one on. -/
import Derived.Test.YtimjmmiajgfblaaGreatDoorGbb
import Derived.Test.YtimjmmiajgfblaaGreatDoorGah
import Derived.Deep.OwnRows

namespace Go.Proofs.YtimjmmiajgfblaaGreatDoor.Bg
set_option maxRecDepth 100000
open Go.RowKit

def RUp1Is (x0 x1 x2 x3 s0 s1 s2 s3 : Nat) : Prop := ∀ w : World, Calls Tryz.prog 52 #[.agg #[.int .u64 (x0 : Nat), .int .u64 (x1 : Nat), .int .u64 (x2 : Nat), .int .u64 (x3 : Nat)], .int .i64 1] w fun e w' => e = .returned (.agg #[.int .u64 (s0 : Nat), .int .u64 (s1 : Nat), .int .u64 (s2 : Nat), .int .u64 (s3 : Nat)]) ∧ Below w.heap.size w w'
theorem rup1Is {a0 a1 a2 a3 s0 s1 s2 s3 : Nat} (ha : Words a0 a1 a2 a3) (hs : Words s0 s1 s2 s3) (h : val s0 s1 s2 s3 = 2 * val a0 a1 a2 a3 % 115792089237316195423570985008687907853269984665640564039457584007913129639936) : RUp1Is a0 a1 a2 a3 s0 s1 s2 s3 := by
  intro w
  refine (refup_any ha 1 (by omega) (by omega) w).mono fun e w' ⟨o0, o1, o2, o3, he, wo, vo, hb⟩ => ?_
  rw [Nat.pow_one, Nat.mul_comm] at vo
  obtain ⟨rfl, rfl, rfl, rfl⟩ := val_inj wo hs (vo.trans h.symm)
  exact ⟨he, hb⟩
def RLessIs (x0 x1 x2 x3 y0 y1 y2 y3 : Nat) (r : Bool) : Prop := ∀ w : World, Calls Tryz.prog 25 #[.agg #[.int .u64 (x0 : Nat), .int .u64 (x1 : Nat), .int .u64 (x2 : Nat), .int .u64 (x3 : Nat)], .agg #[.int .u64 (y0 : Nat), .int .u64 (y1 : Nat), .int .u64 (y2 : Nat), .int .u64 (y3 : Nat)]] w fun e w' => e = .returned (.bool r) ∧ Below w.heap.size w w'
def RSubIs (x0 x1 x2 x3 y0 y1 y2 y3 s0 s1 s2 s3 : Nat) (o : Bool) : Prop := ∀ w : World, Calls Tryz.prog 79 #[.agg #[.int .u64 (x0 : Nat), .int .u64 (x1 : Nat), .int .u64 (x2 : Nat), .int .u64 (x3 : Nat)], .agg #[.int .u64 (y0 : Nat), .int .u64 (y1 : Nat), .int .u64 (y2 : Nat), .int .u64 (y3 : Nat)]] w fun e w' => e = .returned (.tuple #[.agg #[.int .u64 (s0 : Nat), .int .u64 (s1 : Nat), .int .u64 (s2 : Nat), .int .u64 (s3 : Nat)], .bool o]) ∧ Below w.heap.size w w'
theorem rsubIs {a0 a1 a2 a3 b0 b1 b2 b3 s0 s1 s2 s3 : Nat} (ha : Words a0 a1 a2 a3) (hb : Words b0 b1 b2 b3) (hs : Words s0 s1 s2 s3) (h : val s0 s1 s2 s3 = (val a0 a1 a2 a3 + 115792089237316195423570985008687907853269984665640564039457584007913129639936 - val b0 b1 b2 b3) % 115792089237316195423570985008687907853269984665640564039457584007913129639936) : RSubIs a0 a1 a2 a3 b0 b1 b2 b3 s0 s1 s2 s3 (decide (val a0 a1 a2 a3 < val b0 b1 b2 b3)) := by
  intro w
  refine (refsub_any ha hb _ rfl w).mono fun e w' ⟨o0, o1, o2, o3, he, wo, vo, hb⟩ => ?_
  obtain ⟨rfl, rfl, rfl, rfl⟩ := val_inj wo hs (vo.trans h.symm)
  exact ⟨he, hb⟩
theorem RSubIs.any {a0 a1 a2 a3 b0 b1 b2 b3 s0 s1 s2 s3 : Nat} {o : Bool} (h : RSubIs a0 a1 a2 a3 b0 b1 b2 b3 s0 s1 s2 s3 o) (w : World) : Calls Tryz.prog 79 #[.agg #[.int .u64 (a0 : Nat), .int .u64 (a1 : Nat), .int .u64 (a2 : Nat), .int .u64 (a3 : Nat)], .agg #[.int .u64 (b0 : Nat), .int .u64 (b1 : Nat), .int .u64 (b2 : Nat), .int .u64 (b3 : Nat)]] w fun e w' => e = .returned (.tuple #[.agg #[.int .u64 (s0 : Nat), .int .u64 (s1 : Nat), .int .u64 (s2 : Nat), .int .u64 (s3 : Nat)], .bool o]) ∧ Below w.heap.size w w' := h w

/-- The state of the division where the digits from m on are known. -/
structure DivAt (w : World) (Q m : Nat) (ca cb cr row : Array Value) (wr : World) : Prop where
  a : Holds wr w.heap.size ca 51
  b : Holds wr (w.heap.size + 1) cb 51
  p : Holds wr (w.heap.size + 2) #[.int .u64 0, .int .u64 0, .int .u64 0, .int .u64 0] 51
  q : Holds wr (w.heap.size + 3) #[.int .u64 0, .int .u64 0, .int .u64 0, .int .u64 0] 51
  r : Holds wr (w.heap.size + 5) cr 51
  l : Holds wr (w.heap.size + 6) row 3
  size : row.size = 256
  digits : ∀ j, j < 256 → row[j]? = some (.int .i64 ((if j < m then 0 else Q / 2 ^ j % 2 : Nat) : Int))
  bel : Below w.heap.size w wr
theorem DivAt.later {w wr w1 : World} {Q m : Nat} {ca cb cr row : Array Value} (h : DivAt w Q m ca cb cr row wr) (g : Below wr.heap.size wr w1) : DivAt w Q m ca cb cr row w1 :=
  ⟨h.a.later g, h.b.later g, h.p.later g, h.q.later g, h.r.later g, h.l.later g, h.size, h.digits, h.bel.trans (g.mono h.bel.size)⟩
theorem DivAt.setr {w wr : World} {Q m : Nat} {ca cb cr row : Array Value} (h : DivAt w Q m ca cb cr row wr) (k : Nat) (v : Value) : DivAt w Q m ca cb (cr.setIfInBounds k v) row (wr.setCell ⟨w.heap.size + 5, k, none⟩ v) :=
  ⟨h.a.other (by omega) v, h.b.other (by omega) v, h.p.other (by omega) v, h.q.other (by omega) v, h.r.set v, h.l.other (by omega) v, h.size, h.digits, h.bel.setCell (by simp) v⟩
theorem DivAt.take {w wr : World} {Q k : Nat} {ca cb cr row : Array Value} (h : DivAt w Q (k + 1) ca cb cr row wr) (_hk : k < 256) (hq : Q / 2 ^ k % 2 = 1) :
    DivAt w Q k ca cb cr (row.setIfInBounds k (.int .i64 1)) (wr.setCell ⟨w.heap.size + 6, k, none⟩ (.int .i64 1)) :=
  ⟨h.a.other (by omega) _, h.b.other (by omega) _, h.p.other (by omega) _, h.q.other (by omega) _, h.r.other (by omega) _, h.l.set _, by simp [h.size], fun j hj => by
    have hd := h.digits j hj
    by_cases e : k = j
    · subst e
      rw [Array.getElem?_setIfInBounds_self_of_lt (by rw [h.size]; omega), if_neg (by omega), hq]; rfl
    · rw [Array.getElem?_setIfInBounds_ne e, hd]
      by_cases lt : j < k
      · rw [if_pos lt, if_pos (by omega)]
      · rw [if_neg lt, if_neg (by omega)], h.bel.setCell (by simp) _⟩
theorem DivAt.pass {w wr : World} {Q k : Nat} {ca cb cr row : Array Value} (h : DivAt w Q (k + 1) ca cb cr row wr) (hq : Q / 2 ^ k % 2 = 0) : DivAt w Q k ca cb cr row wr :=
  ⟨h.a, h.b, h.p, h.q, h.r, h.l, h.size, fun j hj => by
    rw [h.digits j hj]
    by_cases lt : j < k
    · rw [if_pos lt, if_pos (by omega)]
    · rw [if_neg lt]
      by_cases e : j = k
      · rw [e, if_pos (by omega), hq]
      · rw [if_neg (by omega)], h.bel⟩

/-- One digit of a division. -/
theorem digit (N x b : Nat) (hb : 0 < b) (hx : x ≤ 1) : (2 * N + x) % b = (if b ≤ 2 * (N % b) + x then 2 * (N % b) + x - b else 2 * (N % b) + x) ∧ (2 * N + x) / b % 2 = (if b ≤ 2 * (N % b) + x then 1 else 0) := by
  have h1 := Nat.div_add_mod N b
  have h2 := Nat.mod_lt N hb
  have e : 2 * N + x = 2 * (N % b) + x + b * (2 * (N / b)) := by
    rw [Nat.mul_left_comm]; omega
  rw [e, Nat.add_mul_mod_self_left, Nat.add_mul_div_left _ _ hb]
  generalize N % b = r at *
  split
  · rename_i h
    have e1 : (2 * r + x) / b = 1 := by
      have : (2 * r + x) / b < 2 := by rw [Nat.div_lt_iff_lt_mul hb]; omega
      have : 1 ≤ (2 * r + x) / b := by rw [Nat.le_div_iff_mul_le hb]; omega
      omega
    have e2 := Nat.div_add_mod (2 * r + x) b
    rw [e1, Nat.mul_one] at e2
    exact ⟨by omega, by rw [e1]; omega⟩
  · rename_i h
    rw [Nat.mod_eq_of_lt (by omega), Nat.div_eq_of_lt (by omega)]
    exact ⟨rfl, by omega⟩

def DPost (Q D : Nat) (w : World) (e : Ending) (w' : World) : Prop := ∃ q0 q1 q2 q3 r0 r1 r2 r3 : Nat, e = .returned (.tuple #[.agg #[.int .u64 (q0 : Nat), .int .u64 (q1 : Nat), .int .u64 (q2 : Nat), .int .u64 (q3 : Nat)], .agg #[.int .u64 (r0 : Nat), .int .u64 (r1 : Nat), .int .u64 (r2 : Nat), .int .u64 (r3 : Nat)], .int .i64 0]) ∧ Words q0 q1 q2 q3 ∧ Words r0 r1 r2 r3 ∧ val q0 q1 q2 q3 = Q ∧ val r0 r1 r2 r3 = D ∧ Below w.heap.size w w'

theorem words_split {x : Nat} (h : x < 115792089237316195423570985008687907853269984665640564039457584007913129639936) : ∃ x0 x1 x2 x3 : Nat, Words x0 x1 x2 x3 ∧ val x0 x1 x2 x3 = x := by
  refine ⟨x % 18446744073709551616, x / 18446744073709551616 % 18446744073709551616, x / 18446744073709551616 / 18446744073709551616 % 18446744073709551616, x / 18446744073709551616 / 18446744073709551616 / 18446744073709551616, ⟨by omega, by omega, by omega, by omega⟩, ?_⟩
  unfold val; omega
theorem from_words (X : Nat) (hX : X < 115792089237316195423570985008687907853269984665640564039457584007913129639936) : ∃ o0 o1 o2 o3 : Nat, Words o0 o1 o2 o3 ∧ val o0 o1 o2 o3 = X ∧ ∀ (w : World) (B cap : Nat), B < w.heap.size → BitCells w B X → Calls Tryz.prog 55 #[.slice (some ⟨B, 0, none⟩) 256 cap] w fun e w' => e = .returned (.agg #[.int .u64 (o0 : Nat), .int .u64 (o1 : Nat), .int .u64 (o2 : Nat), .int .u64 (o3 : Nat)]) ∧ Below w.heap.size w w' := by
  obtain ⟨o0, o1, o2, o3, wo, vo⟩ := words_split hX
  refine ⟨o0, o1, o2, o3, wo, vo, fun w B cap hB hc => ?_⟩
  refine (from_any X B cap w hB hc).mono fun e w' ⟨p0, p1, p2, p3, he, wp, vp, hb⟩ => ?_
  rw [Nat.mod_eq_of_lt hX] at vp
  obtain ⟨rfl, rfl, rfl, rfl⟩ := val_inj wp wo (vp.trans vo.symm)
  exact ⟨he, hb⟩
theorem or_low (u x v : Nat) (he : u % 2 = 0) (hx : x ≤ 1) (hu : u < 18446744073709551616) (hv : v = u + x) : bits BinOp.or IntKind.u64 (u : Int) (x : Int) = (v : Int) := by
  rw [bits_or_u64_nat u x hu (by omega)]
  have := Nat.two_pow_add_eq_or_of_lt (i := 1) (b := x) (by omega) (u / 2)
  rw [Nat.pow_one, show 2 * (u / 2) = u by omega] at this
  rw [← this, hv]

set_option maxRecDepth 100000 in
set_option maxHeartbeats 40000000 in
theorem refdiv_any {a0 a1 a2 a3 b0 b1 b2 b3 : Nat} (ha : Words a0 a1 a2 a3) (hb : Words b0 b1 b2 b3) (pos : 0 < val b0 b1 b2 b3) (ez : ∀ w : World, (Op.equalIn 10000 51 (.agg #[.int .u64 (b0 : Nat), .int .u64 (b1 : Nat), .int .u64 (b2 : Nat), .int .u64 (b3 : Nat)]) (.agg #[.int .u64 0, .int .u64 0, .int .u64 0, .int .u64 0])).run Tryz.prog w = .ok false w) (w : World) :
    Calls Tryz.prog 64 #[.agg #[.int .u64 (a0 : Nat), .int .u64 (a1 : Nat), .int .u64 (a2 : Nat), .int .u64 (a3 : Nat)], .agg #[.int .u64 (b0 : Nat), .int .u64 (b1 : Nat), .int .u64 (b2 : Nat), .int .u64 (b3 : Nat)]] w (DPost (val a0 a1 a2 a3 / val b0 b1 b2 b3) (val a0 a1 a2 a3 % val b0 b1 b2 b3) w) := by
  obtain ⟨i0, hi, hz0, hz1, hz2⟩ := info_parts Tryz.infoInt
  have lA : val a0 a1 a2 a3 < 115792089237316195423570985008687907853269984665640564039457584007913129639936 := by obtain ⟨_, _, _, _⟩ := ha; unfold val; omega
  have lB : val b0 b1 b2 b3 < 115792089237316195423570985008687907853269984665640564039457584007913129639936 := by obtain ⟨_, _, _, _⟩ := hb; unfold val; omega
  have LA := Lib.hid lA
  have LB := Lib.hid lB
  have POS := Lib.hid pos
  clear lA lB pos
  go_enter Tryz.func64, Tryz.ntmps64
  go_wp2_with (refine wpList_make_row _ rfl _ _ 84 rfl 3 i0 (.int .i64 0) Tryz.underlying84 hi hz0 hz1 rfl .i64 .i64 256 rfl rfl (by rw [hz2]; omega) (by omega) ?_)
  clear ez
  go_loopw [10] (fun i wr => ∃ (m : Nat) (z : Int) (r0 r1 r2 r3 : Nat) (row : Array Value), m ≤ 256 ∧ z + 1 = (m : Int) ∧ i = .int .i64 z ∧ Words r0 r1 r2 r3 ∧ val r0 r1 r2 r3 = val a0 a1 a2 a3 / 2 ^ m % val b0 b1 b2 b3 ∧ DivAt w (val a0 a1 a2 a3 / val b0 b1 b2 b3) m #[.int .u64 (a0 : Nat), .int .u64 (a1 : Nat), .int .u64 (a2 : Nat), .int .u64 (a3 : Nat)] #[.int .u64 (b0 : Nat), .int .u64 (b1 : Nat), .int .u64 (b2 : Nat), .int .u64 (b3 : Nat)] #[.int .u64 (r0 : Nat), .int .u64 (r1 : Nat), .int .u64 (r2 : Nat), .int .u64 (r3 : Nat)] row wr) (fun i _ => (intOf i + 1).toNat)
  case atStart =>
    have chain : ∀ (w1 : World) (i : Nat) (c : Array Value) (T : TypeId), w1.heap.size = w.heap.size + i → Holds (w1.alloc (.cells c T)) (w.heap.size + i) c T := fun w1 i c T h => by rw [← h]; exact Holds.new _ _ _
    have up : ∀ {w1 : World} {b : Nat} {c : Array Value} {T : TypeId} (o : Obj), Holds w1 b c T → Holds (w1.alloc o) b c T := fun o h => h.later ((Below.refl _ _).alloc (Nat.le_refl _) o)
    have lst : ∀ j, j < 256 → (madeCells #[.int .i64 0] 256)[j]? = some (.int .i64 0) := fun j hj => by
      rw [← Array.getElem?_toList, toList_madeCells_one, List.getElem?_replicate_of_lt hj]
    refine ⟨256, 255, 0, 0, 0, 0, madeCells #[.int .i64 0] 256, by omega, by omega, rfl, ⟨by omega, by omega, by omega, by omega⟩, ?_, ?_⟩
    · rw [show (2 : Nat) ^ 256 = 115792089237316195423570985008687907853269984665640564039457584007913129639936 by decide, Nat.div_eq_of_lt LA.out, Nat.zero_mod]; rfl
    · refine ⟨up _ (up _ (up _ (up _ (up _ (up _ (Holds.new _ _ _)))))), up _ (up _ (up _ (up _ (up _ (chain _ 1 _ _ (by simp)))))), up _ (up _ (up _ (up _ (chain _ 2 _ _ (by simp))))), up _ (up _ (up _ (chain _ 3 _ _ (by simp)))), up _ (chain _ 5 _ _ (by simp)), chain _ 6 _ _ (by simp), size_madeCells _ _, fun j hj => ?_, ?_⟩
      · rw [lst j hj, if_pos hj]; rfl
      · exact (((((((Below.refl _ _).alloc (Nat.le_refl _) _).alloc (by simp) _).alloc (by simp; omega) _).alloc (by simp; omega) _).alloc (by simp; omega) _).alloc (by simp; omega) _).alloc (by simp; omega) _
  case round =>
    obtain ⟨m, z, r0, r1, r2, r3, row, hm, hz, rfl, wr', vr, L⟩ := hrel
    by_cases h0 : m = 0
    · obtain rfl : z = -1 := by omega
      subst h0
      rw [Nat.pow_zero, Nat.div_one] at vr
      have hbits : BitCells wr (w.heap.size + 6) (val a0 a1 a2 a3 / val b0 b1 b2 b3) := fun k hk => by
        rw [L.l.cell k, L.digits k hk, if_neg (by omega)]
      have HB := Lib.hid hbits
      have HV := Lib.hid vr
      have WR := Lib.hid wr'
      have hl6 := L.l.lt
      clear vr wr' hbits
      go_wp2_with fail
      obtain ⟨o0, o1, o2, o3, wo, vo, co⟩ := from_words (val a0 a1 a2 a3 / val b0 b1 b2 b3) (Nat.lt_of_le_of_lt (Nat.div_le_self _ _) LA.out)
      have LD := L.later (w1 := wr.drew) ((Below.refl _ _).drew)
      have HBD : Hid (BitCells wr.drew (w.heap.size + 6) (val a0 a1 a2 a3 / val b0 b1 b2 b3)) := fun k hk => by
        rw [LD.l.cell k, LD.digits k hk, if_neg (by omega)]
      have HLD := Lib.hid LD.l.lt
      have CO := Lib.hid co
      have WO := Lib.hid wo
      have VO := Lib.hid vo
      have rd0 : wr.drew.cell? ⟨w.heap.size + 5, 0, none⟩ = some (.int .u64 (r0 : Nat)) := LD.r.cell 0
      have rd1 : wr.drew.cell? ⟨w.heap.size + 5, 1, none⟩ = some (.int .u64 (r1 : Nat)) := LD.r.cell 1
      have rd2 : wr.drew.cell? ⟨w.heap.size + 5, 2, none⟩ = some (.int .u64 (r2 : Nat)) := LD.r.cell 2
      have rd3 : wr.drew.cell? ⟨w.heap.size + 5, 3, none⟩ = some (.int .u64 (r3 : Nat)) := LD.r.cell 3
      clear HB hl6 L co wo vo
      go_region_with (
        go_at_call 55
        refine (CO.out _ _ _ HLD.out HBD.out).mono ?_
        rintro e wg ⟨rfl, hu⟩
        have L5 := LD.later hu
        have pc0 : wg.cell? ⟨w.heap.size + 2, 0, none⟩ = some (.int .u64 0) := L5.p.cell 0
        have pz0 : wg.frozen? ⟨w.heap.size + 2, 0, none⟩ = false := L5.p.free 0
        have qc0 : wg.cell? ⟨w.heap.size + 3, 0, none⟩ = some (.int .u64 0) := L5.q.cell 0
        have qz0 : wg.frozen? ⟨w.heap.size + 3, 0, none⟩ = false := L5.q.free 0
        have rc0 : wg.cell? ⟨w.heap.size + 5, 0, none⟩ = some (.int .u64 (r0 : Nat)) := L5.r.cell 0
        have pc1 : wg.cell? ⟨w.heap.size + 2, 1, none⟩ = some (.int .u64 0) := L5.p.cell 1
        have pz1 : wg.frozen? ⟨w.heap.size + 2, 1, none⟩ = false := L5.p.free 1
        have qc1 : wg.cell? ⟨w.heap.size + 3, 1, none⟩ = some (.int .u64 0) := L5.q.cell 1
        have qz1 : wg.frozen? ⟨w.heap.size + 3, 1, none⟩ = false := L5.q.free 1
        have rc1 : wg.cell? ⟨w.heap.size + 5, 1, none⟩ = some (.int .u64 (r1 : Nat)) := L5.r.cell 1
        have pc2 : wg.cell? ⟨w.heap.size + 2, 2, none⟩ = some (.int .u64 0) := L5.p.cell 2
        have pz2 : wg.frozen? ⟨w.heap.size + 2, 2, none⟩ = false := L5.p.free 2
        have qc2 : wg.cell? ⟨w.heap.size + 3, 2, none⟩ = some (.int .u64 0) := L5.q.cell 2
        have qz2 : wg.frozen? ⟨w.heap.size + 3, 2, none⟩ = false := L5.q.free 2
        have rc2 : wg.cell? ⟨w.heap.size + 5, 2, none⟩ = some (.int .u64 (r2 : Nat)) := L5.r.cell 2
        have pc3 : wg.cell? ⟨w.heap.size + 2, 3, none⟩ = some (.int .u64 0) := L5.p.cell 3
        have pz3 : wg.frozen? ⟨w.heap.size + 2, 3, none⟩ = false := L5.p.free 3
        have qc3 : wg.cell? ⟨w.heap.size + 3, 3, none⟩ = some (.int .u64 0) := L5.q.cell 3
        have qz3 : wg.frozen? ⟨w.heap.size + 3, 3, none⟩ = false := L5.q.free 3
        have rc3 : wg.cell? ⟨w.heap.size + 5, 3, none⟩ = some (.int .u64 (r3 : Nat)) := L5.r.cell 3
        have L6 := Lib.hid L5
        clear L5 hu)
      all_goals
        go_wp2_with fail
        have b := ((((((((L6.out.bel.setCell (p := ⟨w.heap.size + 2, 0, none⟩) (by simp) (.int .u64 (o0 : Nat))).setCell (p := ⟨w.heap.size + 2, 1, none⟩) (by simp) (.int .u64 (o1 : Nat))).setCell (p := ⟨w.heap.size + 2, 2, none⟩) (by simp) (.int .u64 (o2 : Nat))).setCell (p := ⟨w.heap.size + 2, 3, none⟩) (by simp) (.int .u64 (o3 : Nat))).setCell (p := ⟨w.heap.size + 3, 0, none⟩) (by simp) (.int .u64 (r0 : Nat))).setCell (p := ⟨w.heap.size + 3, 1, none⟩) (by simp) (.int .u64 (r1 : Nat))).setCell (p := ⟨w.heap.size + 3, 2, none⟩) (by simp) (.int .u64 (r2 : Nat))).setCell (p := ⟨w.heap.size + 3, 3, none⟩) (by simp) (.int .u64 (r3 : Nat)))
        have HP : Holds ((((((((wg.setCell ⟨w.heap.size + 2, 0, none⟩ (.int .u64 (o0 : Nat))).setCell ⟨w.heap.size + 2, 1, none⟩ (.int .u64 (o1 : Nat))).setCell ⟨w.heap.size + 2, 2, none⟩ (.int .u64 (o2 : Nat))).setCell ⟨w.heap.size + 2, 3, none⟩ (.int .u64 (o3 : Nat))).setCell ⟨w.heap.size + 3, 0, none⟩ (.int .u64 (r0 : Nat))).setCell ⟨w.heap.size + 3, 1, none⟩ (.int .u64 (r1 : Nat))).setCell ⟨w.heap.size + 3, 2, none⟩ (.int .u64 (r2 : Nat))).setCell ⟨w.heap.size + 3, 3, none⟩ (.int .u64 (r3 : Nat))) (w.heap.size + 2) #[.int .u64 (o0 : Nat), .int .u64 (o1 : Nat), .int .u64 (o2 : Nat), .int .u64 (o3 : Nat)] 51 := ((((((((L6.out.p.set (q := 0) (.int .u64 (o0 : Nat))).set (q := 1) (.int .u64 (o1 : Nat))).set (q := 2) (.int .u64 (o2 : Nat))).set (q := 3) (.int .u64 (o3 : Nat))).other (k := w.heap.size + 3) (q := 0) (by omega) (.int .u64 (r0 : Nat))).other (k := w.heap.size + 3) (q := 1) (by omega) (.int .u64 (r1 : Nat))).other (k := w.heap.size + 3) (q := 2) (by omega) (.int .u64 (r2 : Nat))).other (k := w.heap.size + 3) (q := 3) (by omega) (.int .u64 (r3 : Nat)))
        have HQ : Holds ((((((((wg.setCell ⟨w.heap.size + 2, 0, none⟩ (.int .u64 (o0 : Nat))).setCell ⟨w.heap.size + 2, 1, none⟩ (.int .u64 (o1 : Nat))).setCell ⟨w.heap.size + 2, 2, none⟩ (.int .u64 (o2 : Nat))).setCell ⟨w.heap.size + 2, 3, none⟩ (.int .u64 (o3 : Nat))).setCell ⟨w.heap.size + 3, 0, none⟩ (.int .u64 (r0 : Nat))).setCell ⟨w.heap.size + 3, 1, none⟩ (.int .u64 (r1 : Nat))).setCell ⟨w.heap.size + 3, 2, none⟩ (.int .u64 (r2 : Nat))).setCell ⟨w.heap.size + 3, 3, none⟩ (.int .u64 (r3 : Nat))) (w.heap.size + 3) #[.int .u64 (r0 : Nat), .int .u64 (r1 : Nat), .int .u64 (r2 : Nat), .int .u64 (r3 : Nat)] 51 := ((((((((L6.out.q.other (k := w.heap.size + 2) (q := 0) (by omega) (.int .u64 (o0 : Nat))).other (k := w.heap.size + 2) (q := 1) (by omega) (.int .u64 (o1 : Nat))).other (k := w.heap.size + 2) (q := 2) (by omega) (.int .u64 (o2 : Nat))).other (k := w.heap.size + 2) (q := 3) (by omega) (.int .u64 (o3 : Nat))).set (q := 0) (.int .u64 (r0 : Nat))).set (q := 1) (.int .u64 (r1 : Nat))).set (q := 2) (.int .u64 (r2 : Nat))).set (q := 3) (.int .u64 (r3 : Nat)))
        have gp0 : ((((((((wg.setCell ⟨w.heap.size + 2, 0, none⟩ (.int .u64 (o0 : Nat))).setCell ⟨w.heap.size + 2, 1, none⟩ (.int .u64 (o1 : Nat))).setCell ⟨w.heap.size + 2, 2, none⟩ (.int .u64 (o2 : Nat))).setCell ⟨w.heap.size + 2, 3, none⟩ (.int .u64 (o3 : Nat))).setCell ⟨w.heap.size + 3, 0, none⟩ (.int .u64 (r0 : Nat))).setCell ⟨w.heap.size + 3, 1, none⟩ (.int .u64 (r1 : Nat))).setCell ⟨w.heap.size + 3, 2, none⟩ (.int .u64 (r2 : Nat))).setCell ⟨w.heap.size + 3, 3, none⟩ (.int .u64 (r3 : Nat))).cell? ⟨w.heap.size + 2, 0, none⟩ = some (.int .u64 (o0 : Nat)) := HP.cell 0
        have gq0 : ((((((((wg.setCell ⟨w.heap.size + 2, 0, none⟩ (.int .u64 (o0 : Nat))).setCell ⟨w.heap.size + 2, 1, none⟩ (.int .u64 (o1 : Nat))).setCell ⟨w.heap.size + 2, 2, none⟩ (.int .u64 (o2 : Nat))).setCell ⟨w.heap.size + 2, 3, none⟩ (.int .u64 (o3 : Nat))).setCell ⟨w.heap.size + 3, 0, none⟩ (.int .u64 (r0 : Nat))).setCell ⟨w.heap.size + 3, 1, none⟩ (.int .u64 (r1 : Nat))).setCell ⟨w.heap.size + 3, 2, none⟩ (.int .u64 (r2 : Nat))).setCell ⟨w.heap.size + 3, 3, none⟩ (.int .u64 (r3 : Nat))).cell? ⟨w.heap.size + 3, 0, none⟩ = some (.int .u64 (r0 : Nat)) := HQ.cell 0
        have gp1 : ((((((((wg.setCell ⟨w.heap.size + 2, 0, none⟩ (.int .u64 (o0 : Nat))).setCell ⟨w.heap.size + 2, 1, none⟩ (.int .u64 (o1 : Nat))).setCell ⟨w.heap.size + 2, 2, none⟩ (.int .u64 (o2 : Nat))).setCell ⟨w.heap.size + 2, 3, none⟩ (.int .u64 (o3 : Nat))).setCell ⟨w.heap.size + 3, 0, none⟩ (.int .u64 (r0 : Nat))).setCell ⟨w.heap.size + 3, 1, none⟩ (.int .u64 (r1 : Nat))).setCell ⟨w.heap.size + 3, 2, none⟩ (.int .u64 (r2 : Nat))).setCell ⟨w.heap.size + 3, 3, none⟩ (.int .u64 (r3 : Nat))).cell? ⟨w.heap.size + 2, 1, none⟩ = some (.int .u64 (o1 : Nat)) := HP.cell 1
        have gq1 : ((((((((wg.setCell ⟨w.heap.size + 2, 0, none⟩ (.int .u64 (o0 : Nat))).setCell ⟨w.heap.size + 2, 1, none⟩ (.int .u64 (o1 : Nat))).setCell ⟨w.heap.size + 2, 2, none⟩ (.int .u64 (o2 : Nat))).setCell ⟨w.heap.size + 2, 3, none⟩ (.int .u64 (o3 : Nat))).setCell ⟨w.heap.size + 3, 0, none⟩ (.int .u64 (r0 : Nat))).setCell ⟨w.heap.size + 3, 1, none⟩ (.int .u64 (r1 : Nat))).setCell ⟨w.heap.size + 3, 2, none⟩ (.int .u64 (r2 : Nat))).setCell ⟨w.heap.size + 3, 3, none⟩ (.int .u64 (r3 : Nat))).cell? ⟨w.heap.size + 3, 1, none⟩ = some (.int .u64 (r1 : Nat)) := HQ.cell 1
        have gp2 : ((((((((wg.setCell ⟨w.heap.size + 2, 0, none⟩ (.int .u64 (o0 : Nat))).setCell ⟨w.heap.size + 2, 1, none⟩ (.int .u64 (o1 : Nat))).setCell ⟨w.heap.size + 2, 2, none⟩ (.int .u64 (o2 : Nat))).setCell ⟨w.heap.size + 2, 3, none⟩ (.int .u64 (o3 : Nat))).setCell ⟨w.heap.size + 3, 0, none⟩ (.int .u64 (r0 : Nat))).setCell ⟨w.heap.size + 3, 1, none⟩ (.int .u64 (r1 : Nat))).setCell ⟨w.heap.size + 3, 2, none⟩ (.int .u64 (r2 : Nat))).setCell ⟨w.heap.size + 3, 3, none⟩ (.int .u64 (r3 : Nat))).cell? ⟨w.heap.size + 2, 2, none⟩ = some (.int .u64 (o2 : Nat)) := HP.cell 2
        have gq2 : ((((((((wg.setCell ⟨w.heap.size + 2, 0, none⟩ (.int .u64 (o0 : Nat))).setCell ⟨w.heap.size + 2, 1, none⟩ (.int .u64 (o1 : Nat))).setCell ⟨w.heap.size + 2, 2, none⟩ (.int .u64 (o2 : Nat))).setCell ⟨w.heap.size + 2, 3, none⟩ (.int .u64 (o3 : Nat))).setCell ⟨w.heap.size + 3, 0, none⟩ (.int .u64 (r0 : Nat))).setCell ⟨w.heap.size + 3, 1, none⟩ (.int .u64 (r1 : Nat))).setCell ⟨w.heap.size + 3, 2, none⟩ (.int .u64 (r2 : Nat))).setCell ⟨w.heap.size + 3, 3, none⟩ (.int .u64 (r3 : Nat))).cell? ⟨w.heap.size + 3, 2, none⟩ = some (.int .u64 (r2 : Nat)) := HQ.cell 2
        have gp3 : ((((((((wg.setCell ⟨w.heap.size + 2, 0, none⟩ (.int .u64 (o0 : Nat))).setCell ⟨w.heap.size + 2, 1, none⟩ (.int .u64 (o1 : Nat))).setCell ⟨w.heap.size + 2, 2, none⟩ (.int .u64 (o2 : Nat))).setCell ⟨w.heap.size + 2, 3, none⟩ (.int .u64 (o3 : Nat))).setCell ⟨w.heap.size + 3, 0, none⟩ (.int .u64 (r0 : Nat))).setCell ⟨w.heap.size + 3, 1, none⟩ (.int .u64 (r1 : Nat))).setCell ⟨w.heap.size + 3, 2, none⟩ (.int .u64 (r2 : Nat))).setCell ⟨w.heap.size + 3, 3, none⟩ (.int .u64 (r3 : Nat))).cell? ⟨w.heap.size + 2, 3, none⟩ = some (.int .u64 (o3 : Nat)) := HP.cell 3
        have gq3 : ((((((((wg.setCell ⟨w.heap.size + 2, 0, none⟩ (.int .u64 (o0 : Nat))).setCell ⟨w.heap.size + 2, 1, none⟩ (.int .u64 (o1 : Nat))).setCell ⟨w.heap.size + 2, 2, none⟩ (.int .u64 (o2 : Nat))).setCell ⟨w.heap.size + 2, 3, none⟩ (.int .u64 (o3 : Nat))).setCell ⟨w.heap.size + 3, 0, none⟩ (.int .u64 (r0 : Nat))).setCell ⟨w.heap.size + 3, 1, none⟩ (.int .u64 (r1 : Nat))).setCell ⟨w.heap.size + 3, 2, none⟩ (.int .u64 (r2 : Nat))).setCell ⟨w.heap.size + 3, 3, none⟩ (.int .u64 (r3 : Nat))).cell? ⟨w.heap.size + 3, 3, none⟩ = some (.int .u64 (r3 : Nat)) := HQ.cell 3
        refine bodyPost_ret (v := .tuple #[.agg #[.int .u64 (o0 : Nat), .int .u64 (o1 : Nat), .int .u64 (o2 : Nat), .int .u64 (o3 : Nat)], .agg #[.int .u64 (r0 : Nat), .int .u64 (r1 : Nat), .int .u64 (r2 : Nat), .int .u64 (r3 : Nat)], .int .i64 0]) (by simp [results, Tryz.results64, go_sem, gp0, gp1, gp2, gp3, gq0, gq1, gq2, gq3]) rfl ⟨o0, o1, o2, o3, r0, r1, r2, r3, rfl, WO.out, WR.out, VO.out, HV.out, b⟩
    · obtain ⟨k, rfl⟩ : ∃ k, m = k + 1 := ⟨m - 1, by omega⟩
      obtain rfl : z = (k : Int) := by omega
      have hlt : k < 256 := by omega
      have t1 : decide ((0 : Int) ≤ (k : Int)) = true := decide_eq_true (by omega)
      have rc0 : wr.cell? ⟨w.heap.size + 5, 0, none⟩ = some (.int .u64 (r0 : Nat)) := L.r.cell 0
      have rz0 : wr.frozen? ⟨w.heap.size + 5, 0, none⟩ = false := L.r.free 0
      have rc1 : wr.cell? ⟨w.heap.size + 5, 1, none⟩ = some (.int .u64 (r1 : Nat)) := L.r.cell 1
      have rz1 : wr.frozen? ⟨w.heap.size + 5, 1, none⟩ = false := L.r.free 1
      have rc2 : wr.cell? ⟨w.heap.size + 5, 2, none⟩ = some (.int .u64 (r2 : Nat)) := L.r.cell 2
      have rz2 : wr.frozen? ⟨w.heap.size + 5, 2, none⟩ = false := L.r.free 2
      have rc3 : wr.cell? ⟨w.heap.size + 5, 3, none⟩ = some (.int .u64 (r3 : Nat)) := L.r.cell 3
      have rz3 : wr.frozen? ⟨w.heap.size + 5, 3, none⟩ = false := L.r.free 3

      obtain ⟨x, hx⟩ : ∃ x, x = val a0 a1 a2 a3 / 2 ^ k % 2 := ⟨_, rfl⟩
      have x1 : x ≤ 1 := by omega
      have CX := Lib.hid (bitIs ha hlt hx)
      have rl : val r0 r1 r2 r3 < val b0 b1 b2 b3 := by rw [vr]; exact Nat.mod_lt _ POS.out
      obtain ⟨tp, htp⟩ : ∃ tp, tp = val r0 r1 r2 r3 / 2 ^ 255 % 2 := ⟨_, rfl⟩
      have CT := Lib.hid (bitIs wr' (n := 255) (by omega) htp)
      have e255 : (2 : Nat) ^ 255 = 57896044618658097711785492504343953926634992332820282019728792003956564819968 := by decide
      rw [e255] at htp
      obtain ⟨u0, u1, u2, u3, wu, vu⟩ := words_split (x := 2 * val r0 r1 r2 r3 % 115792089237316195423570985008687907853269984665640564039457584007913129639936) (Nat.mod_lt _ (by decide))
      have CU := Lib.hid (rup1Is wr' wu vu)
      obtain ⟨v0, hv0⟩ : ∃ v0, v0 = u0 + x := ⟨_, rfl⟩
      have even : u0 % 2 = 0 := by unfold val at vu; omega
      have wv : Words v0 u1 u2 u3 := by obtain ⟨_, _, _, _⟩ := wu; exact ⟨by omega, by omega, by omega, by omega⟩
      have vv : val v0 u1 u2 u3 = 2 * val r0 r1 r2 r3 % 115792089237316195423570985008687907853269984665640564039457584007913129639936 + x := by rw [← vu, hv0]; unfold val; omega
      have ORX := Lib.hid (or_low u0 x v0 even x1 (by obtain ⟨h, _⟩ := wu; exact h) hv0)
      have lB' := LB.out
      obtain ⟨s0, s1, s2, s3, ws, vs⟩ := words_split (x := (val v0 u1 u2 u3 + 115792089237316195423570985008687907853269984665640564039457584007913129639936 - val b0 b1 b2 b3) % 115792089237316195423570985008687907853269984665640564039457584007913129639936) (Nat.mod_lt _ (by decide))
      have CS := Lib.hid (rsubIs wv hb ws vs)
      have step : val a0 a1 a2 a3 / 2 ^ k = 2 * (val a0 a1 a2 a3 / 2 ^ (k + 1)) + x := by rw [hx]; exact half_step _ k
      obtain ⟨d1, d2⟩ := digit (val a0 a1 a2 a3 / 2 ^ (k + 1)) x (val b0 b1 b2 b3) POS.out x1
      rw [← step, ← vr] at d1 d2
      have dq : val a0 a1 a2 a3 / val b0 b1 b2 b3 / 2 ^ k % 2 = val a0 a1 a2 a3 / 2 ^ k / val b0 b1 b2 b3 % 2 := by rw [Nat.div_div_eq_div_mul, Nat.mul_comm, ← Nat.div_div_eq_div_mul]
      rw [← dq] at d2
      have WV := Lib.hid wv
      have WS := Lib.hid ws
      clear wv ws wu vu hx step dq even hv0 vr
      by_cases top : tp = 1
      · have big : val b0 b1 b2 b3 ≤ 2 * val r0 r1 r2 r3 + x := by omega
        rw [if_pos big] at d1 d2
        have HQ := Lib.hid d2
        have HS : Hid (val s0 s1 s2 s3 = val a0 a1 a2 a3 / 2 ^ k % val b0 b1 b2 b3) := by
          show _ = _
          rw [d1, vs, vv]; omega
        clear d1 d2 vs vv big htp rl lB' e255
        subst top
        go_wp2_with fail
        refine (CT.out _).mono ?_
        rintro e w2 ⟨rfl, hc⟩
        have L2 := L.later hc
        clear hc L rc0 rz0 rc1 rz1 rc2 rz2 rc3 rz3
        have rc0 : w2.cell? ⟨w.heap.size + 5, 0, none⟩ = some (.int .u64 (r0 : Nat)) := L2.r.cell 0
        have rz0 : w2.frozen? ⟨w.heap.size + 5, 0, none⟩ = false := L2.r.free 0
        have rc1 : w2.cell? ⟨w.heap.size + 5, 1, none⟩ = some (.int .u64 (r1 : Nat)) := L2.r.cell 1
        have rz1 : w2.frozen? ⟨w.heap.size + 5, 1, none⟩ = false := L2.r.free 1
        have rc2 : w2.cell? ⟨w.heap.size + 5, 2, none⟩ = some (.int .u64 (r2 : Nat)) := L2.r.cell 2
        have rz2 : w2.frozen? ⟨w.heap.size + 5, 2, none⟩ = false := L2.r.free 2
        have rc3 : w2.cell? ⟨w.heap.size + 5, 3, none⟩ = some (.int .u64 (r3 : Nat)) := L2.r.cell 3
        have rz3 : w2.frozen? ⟨w.heap.size + 5, 3, none⟩ = false := L2.r.free 3
        go_wp2_with fail
        refine (CU.out _).mono ?_
        rintro e w3 ⟨rfl, hc⟩
        have L3 := L2.later hc
        clear hc L2 rc0 rz0 rc1 rz1 rc2 rz2 rc3 rz3
        have rc0 : w3.cell? ⟨w.heap.size + 5, 0, none⟩ = some (.int .u64 (r0 : Nat)) := L3.r.cell 0
        have rz0 : w3.frozen? ⟨w.heap.size + 5, 0, none⟩ = false := L3.r.free 0
        have rc1 : w3.cell? ⟨w.heap.size + 5, 1, none⟩ = some (.int .u64 (r1 : Nat)) := L3.r.cell 1
        have rz1 : w3.frozen? ⟨w.heap.size + 5, 1, none⟩ = false := L3.r.free 1
        have rc2 : w3.cell? ⟨w.heap.size + 5, 2, none⟩ = some (.int .u64 (r2 : Nat)) := L3.r.cell 2
        have rz2 : w3.frozen? ⟨w.heap.size + 5, 2, none⟩ = false := L3.r.free 2
        have rc3 : w3.cell? ⟨w.heap.size + 5, 3, none⟩ = some (.int .u64 (r3 : Nat)) := L3.r.cell 3
        have rz3 : w3.frozen? ⟨w.heap.size + 5, 3, none⟩ = false := L3.r.free 3
        go_wp2_with fail
        have L4 : DivAt w (val a0 a1 a2 a3 / val b0 b1 b2 b3) (k + 1) #[.int .u64 (a0 : Nat), .int .u64 (a1 : Nat), .int .u64 (a2 : Nat), .int .u64 (a3 : Nat)] #[.int .u64 (b0 : Nat), .int .u64 (b1 : Nat), .int .u64 (b2 : Nat), .int .u64 (b3 : Nat)] #[.int .u64 (u0 : Nat), .int .u64 (u1 : Nat), .int .u64 (u2 : Nat), .int .u64 (u3 : Nat)] row ((((w3.setCell ⟨w.heap.size + 5, 0, none⟩ (.int .u64 (u0 : Nat))).setCell ⟨w.heap.size + 5, 1, none⟩ (.int .u64 (u1 : Nat))).setCell ⟨w.heap.size + 5, 2, none⟩ (.int .u64 (u2 : Nat))).setCell ⟨w.heap.size + 5, 3, none⟩ (.int .u64 (u3 : Nat))) := (((L3.setr 0 (.int .u64 (u0 : Nat))).setr 1 (.int .u64 (u1 : Nat))).setr 2 (.int .u64 (u2 : Nat))).setr 3 (.int .u64 (u3 : Nat))
        clear L3 rc0 rz0 rc1 rz1 rc2 rz2 rc3 rz3
        generalize (((w3.setCell ⟨w.heap.size + 5, 0, none⟩ (.int .u64 (u0 : Nat))).setCell ⟨w.heap.size + 5, 1, none⟩ (.int .u64 (u1 : Nat))).setCell ⟨w.heap.size + 5, 2, none⟩ (.int .u64 (u2 : Nat))).setCell ⟨w.heap.size + 5, 3, none⟩ (.int .u64 (u3 : Nat)) = w4 at *
        refine wp_region_last (W := w4) 8 (by kernel_rfl) (Nat.le_of_ble_eq_true (by kernel_rfl)) (by kernel_rfl) (by kernel_rfl) (by kernel_rfl) (by kernel_rfl) (fun _ _ _ _ _ h => h) ?_
        apply Exists.intro
        refine ⟨?_, ?_⟩
        · intro wg hg
          simp only [List.take_succ_cons, List.take_zero]
          have L5 := L4.later hg
          have ua0 : ∀ u : After wg, u.w.cell? ⟨w.heap.size, 0, none⟩ = some (.int .u64 (a0 : Nat)) := fun u => (L5.a.later u.below).cell 0
          have ua1 : ∀ u : After wg, u.w.cell? ⟨w.heap.size, 1, none⟩ = some (.int .u64 (a1 : Nat)) := fun u => (L5.a.later u.below).cell 1
          have ua2 : ∀ u : After wg, u.w.cell? ⟨w.heap.size, 2, none⟩ = some (.int .u64 (a2 : Nat)) := fun u => (L5.a.later u.below).cell 2
          have ua3 : ∀ u : After wg, u.w.cell? ⟨w.heap.size, 3, none⟩ = some (.int .u64 (a3 : Nat)) := fun u => (L5.a.later u.below).cell 3
          have ur0 : ∀ u : After wg, u.w.cell? ⟨w.heap.size + 5, 0, none⟩ = some (.int .u64 (u0 : Nat)) := fun u => (L5.r.later u.below).cell 0
          have ur1 : ∀ u : After wg, u.w.cell? ⟨w.heap.size + 5, 1, none⟩ = some (.int .u64 (u1 : Nat)) := fun u => (L5.r.later u.below).cell 1
          have ur2 : ∀ u : After wg, u.w.cell? ⟨w.heap.size + 5, 2, none⟩ = some (.int .u64 (u2 : Nat)) := fun u => (L5.r.later u.below).cell 2
          have ur3 : ∀ u : After wg, u.w.cell? ⟨w.heap.size + 5, 3, none⟩ = some (.int .u64 (u3 : Nat)) := fun u => (L5.r.later u.below).cell 3
          have orx := ORX.out
          repeat (go_big_quiet_step ((go_at_call 54; exact after_call (CX.out _))))
          refine wpQuiet_nil ?_
          exact rfl
        · intro wg hg
          simp only [List.drop_succ_cons, List.drop_zero]
          have L5 := L4.later hg
          clear L4 hg
          have rc0 : wg.cell? ⟨w.heap.size + 5, 0, none⟩ = some (.int .u64 (u0 : Nat)) := L5.r.cell 0
          have rz0 : wg.frozen? ⟨w.heap.size + 5, 0, none⟩ = false := L5.r.free 0
          have rc1 : wg.cell? ⟨w.heap.size + 5, 1, none⟩ = some (.int .u64 (u1 : Nat)) := L5.r.cell 1
          have rz1 : wg.frozen? ⟨w.heap.size + 5, 1, none⟩ = false := L5.r.free 1
          have rc2 : wg.cell? ⟨w.heap.size + 5, 2, none⟩ = some (.int .u64 (u2 : Nat)) := L5.r.cell 2
          have rz2 : wg.frozen? ⟨w.heap.size + 5, 2, none⟩ = false := L5.r.free 2
          have rc3 : wg.cell? ⟨w.heap.size + 5, 3, none⟩ = some (.int .u64 (u3 : Nat)) := L5.r.cell 3
          have rz3 : wg.frozen? ⟨w.heap.size + 5, 3, none⟩ = false := L5.r.free 3
          have bc0 : wg.cell? ⟨w.heap.size + 1, 0, none⟩ = some (.int .u64 (b0 : Nat)) := L5.b.cell 0
          have bc1 : wg.cell? ⟨w.heap.size + 1, 1, none⟩ = some (.int .u64 (b1 : Nat)) := L5.b.cell 1
          have bc2 : wg.cell? ⟨w.heap.size + 1, 2, none⟩ = some (.int .u64 (b2 : Nat)) := L5.b.cell 2
          have bc3 : wg.cell? ⟨w.heap.size + 1, 3, none⟩ = some (.int .u64 (b3 : Nat)) := L5.b.cell 3
          go_wp2_with fail
          have L6 : DivAt w (val a0 a1 a2 a3 / val b0 b1 b2 b3) (k + 1) #[.int .u64 (a0 : Nat), .int .u64 (a1 : Nat), .int .u64 (a2 : Nat), .int .u64 (a3 : Nat)] #[.int .u64 (b0 : Nat), .int .u64 (b1 : Nat), .int .u64 (b2 : Nat), .int .u64 (b3 : Nat)] #[.int .u64 (v0 : Nat), .int .u64 (u1 : Nat), .int .u64 (u2 : Nat), .int .u64 (u3 : Nat)] row (wg.setCell ⟨w.heap.size + 5, 0, none⟩ (.int .u64 (v0 : Nat))) := L5.setr 0 (.int .u64 (v0 : Nat))
          clear L5 rc0 rz0 rc1 rz1 rc2 rz2 rc3 rz3 bc0 bc1 bc2 bc3
          generalize wg.setCell ⟨w.heap.size + 5, 0, none⟩ (.int .u64 (v0 : Nat)) = w6 at *
          have L7 := L6
          clear L6
          obtain ⟨w7, hw7⟩ : ∃ w7 : World, w7 = w6 := ⟨_, rfl⟩
          subst hw7
          refine (CS.out _).mono ?_
          rintro e w8 ⟨rfl, hc⟩
          have L8 := L7.later hc
          clear hc L7
          have rc0 : w8.cell? ⟨w.heap.size + 5, 0, none⟩ = some (.int .u64 (v0 : Nat)) := L8.r.cell 0
          have rz0 : w8.frozen? ⟨w.heap.size + 5, 0, none⟩ = false := L8.r.free 0
          have rc1 : w8.cell? ⟨w.heap.size + 5, 1, none⟩ = some (.int .u64 (u1 : Nat)) := L8.r.cell 1
          have rz1 : w8.frozen? ⟨w.heap.size + 5, 1, none⟩ = false := L8.r.free 1
          have rc2 : w8.cell? ⟨w.heap.size + 5, 2, none⟩ = some (.int .u64 (u2 : Nat)) := L8.r.cell 2
          have rz2 : w8.frozen? ⟨w.heap.size + 5, 2, none⟩ = false := L8.r.free 2
          have rc3 : w8.cell? ⟨w.heap.size + 5, 3, none⟩ = some (.int .u64 (u3 : Nat)) := L8.r.cell 3
          have rz3 : w8.frozen? ⟨w.heap.size + 5, 3, none⟩ = false := L8.r.free 3
          have lz : w8.frozen? ⟨w.heap.size + 6, k, none⟩ = false := L8.l.free k
          have lc : w8.cell? ⟨w.heap.size + 6, k, none⟩ = some (.int .i64 0) := (L8.l.cell k).trans ((L8.digits k hlt).trans (by rw [if_pos (by omega)]; rfl))
          go_wp2_with fail
          have L9 : DivAt w (val a0 a1 a2 a3 / val b0 b1 b2 b3) (k + 1) #[.int .u64 (a0 : Nat), .int .u64 (a1 : Nat), .int .u64 (a2 : Nat), .int .u64 (a3 : Nat)] #[.int .u64 (b0 : Nat), .int .u64 (b1 : Nat), .int .u64 (b2 : Nat), .int .u64 (b3 : Nat)] #[.int .u64 (s0 : Nat), .int .u64 (s1 : Nat), .int .u64 (s2 : Nat), .int .u64 (s3 : Nat)] row ((((w8.setCell ⟨w.heap.size + 5, 0, none⟩ (.int .u64 (s0 : Nat))).setCell ⟨w.heap.size + 5, 1, none⟩ (.int .u64 (s1 : Nat))).setCell ⟨w.heap.size + 5, 2, none⟩ (.int .u64 (s2 : Nat))).setCell ⟨w.heap.size + 5, 3, none⟩ (.int .u64 (s3 : Nat))) := (((L8.setr 0 (.int .u64 (s0 : Nat))).setr 1 (.int .u64 (s1 : Nat))).setr 2 (.int .u64 (s2 : Nat))).setr 3 (.int .u64 (s3 : Nat))
          have L10 := Lib.hid (L9.take hlt HQ.out)
          clear L8 L9 rc0 rz0 rc1 rz1 rc2 rz2 rc3 rz3 lz lc
          go_roundw
          case rel => exact ⟨k, (k : Int) - 1, s0, s1, s2, s3, _, by omega, by omega, rfl, WS.out, HS.out, L10.out⟩
          case measure => simp [intOf]
      · have tp0 : tp = 0 := by omega
        have small : 2 * val r0 r1 r2 r3 < 115792089237316195423570985008687907853269984665640564039457584007913129639936 := by omega
        rw [Nat.mod_eq_of_lt small] at vv
        by_cases lt : val v0 u1 u2 u3 < val b0 b1 b2 b3
        · have CL := Lib.hid (refless_any WV.out hb true (decide_eq_true lt).symm)
          rw [if_neg (by omega)] at d1 d2
          have HQ := Lib.hid d2
          have HV : Hid (val v0 u1 u2 u3 = val a0 a1 a2 a3 / 2 ^ k % val b0 b1 b2 b3) := by
            show _ = _
            rw [d1, vv]
          clear d1 d2 vs vv htp rl lB' e255 small lt top
          subst tp0
          go_wp2_with fail
          refine (CT.out _).mono ?_
          rintro e w2 ⟨rfl, hc⟩
          have L2 := L.later hc
          clear hc L rc0 rz0 rc1 rz1 rc2 rz2 rc3 rz3
          have rc0 : w2.cell? ⟨w.heap.size + 5, 0, none⟩ = some (.int .u64 (r0 : Nat)) := L2.r.cell 0
          have rz0 : w2.frozen? ⟨w.heap.size + 5, 0, none⟩ = false := L2.r.free 0
          have rc1 : w2.cell? ⟨w.heap.size + 5, 1, none⟩ = some (.int .u64 (r1 : Nat)) := L2.r.cell 1
          have rz1 : w2.frozen? ⟨w.heap.size + 5, 1, none⟩ = false := L2.r.free 1
          have rc2 : w2.cell? ⟨w.heap.size + 5, 2, none⟩ = some (.int .u64 (r2 : Nat)) := L2.r.cell 2
          have rz2 : w2.frozen? ⟨w.heap.size + 5, 2, none⟩ = false := L2.r.free 2
          have rc3 : w2.cell? ⟨w.heap.size + 5, 3, none⟩ = some (.int .u64 (r3 : Nat)) := L2.r.cell 3
          have rz3 : w2.frozen? ⟨w.heap.size + 5, 3, none⟩ = false := L2.r.free 3
          go_wp2_with fail
          refine (CU.out _).mono ?_
          rintro e w3 ⟨rfl, hc⟩
          have L3 := L2.later hc
          clear hc L2 rc0 rz0 rc1 rz1 rc2 rz2 rc3 rz3
          have rc0 : w3.cell? ⟨w.heap.size + 5, 0, none⟩ = some (.int .u64 (r0 : Nat)) := L3.r.cell 0
          have rz0 : w3.frozen? ⟨w.heap.size + 5, 0, none⟩ = false := L3.r.free 0
          have rc1 : w3.cell? ⟨w.heap.size + 5, 1, none⟩ = some (.int .u64 (r1 : Nat)) := L3.r.cell 1
          have rz1 : w3.frozen? ⟨w.heap.size + 5, 1, none⟩ = false := L3.r.free 1
          have rc2 : w3.cell? ⟨w.heap.size + 5, 2, none⟩ = some (.int .u64 (r2 : Nat)) := L3.r.cell 2
          have rz2 : w3.frozen? ⟨w.heap.size + 5, 2, none⟩ = false := L3.r.free 2
          have rc3 : w3.cell? ⟨w.heap.size + 5, 3, none⟩ = some (.int .u64 (r3 : Nat)) := L3.r.cell 3
          have rz3 : w3.frozen? ⟨w.heap.size + 5, 3, none⟩ = false := L3.r.free 3
          go_wp2_with fail
          have L4 : DivAt w (val a0 a1 a2 a3 / val b0 b1 b2 b3) (k + 1) #[.int .u64 (a0 : Nat), .int .u64 (a1 : Nat), .int .u64 (a2 : Nat), .int .u64 (a3 : Nat)] #[.int .u64 (b0 : Nat), .int .u64 (b1 : Nat), .int .u64 (b2 : Nat), .int .u64 (b3 : Nat)] #[.int .u64 (u0 : Nat), .int .u64 (u1 : Nat), .int .u64 (u2 : Nat), .int .u64 (u3 : Nat)] row ((((w3.setCell ⟨w.heap.size + 5, 0, none⟩ (.int .u64 (u0 : Nat))).setCell ⟨w.heap.size + 5, 1, none⟩ (.int .u64 (u1 : Nat))).setCell ⟨w.heap.size + 5, 2, none⟩ (.int .u64 (u2 : Nat))).setCell ⟨w.heap.size + 5, 3, none⟩ (.int .u64 (u3 : Nat))) := (((L3.setr 0 (.int .u64 (u0 : Nat))).setr 1 (.int .u64 (u1 : Nat))).setr 2 (.int .u64 (u2 : Nat))).setr 3 (.int .u64 (u3 : Nat))
          clear L3 rc0 rz0 rc1 rz1 rc2 rz2 rc3 rz3
          generalize (((w3.setCell ⟨w.heap.size + 5, 0, none⟩ (.int .u64 (u0 : Nat))).setCell ⟨w.heap.size + 5, 1, none⟩ (.int .u64 (u1 : Nat))).setCell ⟨w.heap.size + 5, 2, none⟩ (.int .u64 (u2 : Nat))).setCell ⟨w.heap.size + 5, 3, none⟩ (.int .u64 (u3 : Nat)) = w4 at *
          refine wp_region_last (W := w4) 8 (by kernel_rfl) (Nat.le_of_ble_eq_true (by kernel_rfl)) (by kernel_rfl) (by kernel_rfl) (by kernel_rfl) (by kernel_rfl) (fun _ _ _ _ _ h => h) ?_
          apply Exists.intro
          refine ⟨?_, ?_⟩
          · intro wg hg
            simp only [List.take_succ_cons, List.take_zero]
            have L5 := L4.later hg
            have ua0 : ∀ u : After wg, u.w.cell? ⟨w.heap.size, 0, none⟩ = some (.int .u64 (a0 : Nat)) := fun u => (L5.a.later u.below).cell 0
            have ua1 : ∀ u : After wg, u.w.cell? ⟨w.heap.size, 1, none⟩ = some (.int .u64 (a1 : Nat)) := fun u => (L5.a.later u.below).cell 1
            have ua2 : ∀ u : After wg, u.w.cell? ⟨w.heap.size, 2, none⟩ = some (.int .u64 (a2 : Nat)) := fun u => (L5.a.later u.below).cell 2
            have ua3 : ∀ u : After wg, u.w.cell? ⟨w.heap.size, 3, none⟩ = some (.int .u64 (a3 : Nat)) := fun u => (L5.a.later u.below).cell 3
            have ur0 : ∀ u : After wg, u.w.cell? ⟨w.heap.size + 5, 0, none⟩ = some (.int .u64 (u0 : Nat)) := fun u => (L5.r.later u.below).cell 0
            have ur1 : ∀ u : After wg, u.w.cell? ⟨w.heap.size + 5, 1, none⟩ = some (.int .u64 (u1 : Nat)) := fun u => (L5.r.later u.below).cell 1
            have ur2 : ∀ u : After wg, u.w.cell? ⟨w.heap.size + 5, 2, none⟩ = some (.int .u64 (u2 : Nat)) := fun u => (L5.r.later u.below).cell 2
            have ur3 : ∀ u : After wg, u.w.cell? ⟨w.heap.size + 5, 3, none⟩ = some (.int .u64 (u3 : Nat)) := fun u => (L5.r.later u.below).cell 3
            have orx := ORX.out
            repeat (go_big_quiet_step ((go_at_call 54; exact after_call (CX.out _))))
            refine wpQuiet_nil ?_
            exact rfl
          · intro wg hg
            simp only [List.drop_succ_cons, List.drop_zero]
            have L5 := L4.later hg
            clear L4 hg
            have rc0 : wg.cell? ⟨w.heap.size + 5, 0, none⟩ = some (.int .u64 (u0 : Nat)) := L5.r.cell 0
            have rz0 : wg.frozen? ⟨w.heap.size + 5, 0, none⟩ = false := L5.r.free 0
            have rc1 : wg.cell? ⟨w.heap.size + 5, 1, none⟩ = some (.int .u64 (u1 : Nat)) := L5.r.cell 1
            have rz1 : wg.frozen? ⟨w.heap.size + 5, 1, none⟩ = false := L5.r.free 1
            have rc2 : wg.cell? ⟨w.heap.size + 5, 2, none⟩ = some (.int .u64 (u2 : Nat)) := L5.r.cell 2
            have rz2 : wg.frozen? ⟨w.heap.size + 5, 2, none⟩ = false := L5.r.free 2
            have rc3 : wg.cell? ⟨w.heap.size + 5, 3, none⟩ = some (.int .u64 (u3 : Nat)) := L5.r.cell 3
            have rz3 : wg.frozen? ⟨w.heap.size + 5, 3, none⟩ = false := L5.r.free 3
            have bc0 : wg.cell? ⟨w.heap.size + 1, 0, none⟩ = some (.int .u64 (b0 : Nat)) := L5.b.cell 0
            have bc1 : wg.cell? ⟨w.heap.size + 1, 1, none⟩ = some (.int .u64 (b1 : Nat)) := L5.b.cell 1
            have bc2 : wg.cell? ⟨w.heap.size + 1, 2, none⟩ = some (.int .u64 (b2 : Nat)) := L5.b.cell 2
            have bc3 : wg.cell? ⟨w.heap.size + 1, 3, none⟩ = some (.int .u64 (b3 : Nat)) := L5.b.cell 3
            go_wp2_with fail
            have L6 : DivAt w (val a0 a1 a2 a3 / val b0 b1 b2 b3) (k + 1) #[.int .u64 (a0 : Nat), .int .u64 (a1 : Nat), .int .u64 (a2 : Nat), .int .u64 (a3 : Nat)] #[.int .u64 (b0 : Nat), .int .u64 (b1 : Nat), .int .u64 (b2 : Nat), .int .u64 (b3 : Nat)] #[.int .u64 (v0 : Nat), .int .u64 (u1 : Nat), .int .u64 (u2 : Nat), .int .u64 (u3 : Nat)] row (wg.setCell ⟨w.heap.size + 5, 0, none⟩ (.int .u64 (v0 : Nat))) := L5.setr 0 (.int .u64 (v0 : Nat))
            clear L5 rc0 rz0 rc1 rz1 rc2 rz2 rc3 rz3 bc0 bc1 bc2 bc3
            generalize wg.setCell ⟨w.heap.size + 5, 0, none⟩ (.int .u64 (v0 : Nat)) = w6 at *
            refine (CL.out _).mono ?_
            rintro e w7 ⟨rfl, hc⟩
            have L7 := L6.later hc
            clear hc L6
            have L8 := Lib.hid (L7.pass HQ.out)
            clear L7
            go_wp2_with fail
            go_roundw
            case rel => exact ⟨k, (k : Int) - 1, v0, u1, u2, u3, row, by omega, by omega, rfl, WV.out, HV.out, L8.out⟩
            case measure => simp [intOf]
        · have CL := Lib.hid (refless_any WV.out hb false (decide_eq_false lt).symm)
          rw [if_pos (by omega)] at d1 d2
          have HQ := Lib.hid d2
          have HS : Hid (val s0 s1 s2 s3 = val a0 a1 a2 a3 / 2 ^ k % val b0 b1 b2 b3) := by
            show _ = _
            rw [d1, vs, vv]; omega
          clear d1 d2 vs vv htp rl lB' e255 small lt top
          subst tp0
          go_wp2_with fail
          refine (CT.out _).mono ?_
          rintro e w2 ⟨rfl, hc⟩
          have L2 := L.later hc
          clear hc L rc0 rz0 rc1 rz1 rc2 rz2 rc3 rz3
          have rc0 : w2.cell? ⟨w.heap.size + 5, 0, none⟩ = some (.int .u64 (r0 : Nat)) := L2.r.cell 0
          have rz0 : w2.frozen? ⟨w.heap.size + 5, 0, none⟩ = false := L2.r.free 0
          have rc1 : w2.cell? ⟨w.heap.size + 5, 1, none⟩ = some (.int .u64 (r1 : Nat)) := L2.r.cell 1
          have rz1 : w2.frozen? ⟨w.heap.size + 5, 1, none⟩ = false := L2.r.free 1
          have rc2 : w2.cell? ⟨w.heap.size + 5, 2, none⟩ = some (.int .u64 (r2 : Nat)) := L2.r.cell 2
          have rz2 : w2.frozen? ⟨w.heap.size + 5, 2, none⟩ = false := L2.r.free 2
          have rc3 : w2.cell? ⟨w.heap.size + 5, 3, none⟩ = some (.int .u64 (r3 : Nat)) := L2.r.cell 3
          have rz3 : w2.frozen? ⟨w.heap.size + 5, 3, none⟩ = false := L2.r.free 3
          go_wp2_with fail
          refine (CU.out _).mono ?_
          rintro e w3 ⟨rfl, hc⟩
          have L3 := L2.later hc
          clear hc L2 rc0 rz0 rc1 rz1 rc2 rz2 rc3 rz3
          have rc0 : w3.cell? ⟨w.heap.size + 5, 0, none⟩ = some (.int .u64 (r0 : Nat)) := L3.r.cell 0
          have rz0 : w3.frozen? ⟨w.heap.size + 5, 0, none⟩ = false := L3.r.free 0
          have rc1 : w3.cell? ⟨w.heap.size + 5, 1, none⟩ = some (.int .u64 (r1 : Nat)) := L3.r.cell 1
          have rz1 : w3.frozen? ⟨w.heap.size + 5, 1, none⟩ = false := L3.r.free 1
          have rc2 : w3.cell? ⟨w.heap.size + 5, 2, none⟩ = some (.int .u64 (r2 : Nat)) := L3.r.cell 2
          have rz2 : w3.frozen? ⟨w.heap.size + 5, 2, none⟩ = false := L3.r.free 2
          have rc3 : w3.cell? ⟨w.heap.size + 5, 3, none⟩ = some (.int .u64 (r3 : Nat)) := L3.r.cell 3
          have rz3 : w3.frozen? ⟨w.heap.size + 5, 3, none⟩ = false := L3.r.free 3
          go_wp2_with fail
          have L4 : DivAt w (val a0 a1 a2 a3 / val b0 b1 b2 b3) (k + 1) #[.int .u64 (a0 : Nat), .int .u64 (a1 : Nat), .int .u64 (a2 : Nat), .int .u64 (a3 : Nat)] #[.int .u64 (b0 : Nat), .int .u64 (b1 : Nat), .int .u64 (b2 : Nat), .int .u64 (b3 : Nat)] #[.int .u64 (u0 : Nat), .int .u64 (u1 : Nat), .int .u64 (u2 : Nat), .int .u64 (u3 : Nat)] row ((((w3.setCell ⟨w.heap.size + 5, 0, none⟩ (.int .u64 (u0 : Nat))).setCell ⟨w.heap.size + 5, 1, none⟩ (.int .u64 (u1 : Nat))).setCell ⟨w.heap.size + 5, 2, none⟩ (.int .u64 (u2 : Nat))).setCell ⟨w.heap.size + 5, 3, none⟩ (.int .u64 (u3 : Nat))) := (((L3.setr 0 (.int .u64 (u0 : Nat))).setr 1 (.int .u64 (u1 : Nat))).setr 2 (.int .u64 (u2 : Nat))).setr 3 (.int .u64 (u3 : Nat))
          clear L3 rc0 rz0 rc1 rz1 rc2 rz2 rc3 rz3
          generalize (((w3.setCell ⟨w.heap.size + 5, 0, none⟩ (.int .u64 (u0 : Nat))).setCell ⟨w.heap.size + 5, 1, none⟩ (.int .u64 (u1 : Nat))).setCell ⟨w.heap.size + 5, 2, none⟩ (.int .u64 (u2 : Nat))).setCell ⟨w.heap.size + 5, 3, none⟩ (.int .u64 (u3 : Nat)) = w4 at *
          refine wp_region_last (W := w4) 8 (by kernel_rfl) (Nat.le_of_ble_eq_true (by kernel_rfl)) (by kernel_rfl) (by kernel_rfl) (by kernel_rfl) (by kernel_rfl) (fun _ _ _ _ _ h => h) ?_
          apply Exists.intro
          refine ⟨?_, ?_⟩
          · intro wg hg
            simp only [List.take_succ_cons, List.take_zero]
            have L5 := L4.later hg
            have ua0 : ∀ u : After wg, u.w.cell? ⟨w.heap.size, 0, none⟩ = some (.int .u64 (a0 : Nat)) := fun u => (L5.a.later u.below).cell 0
            have ua1 : ∀ u : After wg, u.w.cell? ⟨w.heap.size, 1, none⟩ = some (.int .u64 (a1 : Nat)) := fun u => (L5.a.later u.below).cell 1
            have ua2 : ∀ u : After wg, u.w.cell? ⟨w.heap.size, 2, none⟩ = some (.int .u64 (a2 : Nat)) := fun u => (L5.a.later u.below).cell 2
            have ua3 : ∀ u : After wg, u.w.cell? ⟨w.heap.size, 3, none⟩ = some (.int .u64 (a3 : Nat)) := fun u => (L5.a.later u.below).cell 3
            have ur0 : ∀ u : After wg, u.w.cell? ⟨w.heap.size + 5, 0, none⟩ = some (.int .u64 (u0 : Nat)) := fun u => (L5.r.later u.below).cell 0
            have ur1 : ∀ u : After wg, u.w.cell? ⟨w.heap.size + 5, 1, none⟩ = some (.int .u64 (u1 : Nat)) := fun u => (L5.r.later u.below).cell 1
            have ur2 : ∀ u : After wg, u.w.cell? ⟨w.heap.size + 5, 2, none⟩ = some (.int .u64 (u2 : Nat)) := fun u => (L5.r.later u.below).cell 2
            have ur3 : ∀ u : After wg, u.w.cell? ⟨w.heap.size + 5, 3, none⟩ = some (.int .u64 (u3 : Nat)) := fun u => (L5.r.later u.below).cell 3
            have orx := ORX.out
            repeat (go_big_quiet_step ((go_at_call 54; exact after_call (CX.out _))))
            refine wpQuiet_nil ?_
            exact rfl
          · intro wg hg
            simp only [List.drop_succ_cons, List.drop_zero]
            have L5 := L4.later hg
            clear L4 hg
            have rc0 : wg.cell? ⟨w.heap.size + 5, 0, none⟩ = some (.int .u64 (u0 : Nat)) := L5.r.cell 0
            have rz0 : wg.frozen? ⟨w.heap.size + 5, 0, none⟩ = false := L5.r.free 0
            have rc1 : wg.cell? ⟨w.heap.size + 5, 1, none⟩ = some (.int .u64 (u1 : Nat)) := L5.r.cell 1
            have rz1 : wg.frozen? ⟨w.heap.size + 5, 1, none⟩ = false := L5.r.free 1
            have rc2 : wg.cell? ⟨w.heap.size + 5, 2, none⟩ = some (.int .u64 (u2 : Nat)) := L5.r.cell 2
            have rz2 : wg.frozen? ⟨w.heap.size + 5, 2, none⟩ = false := L5.r.free 2
            have rc3 : wg.cell? ⟨w.heap.size + 5, 3, none⟩ = some (.int .u64 (u3 : Nat)) := L5.r.cell 3
            have rz3 : wg.frozen? ⟨w.heap.size + 5, 3, none⟩ = false := L5.r.free 3
            have bc0 : wg.cell? ⟨w.heap.size + 1, 0, none⟩ = some (.int .u64 (b0 : Nat)) := L5.b.cell 0
            have bc1 : wg.cell? ⟨w.heap.size + 1, 1, none⟩ = some (.int .u64 (b1 : Nat)) := L5.b.cell 1
            have bc2 : wg.cell? ⟨w.heap.size + 1, 2, none⟩ = some (.int .u64 (b2 : Nat)) := L5.b.cell 2
            have bc3 : wg.cell? ⟨w.heap.size + 1, 3, none⟩ = some (.int .u64 (b3 : Nat)) := L5.b.cell 3
            go_wp2_with fail
            have L6 : DivAt w (val a0 a1 a2 a3 / val b0 b1 b2 b3) (k + 1) #[.int .u64 (a0 : Nat), .int .u64 (a1 : Nat), .int .u64 (a2 : Nat), .int .u64 (a3 : Nat)] #[.int .u64 (b0 : Nat), .int .u64 (b1 : Nat), .int .u64 (b2 : Nat), .int .u64 (b3 : Nat)] #[.int .u64 (v0 : Nat), .int .u64 (u1 : Nat), .int .u64 (u2 : Nat), .int .u64 (u3 : Nat)] row (wg.setCell ⟨w.heap.size + 5, 0, none⟩ (.int .u64 (v0 : Nat))) := L5.setr 0 (.int .u64 (v0 : Nat))
            clear L5 rc0 rz0 rc1 rz1 rc2 rz2 rc3 rz3 bc0 bc1 bc2 bc3
            generalize wg.setCell ⟨w.heap.size + 5, 0, none⟩ (.int .u64 (v0 : Nat)) = w6 at *
            refine (CL.out _).mono ?_
            rintro e w7 ⟨rfl, hc⟩
            have L7 := L6.later hc
            clear hc L6
            have rc0 : w7.cell? ⟨w.heap.size + 5, 0, none⟩ = some (.int .u64 (v0 : Nat)) := L7.r.cell 0
            have rc1 : w7.cell? ⟨w.heap.size + 5, 1, none⟩ = some (.int .u64 (u1 : Nat)) := L7.r.cell 1
            have rc2 : w7.cell? ⟨w.heap.size + 5, 2, none⟩ = some (.int .u64 (u2 : Nat)) := L7.r.cell 2
            have rc3 : w7.cell? ⟨w.heap.size + 5, 3, none⟩ = some (.int .u64 (u3 : Nat)) := L7.r.cell 3
            have bc0 : w7.cell? ⟨w.heap.size + 1, 0, none⟩ = some (.int .u64 (b0 : Nat)) := L7.b.cell 0
            have bc1 : w7.cell? ⟨w.heap.size + 1, 1, none⟩ = some (.int .u64 (b1 : Nat)) := L7.b.cell 1
            have bc2 : w7.cell? ⟨w.heap.size + 1, 2, none⟩ = some (.int .u64 (b2 : Nat)) := L7.b.cell 2
            have bc3 : w7.cell? ⟨w.heap.size + 1, 3, none⟩ = some (.int .u64 (b3 : Nat)) := L7.b.cell 3
            go_wp2_with fail
            clear rc0 rc1 rc2 rc3 bc0 bc1 bc2 bc3
            refine (CS.out _).mono ?_
            rintro e w8 ⟨rfl, hc⟩
            have L8 := L7.later hc
            clear hc L7
            have rc0 : w8.cell? ⟨w.heap.size + 5, 0, none⟩ = some (.int .u64 (v0 : Nat)) := L8.r.cell 0
            have rz0 : w8.frozen? ⟨w.heap.size + 5, 0, none⟩ = false := L8.r.free 0
            have rc1 : w8.cell? ⟨w.heap.size + 5, 1, none⟩ = some (.int .u64 (u1 : Nat)) := L8.r.cell 1
            have rz1 : w8.frozen? ⟨w.heap.size + 5, 1, none⟩ = false := L8.r.free 1
            have rc2 : w8.cell? ⟨w.heap.size + 5, 2, none⟩ = some (.int .u64 (u2 : Nat)) := L8.r.cell 2
            have rz2 : w8.frozen? ⟨w.heap.size + 5, 2, none⟩ = false := L8.r.free 2
            have rc3 : w8.cell? ⟨w.heap.size + 5, 3, none⟩ = some (.int .u64 (u3 : Nat)) := L8.r.cell 3
            have rz3 : w8.frozen? ⟨w.heap.size + 5, 3, none⟩ = false := L8.r.free 3
            have lz : w8.frozen? ⟨w.heap.size + 6, k, none⟩ = false := L8.l.free k
            have lc : w8.cell? ⟨w.heap.size + 6, k, none⟩ = some (.int .i64 0) := (L8.l.cell k).trans ((L8.digits k hlt).trans (by rw [if_pos (by omega)]; rfl))
            go_wp2_with fail
            have L9 : DivAt w (val a0 a1 a2 a3 / val b0 b1 b2 b3) (k + 1) #[.int .u64 (a0 : Nat), .int .u64 (a1 : Nat), .int .u64 (a2 : Nat), .int .u64 (a3 : Nat)] #[.int .u64 (b0 : Nat), .int .u64 (b1 : Nat), .int .u64 (b2 : Nat), .int .u64 (b3 : Nat)] #[.int .u64 (s0 : Nat), .int .u64 (s1 : Nat), .int .u64 (s2 : Nat), .int .u64 (s3 : Nat)] row ((((w8.setCell ⟨w.heap.size + 5, 0, none⟩ (.int .u64 (s0 : Nat))).setCell ⟨w.heap.size + 5, 1, none⟩ (.int .u64 (s1 : Nat))).setCell ⟨w.heap.size + 5, 2, none⟩ (.int .u64 (s2 : Nat))).setCell ⟨w.heap.size + 5, 3, none⟩ (.int .u64 (s3 : Nat))) := (((L8.setr 0 (.int .u64 (s0 : Nat))).setr 1 (.int .u64 (s1 : Nat))).setr 2 (.int .u64 (s2 : Nat))).setr 3 (.int .u64 (s3 : Nat))
            have L10 := Lib.hid (L9.take hlt HQ.out)
            clear L8 L9 rc0 rz0 rc1 rz1 rc2 rz2 rc3 rz3 lz lc
            go_roundw
            case rel => exact ⟨k, (k : Int) - 1, s0, s1, s2, s3, _, by omega, by omega, rfl, WS.out, HS.out, L10.out⟩
            case measure => simp [intOf]

end Go.Proofs.YtimjmmiajgfblaaGreatDoor.Bg
