/- BigParts returns true for every two numbers and any number of bits, and each argument reads afterwards as it read before. No condition. -/
import Derived.Test.YtcjggdoopehkpaaRows
import Derived.Test.YtcjggdoopehkpaaShiftZ
import Derived.Test.YtcjggdoopehkpaaOpen
namespace Go.Proofs.Ytcjggdoopehkpaa
open Go.ChangeShapes Go.WideShapes Go.ChangeAt Go.RowKit

theorem open_int64 {H : Type} {enc : TypeId × Value → H} {W : World} {base : Nat} {v : Value} {d : DataW H} {p : List MemPlace}
    (hv : Value.okWide Try.prog W .any base 3 v) (h : DataW.Trod enc Try.prog W 0 (fun _ => true) true 3 v d p) : ∃ x : Int, (-9223372036854775808 ≤ x ∧ x ≤ 9223372036854775807) ∧ v = .int .i64 x := by
  obtain ⟨n, rfl, rfl, rfl, w⟩ := open_int Try.underlying3 hv h
  exact ⟨n, bounds_i64 w, rfl⟩
def DivE (x0 x1 x2 x3 y0 y1 y2 y3 q0 q1 q2 q3 r0 r1 r2 r3 : Nat) (e : Int) : Prop := ∀ w : World, Calls Try.prog 22 #[.agg #[.int .u64 (x0 : Nat), .int .u64 (x1 : Nat), .int .u64 (x2 : Nat), .int .u64 (x3 : Nat)], .agg #[.int .u64 (y0 : Nat), .int .u64 (y1 : Nat), .int .u64 (y2 : Nat), .int .u64 (y3 : Nat)]] w fun e' w' => e' = .returned (.tuple #[.agg #[.int .u64 (q0 : Nat), .int .u64 (q1 : Nat), .int .u64 (q2 : Nat), .int .u64 (q3 : Nat)], .agg #[.int .u64 (r0 : Nat), .int .u64 (r1 : Nat), .int .u64 (r2 : Nat), .int .u64 (r3 : Nat)], .int .i64 e]) ∧ Below w.heap.size w w'
def RDivE (x0 x1 x2 x3 y0 y1 y2 y3 q0 q1 q2 q3 r0 r1 r2 r3 : Nat) (e : Int) : Prop := ∀ w : World, Calls Try.prog 23 #[.agg #[.int .u64 (x0 : Nat), .int .u64 (x1 : Nat), .int .u64 (x2 : Nat), .int .u64 (x3 : Nat)], .agg #[.int .u64 (y0 : Nat), .int .u64 (y1 : Nat), .int .u64 (y2 : Nat), .int .u64 (y3 : Nat)]] w fun e' w' => e' = .returned (.tuple #[.agg #[.int .u64 (q0 : Nat), .int .u64 (q1 : Nat), .int .u64 (q2 : Nat), .int .u64 (q3 : Nat)], .agg #[.int .u64 (r0 : Nat), .int .u64 (r1 : Nat), .int .u64 (r2 : Nat), .int .u64 (r3 : Nat)], .int .i64 e]) ∧ Below w.heap.size w w'

set_option maxRecDepth 100000 in
set_option maxHeartbeats 8000000 in
theorem parts_walk (a0 a1 a2 a3 b0 b1 b2 b3 q0 q1 q2 q3 r0 r1 r2 r3 u0 u1 u2 u3 d0 d1 d2 d3 : Nat) (n e : Int) (w : World) (div1 : DivE a0 a1 a2 a3 b0 b1 b2 b3 q0 q1 q2 q3 r0 r1 r2 r3 e) (div2 : RDivE a0 a1 a2 a3 b0 b1 b2 b3 q0 q1 q2 q3 r0 r1 r2 r3 e)
    (hup : UpZ a0 a1 a2 a3 n u0 u1 u2 u3) (hrup : RUpZ a0 a1 a2 a3 n u0 u1 u2 u3) (hdn : DownZ a0 a1 a2 a3 n d0 d1 d2 d3) (hrdn : RDownZ a0 a1 a2 a3 n d0 d1 d2 d3) (eq : EqIs q0 q1 q2 q3 q0 q1 q2 q3 true) (er : EqIs r0 r1 r2 r3 r0 r1 r2 r3 true) (eu : EqIs u0 u1 u2 u3 u0 u1 u2 u3 true) (ed : EqIs d0 d1 d2 d3 d0 d1 d2 d3 true) :
    Calls Try.prog 4 #[.agg #[.int .u64 (a0 : Nat), .int .u64 (a1 : Nat), .int .u64 (a2 : Nat), .int .u64 (a3 : Nat)], .agg #[.int .u64 (b0 : Nat), .int .u64 (b1 : Nat), .int .u64 (b2 : Nat), .int .u64 (b3 : Nat)], .int .i64 n] w fun e w' => e = .returned (.bool true) ∧ Below w.heap.size w w' := by
  have DIV1H := Lib.hid div1
  have DIV2H := Lib.hid div2
  have U1H := Lib.hid hup
  have U2H := Lib.hid hrup
  have D1H := Lib.hid hdn
  have D2H := Lib.hid hrdn
  clear div1 div2 hup hrup hdn hrdn
  unfold EqIs at eq er eu ed
  go_enter Try.func4, Try.ntmps4
  go_wp2_with fail
  refine (DIV1H.out _).mono ?_
  rintro e w1 ⟨rfl, h1⟩
  have PB : Below w.heap.size w w1 := (((Below.refl _ _).alloc (Nat.le_refl _) _).alloc (by simp) _).trans (h1.mono (by simp; omega))
  have xa : Box w1 w.heap.size a0 a1 a2 a3 := ((Box.new w (a0 : Nat) (a1 : Nat) (a2 : Nat) (a3 : Nat) 24).alloc _).later h1
  have xb : Box w1 (w.heap.size + 1) b0 b1 b2 b3 := by
    have h := (Box.new (w.alloc (.cells #[.int .u64 (a0 : Nat), .int .u64 (a1 : Nat), .int .u64 (a2 : Nat), .int .u64 (a3 : Nat)] 24)) (b0 : Nat) (b1 : Nat) (b2 : Nat) (b3 : Nat) 24).later h1
    simpa using h
  clear h1
  generalize w.heap.size + 1 = Bb at *
  have ca := xa
  obtain ⟨ca0, ca1, ca2, ca3⟩ := ca
  have la := World.block_lt_of_cell? _ _ ca0
  simp only [] at la
  have cb := xb
  obtain ⟨cb0, cb1, cb2, cb3⟩ := cb
  have lb := World.block_lt_of_cell? _ _ cb0
  simp only [] at lb
  have HPB := Lib.hid PB
  clear PB
  go_wp2_with fail
  have PB := HPB.out
  clear HPB
  clear ca0 ca1 ca2 ca3 cb0 cb1 cb2 cb3 la lb
  replace xa := xa.alloc (.cells #[.int .u64 (q0 : Nat), .int .u64 (q1 : Nat), .int .u64 (q2 : Nat), .int .u64 (q3 : Nat)] 24)
  replace xb := xb.alloc (.cells #[.int .u64 (q0 : Nat), .int .u64 (q1 : Nat), .int .u64 (q2 : Nat), .int .u64 (q3 : Nat)] 24)
  have xq := Box.new (w1) (q0 : Nat) (q1 : Nat) (q2 : Nat) (q3 : Nat) 24
  have PC := below_alloc PB (.cells #[.int .u64 (q0 : Nat), .int .u64 (q1 : Nat), .int .u64 (q2 : Nat), .int .u64 (q3 : Nat)] 24)
  clear PB
  have PB := PC
  clear PC
  replace xa := xa.alloc (.cells #[.int .u64 (r0 : Nat), .int .u64 (r1 : Nat), .int .u64 (r2 : Nat), .int .u64 (r3 : Nat)] 24)
  replace xb := xb.alloc (.cells #[.int .u64 (r0 : Nat), .int .u64 (r1 : Nat), .int .u64 (r2 : Nat), .int .u64 (r3 : Nat)] 24)
  replace xq := xq.alloc (.cells #[.int .u64 (r0 : Nat), .int .u64 (r1 : Nat), .int .u64 (r2 : Nat), .int .u64 (r3 : Nat)] 24)
  have xr := Box.new ((w1).alloc (.cells #[.int .u64 (q0 : Nat), .int .u64 (q1 : Nat), .int .u64 (q2 : Nat), .int .u64 (q3 : Nat)] 24)) (r0 : Nat) (r1 : Nat) (r2 : Nat) (r3 : Nat) 24
  simp only [World.size_alloc] at xr
  have PC := below_alloc PB (.cells #[.int .u64 (r0 : Nat), .int .u64 (r1 : Nat), .int .u64 (r2 : Nat), .int .u64 (r3 : Nat)] 24)
  clear PB
  have PB := PC
  clear PC
  generalize ((w1).alloc (.cells #[.int .u64 (q0 : Nat), .int .u64 (q1 : Nat), .int .u64 (q2 : Nat), .int .u64 (q3 : Nat)] 24)).alloc (.cells #[.int .u64 (r0 : Nat), .int .u64 (r1 : Nat), .int .u64 (r2 : Nat), .int .u64 (r3 : Nat)] 24) = W1 at *
  generalize w1.heap.size + 1 = Br at *
  generalize w1.heap.size = Bq at *
  refine (DIV2H.out _).mono ?_
  rintro e w2 ⟨rfl, hc⟩
  replace xa := xa.later hc
  replace xb := xb.later hc
  replace xq := xq.later hc
  replace xr := xr.later hc
  have PC := below_step PB hc
  clear PB hc
  have PB := PC
  clear PC
  have HPB := Lib.hid PB
  clear PB
  go_wp2_with fail
  have PB := HPB.out
  clear HPB
  replace xa := xa.alloc (.cells #[.int .u64 (q0 : Nat), .int .u64 (q1 : Nat), .int .u64 (q2 : Nat), .int .u64 (q3 : Nat)] 24)
  replace xb := xb.alloc (.cells #[.int .u64 (q0 : Nat), .int .u64 (q1 : Nat), .int .u64 (q2 : Nat), .int .u64 (q3 : Nat)] 24)
  replace xq := xq.alloc (.cells #[.int .u64 (q0 : Nat), .int .u64 (q1 : Nat), .int .u64 (q2 : Nat), .int .u64 (q3 : Nat)] 24)
  replace xr := xr.alloc (.cells #[.int .u64 (q0 : Nat), .int .u64 (q1 : Nat), .int .u64 (q2 : Nat), .int .u64 (q3 : Nat)] 24)
  have xp := Box.new (w2) (q0 : Nat) (q1 : Nat) (q2 : Nat) (q3 : Nat) 24
  have PC := below_alloc PB (.cells #[.int .u64 (q0 : Nat), .int .u64 (q1 : Nat), .int .u64 (q2 : Nat), .int .u64 (q3 : Nat)] 24)
  clear PB
  have PB := PC
  clear PC
  replace xa := xa.alloc (.cells #[.int .u64 (r0 : Nat), .int .u64 (r1 : Nat), .int .u64 (r2 : Nat), .int .u64 (r3 : Nat)] 24)
  replace xb := xb.alloc (.cells #[.int .u64 (r0 : Nat), .int .u64 (r1 : Nat), .int .u64 (r2 : Nat), .int .u64 (r3 : Nat)] 24)
  replace xq := xq.alloc (.cells #[.int .u64 (r0 : Nat), .int .u64 (r1 : Nat), .int .u64 (r2 : Nat), .int .u64 (r3 : Nat)] 24)
  replace xr := xr.alloc (.cells #[.int .u64 (r0 : Nat), .int .u64 (r1 : Nat), .int .u64 (r2 : Nat), .int .u64 (r3 : Nat)] 24)
  replace xp := xp.alloc (.cells #[.int .u64 (r0 : Nat), .int .u64 (r1 : Nat), .int .u64 (r2 : Nat), .int .u64 (r3 : Nat)] 24)
  have xs := Box.new ((w2).alloc (.cells #[.int .u64 (q0 : Nat), .int .u64 (q1 : Nat), .int .u64 (q2 : Nat), .int .u64 (q3 : Nat)] 24)) (r0 : Nat) (r1 : Nat) (r2 : Nat) (r3 : Nat) 24
  simp only [World.size_alloc] at xs
  have PC := below_alloc PB (.cells #[.int .u64 (r0 : Nat), .int .u64 (r1 : Nat), .int .u64 (r2 : Nat), .int .u64 (r3 : Nat)] 24)
  clear PB
  have PB := PC
  clear PC
  generalize ((w2).alloc (.cells #[.int .u64 (q0 : Nat), .int .u64 (q1 : Nat), .int .u64 (q2 : Nat), .int .u64 (q3 : Nat)] 24)).alloc (.cells #[.int .u64 (r0 : Nat), .int .u64 (r1 : Nat), .int .u64 (r2 : Nat), .int .u64 (r3 : Nat)] 24) = W3 at *
  generalize w2.heap.size + 1 = Bs at *
  generalize w2.heap.size = Bp at *
  have ca := xa
  obtain ⟨ca0, ca1, ca2, ca3⟩ := ca
  have la := World.block_lt_of_cell? _ _ ca0
  simp only [] at la
  have cq := xq
  obtain ⟨cq0, cq1, cq2, cq3⟩ := cq
  have lq := World.block_lt_of_cell? _ _ cq0
  simp only [] at lq
  have cr := xr
  obtain ⟨cr0, cr1, cr2, cr3⟩ := cr
  have lr := World.block_lt_of_cell? _ _ cr0
  simp only [] at lr
  have cp := xp
  obtain ⟨cp0, cp1, cp2, cp3⟩ := cp
  have lp := World.block_lt_of_cell? _ _ cp0
  simp only [] at lp
  have cs := xs
  obtain ⟨cs0, cs1, cs2, cs3⟩ := cs
  have ls := World.block_lt_of_cell? _ _ cs0
  simp only [] at ls
  have ua0 : ∀ u : After W3, u.w.cell? ⟨w.heap.size, 0, none⟩ = some (.int .u64 (a0 : Nat)) := fun u => u.cell ca0
  have ua1 : ∀ u : After W3, u.w.cell? ⟨w.heap.size, 1, none⟩ = some (.int .u64 (a1 : Nat)) := fun u => u.cell ca1
  have ua2 : ∀ u : After W3, u.w.cell? ⟨w.heap.size, 2, none⟩ = some (.int .u64 (a2 : Nat)) := fun u => u.cell ca2
  have ua3 : ∀ u : After W3, u.w.cell? ⟨w.heap.size, 3, none⟩ = some (.int .u64 (a3 : Nat)) := fun u => u.cell ca3
  have uq0 : ∀ u : After W3, u.w.cell? ⟨Bq, 0, none⟩ = some (.int .u64 (q0 : Nat)) := fun u => u.cell cq0
  have uq1 : ∀ u : After W3, u.w.cell? ⟨Bq, 1, none⟩ = some (.int .u64 (q1 : Nat)) := fun u => u.cell cq1
  have uq2 : ∀ u : After W3, u.w.cell? ⟨Bq, 2, none⟩ = some (.int .u64 (q2 : Nat)) := fun u => u.cell cq2
  have uq3 : ∀ u : After W3, u.w.cell? ⟨Bq, 3, none⟩ = some (.int .u64 (q3 : Nat)) := fun u => u.cell cq3
  have ur0 : ∀ u : After W3, u.w.cell? ⟨Br, 0, none⟩ = some (.int .u64 (r0 : Nat)) := fun u => u.cell cr0
  have ur1 : ∀ u : After W3, u.w.cell? ⟨Br, 1, none⟩ = some (.int .u64 (r1 : Nat)) := fun u => u.cell cr1
  have ur2 : ∀ u : After W3, u.w.cell? ⟨Br, 2, none⟩ = some (.int .u64 (r2 : Nat)) := fun u => u.cell cr2
  have ur3 : ∀ u : After W3, u.w.cell? ⟨Br, 3, none⟩ = some (.int .u64 (r3 : Nat)) := fun u => u.cell cr3
  have up0 : ∀ u : After W3, u.w.cell? ⟨Bp, 0, none⟩ = some (.int .u64 (q0 : Nat)) := fun u => u.cell cp0
  have up1 : ∀ u : After W3, u.w.cell? ⟨Bp, 1, none⟩ = some (.int .u64 (q1 : Nat)) := fun u => u.cell cp1
  have up2 : ∀ u : After W3, u.w.cell? ⟨Bp, 2, none⟩ = some (.int .u64 (q2 : Nat)) := fun u => u.cell cp2
  have up3 : ∀ u : After W3, u.w.cell? ⟨Bp, 3, none⟩ = some (.int .u64 (q3 : Nat)) := fun u => u.cell cp3
  have us0 : ∀ u : After W3, u.w.cell? ⟨Bs, 0, none⟩ = some (.int .u64 (r0 : Nat)) := fun u => u.cell cs0
  have us1 : ∀ u : After W3, u.w.cell? ⟨Bs, 1, none⟩ = some (.int .u64 (r1 : Nat)) := fun u => u.cell cs1
  have us2 : ∀ u : After W3, u.w.cell? ⟨Bs, 2, none⟩ = some (.int .u64 (r2 : Nat)) := fun u => u.cell cs2
  have us3 : ∀ u : After W3, u.w.cell? ⟨Bs, 3, none⟩ = some (.int .u64 (r3 : Nat)) := fun u => u.cell cs3
  have HPB := Lib.hid PB
  clear PB
  refine wp_region_after (by kernel_rfl) (by kernel_rfl) ?_
  repeat (go_big_quiet_step ((first | (go_at_call 24; exact after_call (U1H.out _)) | (go_at_call 25; exact after_call (U2H.out _)) | (go_at_call 26; exact after_call (D1H.out _)) | (go_at_call 27; exact after_call (D2H.out _)) | (go_at_call 21; exact after_call (works_any _)))))
  refine wpQuiet_nil ?_
  rintro _ ⟨u, rfl⟩
  clear ca0 ca1 ca2 ca3 cq0 cq1 cq2 cq3 cr0 cr1 cr2 cr3 cp0 cp1 cp2 cp3 cs0 cs1 cs2 cs3 la lq lr lp ls
  clear ua0 ua1 ua2 ua3 uq0 uq1 uq2 uq3 ur0 ur1 ur2 ur3 up0 up1 up2 up3 us0 us1 us2 us3
  replace xa := xa.later u.below
  replace xb := xb.later u.below
  replace xq := xq.later u.below
  replace xr := xr.later u.below
  replace xp := xp.later u.below
  replace xs := xs.later u.below
  have PB := below_step HPB.out u.below
  clear HPB
  generalize u.w = W4 at *
  clear u
  have HPB := Lib.hid PB
  clear PB
  go_wp2_with fail
  have PB := HPB.out
  clear HPB
  go_ret
  exact ⟨rfl, PB⟩

theorem parts_any (a0 a1 a2 a3 b0 b1 b2 b3 : Nat) (n : Int) (ha : Words a0 a1 a2 a3) (hb : Words b0 b1 b2 b3) (hn : -9223372036854775808 ≤ n ∧ n ≤ 9223372036854775807) (w : World) :
    Calls Try.prog 4 #[.agg #[.int .u64 (a0 : Nat), .int .u64 (a1 : Nat), .int .u64 (a2 : Nat), .int .u64 (a3 : Nat)], .agg #[.int .u64 (b0 : Nat), .int .u64 (b1 : Nat), .int .u64 (b2 : Nat), .int .u64 (b3 : Nat)], .int .i64 n] w fun e w' => e = .returned (.bool true) ∧ Below w.heap.size w w' := by
  obtain ⟨u0, u1, u2, u3, wu, eu⟩ := words_of (x := val a0 a1 a2 a3 * 2 ^ n.toNat % 115792089237316195423570985008687907853269984665640564039457584007913129639936) (Nat.mod_lt _ (by decide))
  obtain ⟨d0, d1, d2, d3, wd, ed⟩ := words_of (x := val a0 a1 a2 a3 / 2 ^ n.toNat) (Nat.lt_of_le_of_lt (Nat.div_le_self _ _) (val_lt ha))
  have same : ∀ {x0 x1 x2 x3 : Nat}, Words x0 x1 x2 x3 → EqIs x0 x1 x2 x3 x0 x1 x2 x3 true := fun h => eqIs h h true (by symm; rw [decide_eq_true_iff])
  by_cases z : val b0 b1 b2 b3 = 0
  · obtain ⟨rfl, rfl, rfl, rfl⟩ := zero_words z
    have wz : Words 0 0 0 0 := ⟨by omega, by omega, by omega, by omega⟩
    exact parts_walk a0 a1 a2 a3 0 0 0 0 0 0 0 0 0 0 0 0 u0 u1 u2 u3 d0 d1 d2 d3 n 1 w (fun w => div_zero a0 a1 a2 a3 w) (fun w => refdiv_zero a0 a1 a2 a3 w) (upZ ha n wu eu) (rupZ ha n hn.2 wu eu) (downZ ha n wd ed) (rdownZ ha n hn.2 wd ed) (same wz) (same wz) (same wu) (same wd)
  · have pos : 0 < val b0 b1 b2 b3 := by omega
    obtain ⟨q0, q1, q2, q3, wq, eq⟩ := words_of (x := val a0 a1 a2 a3 / val b0 b1 b2 b3) (Nat.lt_of_le_of_lt (Nat.div_le_self _ _) (val_lt ha))
    obtain ⟨r0, r1, r2, r3, wr, er⟩ := words_of (x := val a0 a1 a2 a3 % val b0 b1 b2 b3) (Nat.lt_of_le_of_lt (Nat.mod_le _ _) (val_lt ha))
    refine parts_walk a0 a1 a2 a3 b0 b1 b2 b3 q0 q1 q2 q3 r0 r1 r2 r3 u0 u1 u2 u3 d0 d1 d2 d3 n 0 w (divIs ha hb wq wr pos eq er) (fun w => ?_) (upZ ha n wu eu) (rupZ ha n hn.2 wu eu) (downZ ha n wd ed) (rdownZ ha n hn.2 wd ed) (same wq) (same wr) (same wu) (same wd)
    refine (refdiv_any ha hb pos (eqZ hb false (by symm; rw [decide_eq_false_iff_not]; exact z)) w).mono fun e w' ⟨p0, p1, p2, p3, s0, s1, s2, s3, he, wp, ws, vp, vs, hbl⟩ => ?_
    obtain ⟨rfl, rfl, rfl, rfl⟩ := val_inj wp wq (vp.trans eq.symm)
    obtain ⟨rfl, rfl, rfl, rfl⟩ := val_inj ws wr (vs.trans er.symm)
    exact ⟨he, hbl⟩

set_option maxRecDepth 100000 in
theorem bigParts_lifted (os : Os) (started : os.Started) (H : Type) (enc : TypeId × Value → H) :
    ReturnsInHanded {} Try.checked os 4 .any (Rows.bigPartsSpec.pre6 enc Try.prog Try.f4 Rows.bigPartsRow.domain false) (Rows.bigPartsSpec.post enc Try.prog Try.f4 false true false false) := by
  refine returnsInHanded_of_change (C := Try.checked) Try.own started (by kernel_rfl) Try.func4
    (ChangeSpec.witness6 (enc := enc) (C := Try.checked) false ⟨#[], #[.agg #[.int .u64 0, .int .u64 0, .int .u64 0, .int .u64 0], .agg #[.int .u64 0, .int .u64 0, .int .u64 0, .int .u64 0], .int .i64 0], []⟩ 8 (by kernel_rfl) (by kernel_rfl) (by kernel_rfl) (by kernel_rfl)) ?_
  intro W base args ds gs before hval0 hW hcnd _
  have hval : ∀ (j : Nat) t v, Try.f4.params[j]? = some t → args[j]? = some v → Value.okWide Try.prog W .any base t v := hval0
  have hW' := hW
  obtain ⟨p, q, hA0, hV, rfl, hfz, hnd⟩ := hW
  have hA : DataW.TrodAll enc Try.prog W 0 (fun _ => true) true Try.f4.params.toList args.toList ds p := hA0
  rw [Try.params4] at hA hval
  obtain ⟨v0, vs0, d0, ds0, p0, q0, hargs, rfl, rfl, h0, r0⟩ := trodAll_cons hA
  obtain ⟨v1, vs1, d1, ds1, p1, q1, rfl, rfl, rfl, h1, r1⟩ := trodAll_cons r0
  obtain ⟨v2, vs2, d2, ds2, p2, q2, rfl, rfl, rfl, h2, r2⟩ := trodAll_cons r1
  obtain ⟨rfl, rfl, rfl⟩ := trodAll_nil r2
  obtain rfl : args = #[v0, v1, v2] := by cases args; simp_all
  obtain ⟨rfl, rfl⟩ := trodVars_none hV
  have lt0 : ∀ x ∈ p0, x.block < W.heap.size := by obtain ⟨m, hm⟩ := h0; exact DataW.trod_lt m _ _ _ hm
  have lt1 : ∀ x ∈ p1, x.block < W.heap.size := by obtain ⟨m, hm⟩ := h1; exact DataW.trod_lt m _ _ _ hm
  have lt2 : ∀ x ∈ p2, x.block < W.heap.size := by obtain ⟨m, hm⟩ := h2; exact DataW.trod_lt m _ _ _ hm
  obtain ⟨a0, a1, a2, a3, wa, rfl⟩ := open_big (hval 0 24 v0 rfl rfl) h0
  obtain ⟨b0, b1, b2, b3, wb, rfl⟩ := open_big (hval 1 24 v1 rfl rfl) h1
  obtain ⟨c, wc, rfl⟩ := open_int64 (hval 2 3 v2 rfl rfl) h2
  clear hA0 hval0
  refine (parts_any a0 a1 a2 a3 b0 b1 b2 b3 c wa wb wc W).mono fun e W' ⟨he, bel⟩ => ?_
  subst he
  exact ⟨_, rfl, _, _, _, [], _, [], hW', trodAll_mk1 (shut_bool Try.underlying4 _), (trodAll_cons_mk (Below.trod Try.laidOut (by kernel_rfl) (of_decide_eq_true (by kernel_rfl)) h0 bel lt0) (trodAll_cons_mk (Below.trod Try.laidOut (by kernel_rfl) (of_decide_eq_true (by kernel_rfl)) h1 bel lt1) (trodAll_cons_mk (Below.trod Try.laidOut (by kernel_rfl) (of_decide_eq_true (by kernel_rfl)) h2 bel lt2) trodAll_mk0))), rfl, bel.frame _, fun h => by cases h⟩

theorem bigParts_holds : Rows.BigPartsSaid :=
  OpenClaim.holds_of_wide 4 Try.f4 rfl rfl rfl rfl rfl rfl rfl ⟨rfl, rfl, rfl, rfl, rfl⟩ rfl rfl rfl rfl rfl (by kernel_rfl) Try.func4 (by kernel_rfl)
    (of_decide_eq_true (by kernel_rfl)) (by unfold Func.isWrapper; rw [if_neg (of_decide_eq_false (by kernel_rfl))]; exact ⟨rfl, rfl⟩)
    (fun os started H enc _ => bigParts_lifted os started H enc)

end Go.Proofs.Ytcjggdoopehkpaa
