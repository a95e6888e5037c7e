/- The reference's headers: bytes put and got. No condition. -/
import Derived.Test.YtimjmmiajgfblaaGreatDoorGetL
import Derived.Deep.QuietTactic
import Derived.BigQuiet
import Derived.WalkSmall

namespace Go.Proofs.YtimjmmiajgfblaaGreatDoor
open Go.RowKit

theorem le4_top {x : Nat} (h : x < 4294967296) : vals (le4 x) = [.int .u8 ((x : Int) % 256), .int .u8 ((x : Int) / 256 % 256), .int .u8 ((x : Int) / 65536 % 256), .int .u8 ((x : Int) / 16777216)] := by
  have e : (x / 16777216 % 256 : Nat) = x / 16777216 := by omega
  simp only [vals, le4, List.map_cons, List.map_nil, byteV, e]
  rfl
theorem len32 : ∀ p : List Nat, p.length = 32 → ∃ x0 x1 x2 x3 x4 x5 x6 x7 x8 x9 x10 x11 x12 x13 x14 x15 x16 x17 x18 x19 x20 x21 x22 x23 x24 x25 x26 x27 x28 x29 x30 x31, p = [x0, x1, x2, x3, x4, x5, x6, x7, x8, x9, x10, x11, x12, x13, x14, x15, x16, x17, x18, x19, x20, x21, x22, x23, x24, x25, x26, x27, x28, x29, x30, x31]
  | [x0, x1, x2, x3, x4, x5, x6, x7, x8, x9, x10, x11, x12, x13, x14, x15, x16, x17, x18, x19, x20, x21, x22, x23, x24, x25, x26, x27, x28, x29, x30, x31], _ => ⟨x0, x1, x2, x3, x4, x5, x6, x7, x8, x9, x10, x11, x12, x13, x14, x15, x16, x17, x18, x19, x20, x21, x22, x23, x24, x25, x26, x27, x28, x29, x30, x31, rfl⟩
theorem build_lit (x0 x1 x2 x3 x4 x5 x6 x7 x8 x9 x10 x11 x12 x13 x14 x15 x16 x17 x18 x19 x20 x21 x22 x23 x24 x25 x26 x27 x28 x29 x30 x31 y0 y1 y2 y3 y4 y5 y6 y7 y8 y9 y10 y11 y12 y13 y14 y15 y16 y17 y18 y19 y20 y21 y22 y23 y24 y25 y26 y27 y28 y29 y30 y31 : Nat) (v t b n : Nat) (w : World) : (Instr.build 27 #[(0, .int .u32 (v : Int)), (1, .agg (vals [x0, x1, x2, x3, x4, x5, x6, x7, x8, x9, x10, x11, x12, x13, x14, x15, x16, x17, x18, x19, x20, x21, x22, x23, x24, x25, x26, x27, x28, x29, x30, x31]).toArray), (2, .agg (vals [y0, y1, y2, y3, y4, y5, y6, y7, y8, y9, y10, y11, y12, y13, y14, y15, y16, y17, y18, y19, y20, y21, y22, y23, y24, y25, y26, y27, y28, y29, y30, y31]).toArray), (3, .int .u32 (t : Int)), (4, .int .u32 (b : Int)), (5, .int .u32 (n : Int))]).run Tryz.prog w = .ok (.agg (u32v v :: (vals [x0, x1, x2, x3, x4, x5, x6, x7, x8, x9, x10, x11, x12, x13, x14, x15, x16, x17, x18, x19, x20, x21, x22, x23, x24, x25, x26, x27, x28, x29, x30, x31] ++ (vals [y0, y1, y2, y3, y4, y5, y6, y7, y8, y9, y10, y11, y12, y13, y14, y15, y16, y17, y18, y19, y20, y21, y22, y23, y24, y25, y26, y27, y28, y29, y30, y31] ++ [u32v t, u32v b, u32v n]))).toArray) w := by kernel_rfl
theorem build_hd (v t b n : Nat) {p r : List Nat} (hp : p.length = 32) (hr : r.length = 32) (w : World) : (Instr.build 27 #[(0, .int .u32 (v : Int)), (1, .agg (vals p).toArray), (2, .agg (vals r).toArray), (3, .int .u32 (t : Int)), (4, .int .u32 (b : Int)), (5, .int .u32 (n : Int))]).run Tryz.prog w = .ok (.agg (hdV ⟨v, p, r, t, b, n⟩).toArray) w := by
  obtain ⟨x0, x1, x2, x3, x4, x5, x6, x7, x8, x9, x10, x11, x12, x13, x14, x15, x16, x17, x18, x19, x20, x21, x22, x23, x24, x25, x26, x27, x28, x29, x30, x31, rfl⟩ := len32 p hp
  obtain ⟨y0, y1, y2, y3, y4, y5, y6, y7, y8, y9, y10, y11, y12, y13, y14, y15, y16, y17, y18, y19, y20, y21, y22, y23, y24, y25, y26, y27, y28, y29, y30, y31, rfl⟩ := len32 r hr
  exact build_lit x0 x1 x2 x3 x4 x5 x6 x7 x8 x9 x10 x11 x12 x13 x14 x15 x16 x17 x18 x19 x20 x21 x22 x23 x24 x25 x26 x27 x28 x29 x30 x31 y0 y1 y2 y3 y4 y5 y6 y7 y8 y9 y10 y11 y12 y13 y14 y15 y16 y17 y18 y19 y20 y21 y22 y23 y24 y25 y26 y27 y28 y29 y30 y31 _ _ _ _ w

set_option maxRecDepth 100000 in
set_option maxHeartbeats 1000000 in
theorem low_any {x : Nat} (hx : x < 4294967296) (w : World) : Calls Tryz.prog 46 #[.int .u32 (x : Nat)] w fun e w' => e = .returned (.slice (some ⟨w.heap.size, 0, none⟩) 4 4) ∧ w' = w.alloc (.cells (vals (le4 x)).toArray 5) := by
  go_enter Tryz.func46, Tryz.ntmps46
  go_wp2_with fail
  go_ret
  refine ⟨rfl, ?_⟩
  rw [le4_top hx]

set_option maxRecDepth 100000 in
set_option maxHeartbeats 1000000 in
theorem number_any {A : Option Addr} {n c k : Nat} {L : List Nat} (w : World) (hn : n ≤ 1099511627776) (hk : k + 4 ≤ n) (hL : Bs w A n L) : Calls Tryz.prog 47 #[.slice A n c, .int .i64 (k : Nat)] w fun e w' => e = .returned (.int .u32 (num4 L k : Nat)) ∧ Below w.heap.size w w' := by
  obtain ⟨a, rfl, hab, hcel⟩ := hL.cel (by omega)
  have HC := Lib.hid hcel
  have b0 := nth_lt hL.byt k
  have b1 := nth_lt hL.byt (k + 1)
  have b2 := nth_lt hL.byt (k + 2)
  have b3 := nth_lt hL.byt (k + 3)
  have g : ∀ j, 0 < j → a.add (k + j) = ⟨a.block, a.off + (k + j), none⟩ := fun j hj => by unfold Addr.add; rw [if_neg (by omega)]
  have c0 := hcel k (by omega)
  have c1 := hcel (k + 1) (by omega)
  have c2 := hcel (k + 2) (by omega)
  have c3 := hcel (k + 3) (by omega)
  rw [g 1 (by omega)] at c1
  rw [g 2 (by omega)] at c2
  rw [g 3 (by omega)] at c3
  clear hcel hL g
  obtain ⟨x0, h0⟩ : ∃ x, nth L k = x := ⟨_, rfl⟩
  obtain ⟨x1, h1⟩ : ∃ x, nth L (k + 1) = x := ⟨_, rfl⟩
  obtain ⟨x2, h2⟩ : ∃ x, nth L (k + 2) = x := ⟨_, rfl⟩
  obtain ⟨x3, h3⟩ : ∃ x, nth L (k + 3) = x := ⟨_, rfl⟩
  have HN : Hid (num4 L k = x0 + x1 * 256 + x2 * 65536 + x3 * 16777216) := Lib.hid (by rw [num4, h0, h1, h2, h3])
  rw [h0] at c0 b0
  rw [h1] at c1 b1
  rw [h2] at c2 b2
  rw [h3] at c3 b3
  clear h0 h1 h2 h3
  have y1 : IntKind.i64.wrap ((k : Int) + 1) = ((k + 1 : Nat) : Int) := by rw [IntWalk.i64_in _ (by omega)]; omega
  have y2 : IntKind.i64.wrap ((k : Int) + 2) = ((k + 2 : Nat) : Int) := by rw [IntWalk.i64_in _ (by omega)]; omega
  have y3 : IntKind.i64.wrap ((k : Int) + 3) = ((k + 3 : Nat) : Int) := by rw [IntWalk.i64_in _ (by omega)]; omega
  go_enter Tryz.func47, Tryz.ntmps47
  go_wp2_with fail
  go_quiet (fail)
  go_wp2_with fail
  go_ret
  refine ⟨ret_int ?_, below_drewN (Below.refl _ _) _⟩
  rw [HN.out]
  show bits .or .u32 (bits .or .u32 (bits .or .u32 (x0 : Int) ((x1 : Int) * 256)) ((x2 : Int) * 65536)) ((x3 : Int) * 16777216) = _
  have e1 := or_u32 x0 x1 (j := 1) (by decide) (by simpa using b0) b1
  have e2 := or_u32 (x0 + x1 * 256 ^ 1) x2 (j := 2) (by decide) (by simp; omega) b2
  have e3 := or_u32 (x0 + x1 * 256 ^ 1 + x2 * 256 ^ 2) x3 (j := 3) (by decide) (by simp; omega) b3
  rw [show ((x1 : Int) * 256) = ((x1 * 256 ^ 1 : Nat) : Int) by simp, show ((x2 : Int) * 65536) = ((x2 * 256 ^ 2 : Nat) : Int) by simp, show ((x3 : Int) * 16777216) = ((x3 * 256 ^ 3 : Nat) : Int) by simp, e1, e2, e3]
theorem nth_cut32 (L : List Nat) (k : Nat) {j : Nat} (h : j < 32) : nth (cut32 L k) j = nth L (k + j) := by
  unfold cut32
  rw [nth_take h, nth_drop]

/-- The hash when i bytes have been copied. -/
def hashI (L : List Nat) (k : Nat) : Nat → List Nat
  | 0 => List.replicate 32 0
  | i + 1 => (hashI L k i).set i (nth L (k + i))
theorem hashI_len (L : List Nat) (k : Nat) : ∀ i, (hashI L k i).length = 32
  | 0 => rfl
  | i + 1 => by rw [hashI, List.length_set, hashI_len L k i]
theorem hashI_nth (L : List Nat) (k : Nat) : ∀ i j, j < i → i ≤ 32 → nth (hashI L k i) j = nth L (k + j)
  | 0, j, h, _ => by omega
  | i + 1, j, h, h2 => by
    rw [hashI]
    by_cases e : j = i
    · subst e; rw [nth_set_same (by rw [hashI_len]; omega)]
    · rw [nth_set_ne (by omega)]; exact hashI_nth L k i j (by omega) (by omega)
theorem hashI_all {L : List Nat} {k : Nat} (h : k + 32 ≤ L.length) : hashI L k 32 = cut32 L k := by
  have hc : (cut32 L k).length = 32 := by unfold cut32; rw [List.length_take, List.length_drop]; omega
  refine nth_ext (by rw [hashI_len, hc]) fun j hj => ?_
  rw [hashI_len] at hj
  rw [hashI_nth L k 32 j hj (Nat.le_refl _), nth_cut32 L k hj]
theorem row32 : IsRow 25 32 := ⟨.inr ⟨_, _, Tryz.underlying25⟩, Tryz.info26⟩
structure HashAt (w : World) (L : List Nat) (k i : Nat) (wr : World) : Prop where
  rs : Ro wr w.heap.size 25 (vals (List.replicate 32 0))
  hd : Ro wr (w.heap.size + 1) 25 (vals (hashI L k i))
  bel : Below w.heap.size w wr

set_option maxRecDepth 100000 in
set_option maxHeartbeats 1000000 in
theorem hash_any {A : Option Addr} {n c k : Nat} {L : List Nat} (w : World) (hn : n ≤ 1099511627776) (hk : k + 32 ≤ n) (hL : Bs w A n L) : Calls Tryz.prog 48 #[.slice A n c, .int .i64 (k : Nat)] w fun e w' => e = .returned (.agg (vals (cut32 L k)).toArray) ∧ Below w.heap.size w w' := by
  obtain ⟨a, rfl, hab, hcel⟩ := hL.cel (by omega)
  have HC := Lib.hid hcel
  have HL := Lib.hid hL
  clear hcel hL
  have z1 := (Below.refl w.heap.size w).alloc (Nat.le_refl _) (.cells (vals (List.replicate 32 0)).toArray 25)
  have R1 := Ro.new (w.alloc (.cells (vals (List.replicate 32 0)).toArray 25)) 25 (vals (List.replicate 32 0))
  rw [World.size_alloc] at R1
  have G0 : Hid (HashAt w L k 0 ((w.alloc (.cells (vals (List.replicate 32 0)).toArray 25)).alloc (.cells (vals (List.replicate 32 0)).toArray 25))) := Lib.hid ⟨(Ro.new w _ _).alloc _, R1, z1.alloc z1.size _⟩
  clear z1 R1
  go_enter Tryz.func48, Tryz.ntmps48
  go_wp2_with fail
  go_loopw [6] (fun i wr => ∃ j : Nat, j ≤ 32 ∧ i = .int .i64 (j : Nat) ∧ HashAt w L k j wr) (fun i _ => 32 - (intOf i).toNat)
  case atStart => exact ⟨0, Nat.zero_le _, rfl, G0.out⟩
  case round =>
    clear G0
    obtain ⟨j, hj, rfl, I⟩ := hrel
    have HI := Lib.hid I
    clear I
    by_cases hlt : j < 32
    · have c3 : wr.cell? (a.add (k + j)) = some (.int .u8 (nth L (k + j) : Nat)) := by rw [← HC.out (k + j) (by omega)]; exact HI.out.bel.cell (by rw [add_block]; exact hab)
      obtain ⟨x, hx⟩ : ∃ x, nth L (k + j) = x := ⟨_, rfl⟩
      rw [hx] at c3
      have HX := Lib.hid hx
      clear hx
      have c0 := HI.out.hd.u8 (k := j) (by rw [hashI_len]; exact hlt)
      have f0 := HI.out.hd.free j
      go_wp2_with fail
      exact ⟨⟨j + 1, by omega, by go_num, ⟨HI.out.rs.other (c := w.heap.size + 1) (by omega) _, by rw [hashI, HX.out]; exact HI.out.hd.set8 _ _, HI.out.bel.setCell (by simp) _⟩⟩, by simp [intOf]; omega⟩
    · obtain rfl : j = 32 := by omega
      have l32 : Hid ((vals (hashI L k 32)).length = 32) := Lib.hid (by rw [vals_length, hashI_len])
      go_wp2_with (first | (refine wpList_load_ro rfl (.tmp 5) rfl rfl row32 HI.out.hd l32.out ?_) | (refine wpList_store_ro rfl (.tmp 4) (.tmp 19) rfl rfl rfl row32 HI.out.rs rfl l32.out (vals_one _) ?_))
      intro w6 R6 g6
      go_wp2_with fail
      rw [hashI_all (by rw [HL.out.len]; exact hk)] at R6 
      refine bodyPost_ret (results_ro Tryz.results48 _ rfl row32 R6 (by rw [← hashI_all (by rw [HL.out.len]; exact hk)]; exact l32.out)) rfl ⟨rfl, HI.out.bel.grown g6 HI.out.bel.size (fun q e => by injection e; omega)⟩

/-- The first four bytes as a row of the call's own. -/
theorem own_low {w w1 : World} (b : Below w.heap.size w w1) (x : Nat) : Own w (.slice (some ⟨w1.heap.size, 0, none⟩) 4 4) 4 (le4 x) (w1.alloc (.cells (vals (le4 x)).toArray 5)) :=
  Own.full (b.alloc b.size _) (le4 x) (le4_byt x) 4 (by decide) (vals (le4 x)).toArray (by simp [vals_length, le4_len]) (Nat.le_refl _) (by rw [List.take_of_length_le (by simp [vals_length])]) b.size (heap_alloc_new _ _)
theorem bs_low (w : World) (x : Nat) : Bs (w.alloc (.cells (vals (le4 x)).toArray 5)) (some ⟨w.heap.size, 0, none⟩) 4 (le4 x) := Bs.lit w (le4 x) (le4_byt x)

set_option maxRecDepth 100000 in
set_option maxHeartbeats 4000000 in
theorem refPut_any {h : Hd} (o : h.Ok) (w : World) : Calls Tryz.prog 20 #[.agg (hdV h).toArray] w (GivesB w (hdB h)) := by
  have z1 := (Below.refl w.heap.size w).alloc (Nat.le_refl _) (.cells (hdV h).toArray 27)
  have HB := Lib.hid z1
  have HH := Lib.hid (Ro.new w 27 (hdV h))
  have c0 := HH.out.cell (hdV_no o (k := 0) (by decide))
  have c1 := HH.out.cell (hdV_no o (k := 1) (by decide))
  have c2 := HH.out.cell (hdV_no o (k := 2) (by decide))
  have c3 := HH.out.cell (hdV_no o (k := 3) (by decide))
  have ov := o.v
  have ot := o.t
  have ob := o.b
  have on := o.n
  have HO := Lib.hid o
  clear z1 o
  simp only [noN, poN, List.getD_cons_zero, List.getD_cons_succ] at c0 c1 c2 c3
  have C1 := Lib.hid c1
  have C2 := Lib.hid c2
  have C3 := Lib.hid c3
  clear c1 c2 c3
  go_enter Tryz.func20, Tryz.ntmps20
  go_wp2_with fail
  refine (low_any ov _).mono ?_
  rintro e w' ⟨rfl, rfl⟩
  have O1 : Hid (Own (w.alloc (.cells (hdV h).toArray 27)) (.slice (some ⟨w.heap.size + 1, 0, none⟩) 4 4) 4 (le4 h.v) ((w.alloc (.cells (hdV h).toArray 27)).alloc (.cells (vals (le4 h.v)).toArray 5))) := Lib.hid (by have q := own_low (Below.refl _ (w.alloc (.cells (hdV h).toArray 27))) h.v; rwa [World.size_alloc] at q)
  have P1 := Lib.hid (Ro.prev HO.out (HH.out.later O1.out.bel))
  clear c0
  go_wp2_with (at_builtin; refine wpList_app rfl (.tmp 7) (.tmp 9) rfl rfl O1.out rfl P1.out (by decide) ?_)
  intro A2 k2 w2 hk2 O2 g2
  have HO2 := Lib.hid O2
  clear O2 g2 O1 P1
  have P2 := Lib.hid (Ro.root HO.out (HH.out.later HO2.out.bel))
  go_wp2_with (at_builtin; refine wpList_app rfl (.tmp 11) (.tmp 13) rfl rfl HO2.out rfl P2.out (by decide) ?_)
  intro A3 k3 w3 hk3 O3 g3
  have HO3 := Lib.hid O3
  clear O3 g3 P2 HO2
  have c1 := (HH.out.later HO3.out.bel).cell (hdV_no HO.out (k := 1) (by decide))
  simp only [noN, poN, List.getD_cons_zero, List.getD_cons_succ] at c1
  go_wp2_with fail
  refine (low_any ot _).mono ?_
  rintro e w' ⟨rfl, rfl⟩
  have OO := Lib.hid (HO3.out.later ((Below.refl w3.heap.size w3).alloc (Nat.le_refl _) (.cells (vals (le4 h.t)).toArray 5)))
  have PP := Lib.hid (bs_low w3 h.t)
  clear c1 HO3
  go_wp2_with (at_builtin; refine wpList_app rfl (.tmp 15) (.tmp 18) rfl rfl OO.out rfl PP.out (by decide) ?_)
  intro A4 k4 w4 hk4 O4 g4
  have HO4 := Lib.hid O4
  clear O4 g4 OO PP
  have c1 := (HH.out.later HO4.out.bel).cell (hdV_no HO.out (k := 2) (by decide))
  simp only [noN, poN, List.getD_cons_zero, List.getD_cons_succ] at c1
  go_wp2_with fail
  refine (low_any ob _).mono ?_
  rintro e w' ⟨rfl, rfl⟩
  have OO := Lib.hid (HO4.out.later ((Below.refl w4.heap.size w4).alloc (Nat.le_refl _) (.cells (vals (le4 h.b)).toArray 5)))
  have PP := Lib.hid (bs_low w4 h.b)
  clear c1 HO4
  go_wp2_with (at_builtin; refine wpList_app rfl (.tmp 20) (.tmp 23) rfl rfl OO.out rfl PP.out (by decide) ?_)
  intro A5 k5 w5 hk5 O5 g5
  have HO5 := Lib.hid O5
  clear O5 g5 OO PP
  have c1 := (HH.out.later HO5.out.bel).cell (hdV_no HO.out (k := 3) (by decide))
  simp only [noN, poN, List.getD_cons_zero, List.getD_cons_succ] at c1
  go_wp2_with fail
  refine (low_any on _).mono ?_
  rintro e w' ⟨rfl, rfl⟩
  have OO := Lib.hid (HO5.out.later ((Below.refl w5.heap.size w5).alloc (Nat.le_refl _) (.cells (vals (le4 h.n)).toArray 5)))
  have PP := Lib.hid (bs_low w5 h.n)
  clear c1 HO5
  go_wp2_with (at_builtin; refine wpList_app rfl (.tmp 25) (.tmp 28) rfl rfl OO.out rfl PP.out (by decide) ?_)
  intro A6 k6 w6 hk6 O6 g6
  have HO6 := Lib.hid O6
  clear O6 g6 OO PP
  go_wp2_with fail
  go_ret
  refine ⟨_, _, _, rfl, ?_, ?_⟩
  · omega
  · have q := HO6.out.weaken HB.out
    exact q

section
variable {w : World} {ops : Array Oper} {rest : List Oper} {o : Oper} {a : Act} {Q : Exit → Act → World → Prop}
theorem wpList_buildR (hgd : o.guard = none) (T : TypeId) (parts : Array (Nat × Operand)) (ho : o.op = .build T parts) {vs : Array (Nat × Value)} {v : Value} (hx : (parts.map fun y => (y.1, a.eval y.2)) = vs) (hrun : (Instr.build T vs).run Tryz.prog w = .ok v w)
    (h : wpList Tryz.prog ops Q rest (a.put o.dst v) w) : wpList Tryz.prog ops Q (o :: rest) a w := by
  refine wpList_plain hgd fun K hK => ?_
  have e := hK _ _ h
  have hx' : (parts.map fun (x : Nat × Operand) => match x with | (i, x) => (i, a.eval x)) = vs := hx
  unfold Oper.wp execOp
  simp only [ho, Sem.run_bind, hx', hrun, Result.andThen_ok, Sem.run_pure]
  exact e
end
set_option maxRecDepth 100000 in
set_option maxHeartbeats 4000000 in
theorem refGet_bad {A : Option Addr} {n c : Nat} (hn : n ≠ 80) (w : World) : Calls Tryz.prog 21 #[.slice A n c] w fun e w' => e = .returned (.tuple #[.agg (hdV zeroH).toArray, .int .i64 5]) ∧ Below w.heap.size w w' := by
  have z0 := zeroHd
  have z3 : ∀ w, (Instr.build 27 #[]).run Tryz.prog w = .ok (.agg (hdV zeroH).toArray) w := fun w => by kernel_rfl
  have t1 : ((n : Int) != 80) = true := by rw [bne_iff_ne]; omega
  have B1 := Lib.hid ((Below.refl w.heap.size w).alloc (Nat.le_refl _) (.cells (hdV zeroH).toArray 27))
  have R0 := Lib.hid (Ro.new w 27 (hdV zeroH))
  go_enter Tryz.func21, Tryz.ntmps21
  go_wp2_with (refine wpList_store_ro rfl (.tmp 2) (.tmp 7) rfl rfl rfl rowHd R0.out rfl rfl (hdV_one _) ?_)
  intro w4 R4 g4
  go_wp2_with fail
  exact bodyPost_ret (results_ro2 Tryz.results21 _ rfl rowHd R4 rfl rfl) rfl ⟨rfl, B1.out.grown g4 B1.out.size (fun q e => by injection e; omega)⟩
set_option maxRecDepth 100000 in
set_option maxHeartbeats 4000000 in
theorem refGet_any {A : Option Addr} {n c : Nat} {L : List Nat} (w : World) (hn : n = 80) (hL : Bs w A n L) : Calls Tryz.prog 21 #[.slice A n c] w fun e w' => e = .returned (.tuple #[.agg (hdV (getH L)).toArray, .int .i64 0]) ∧ Below w.heap.size w w' := by
  subst hn
  have z0 := zeroHd
  have z3 := build_hd (num4 L 0) (num4 L 68) (num4 L 72) (num4 L 76) (p := cut32 L 4) (r := cut32 L 36) (by unfold cut32; rw [List.length_take, List.length_drop, hL.len]; rfl) (by unfold cut32; rw [List.length_take, List.length_drop, hL.len]; rfl)
  have lG : Hid ((hdV (getH L)).length = 68) := Lib.hid (hdV_len (getH_ok hL.byt hL.len))
  have e0 : (⟨num4 L 0, cut32 L 4, cut32 L 36, num4 L 68, num4 L 72, num4 L 76⟩ : Hd) = getH L := rfl
  rw [e0] at z3
  obtain ⟨G, hG⟩ : ∃ G, hdV (getH L) = G := ⟨_, rfl⟩
  have GO : Hid (∀ u ∈ G, u.oneCell' = true) := Lib.hid (by rw [← hG]; exact hdV_one _)
  rw [hG] at z3 lG ⊢
  clear hG e0
  have CN : Hid (∀ k, k + 4 ≤ 80 → ∀ w1, Below w.heap.size w w1 → Calls Tryz.prog 47 #[.slice A 80 c, .int .i64 (k : Nat)] w1 fun e w' => e = .returned (.int .u32 (num4 L k : Nat)) ∧ Below w1.heap.size w1 w') := Lib.hid (fun k hk w1 b => number_any w1 (by decide) hk (hL.later b))
  have CH : Hid (∀ k, k + 32 ≤ 80 → ∀ w1, Below w.heap.size w w1 → Calls Tryz.prog 48 #[.slice A 80 c, .int .i64 (k : Nat)] w1 fun e w' => e = .returned (.agg (vals (cut32 L k)).toArray) ∧ Below w1.heap.size w1 w') := Lib.hid (fun k hk w1 b => hash_any w1 (by decide) hk (hL.later b))
  clear hL
  obtain ⟨n0, h0⟩ : ∃ x, num4 L 0 = x := ⟨_, rfl⟩
  obtain ⟨n1, h1⟩ : ∃ x, num4 L 68 = x := ⟨_, rfl⟩
  obtain ⟨n2, h2⟩ : ∃ x, num4 L 72 = x := ⟨_, rfl⟩
  obtain ⟨n3, h3⟩ : ∃ x, num4 L 76 = x := ⟨_, rfl⟩
  obtain ⟨P4, h4⟩ : ∃ x, cut32 L 4 = x := ⟨_, rfl⟩
  obtain ⟨P5, h5⟩ : ∃ x, cut32 L 36 = x := ⟨_, rfl⟩
  have N0 := Lib.hid (CN.out 0 (by decide))
  have N1 := Lib.hid (CN.out 68 (by decide))
  have N2 := Lib.hid (CN.out 72 (by decide))
  have N3 := Lib.hid (CN.out 76 (by decide))
  have H4 := Lib.hid (CH.out 4 (by decide))
  have H5 := Lib.hid (CH.out 36 (by decide))
  rw [h0] at N0 z3
  rw [h1] at N1 z3
  rw [h2] at N2 z3
  rw [h3] at N3 z3
  rw [h4] at H4 z3
  rw [h5] at H5 z3
  clear CN CH h0 h1 h2 h3 h4 h5
  have B1 := Lib.hid ((Below.refl w.heap.size w).alloc (Nat.le_refl _) (.cells (hdV zeroH).toArray 27))
  have R0 := Lib.hid (Ro.new w 27 (hdV zeroH))
  go_enter Tryz.func21, Tryz.ntmps21
  go_wp2_with fail
  refine (N0.out _ B1.out).mono ?_
  rintro e v0 ⟨rfl, hb⟩
  have Ra0 := Lib.hid (R0.out.later hb)
  have Ba0 := Lib.hid (B1.out.trans (hb.mono B1.out.size))
  clear hb R0 B1 N0
  go_wp2_with fail
  refine (H4.out _ Ba0.out).mono ?_
  rintro e v1 ⟨rfl, hb⟩
  have Ra1 := Lib.hid (Ra0.out.later hb)
  have Ba1 := Lib.hid (Ba0.out.trans (hb.mono Ba0.out.size))
  clear hb Ra0 Ba0 H4
  go_wp2_with fail
  refine (H5.out _ Ba1.out).mono ?_
  rintro e v2 ⟨rfl, hb⟩
  have Ra2 := Lib.hid (Ra1.out.later hb)
  have Ba2 := Lib.hid (Ba1.out.trans (hb.mono Ba1.out.size))
  clear hb Ra1 Ba1 H5
  go_wp2_with fail
  refine (N1.out _ Ba2.out).mono ?_
  rintro e v3 ⟨rfl, hb⟩
  have Ra3 := Lib.hid (Ra2.out.later hb)
  have Ba3 := Lib.hid (Ba2.out.trans (hb.mono Ba2.out.size))
  clear hb Ra2 Ba2 N1
  go_wp2_with fail
  refine (N2.out _ Ba3.out).mono ?_
  rintro e v4 ⟨rfl, hb⟩
  have Ra4 := Lib.hid (Ra3.out.later hb)
  have Ba4 := Lib.hid (Ba3.out.trans (hb.mono Ba3.out.size))
  clear hb Ra3 Ba3 N2
  go_wp2_with fail
  refine (N3.out _ Ba4.out).mono ?_
  rintro e v5 ⟨rfl, hb⟩
  have Ra5 := Lib.hid (Ra4.out.later hb)
  have Ba5 := Lib.hid (Ba4.out.trans (hb.mono Ba4.out.size))
  clear hb Ra4 Ba4 N3
  go_wp2_with (first | (refine wpList_buildR rfl 27 #[(0, .tmp 9), (1, .tmp 11), (2, .tmp 13), (3, .tmp 15), (4, .tmp 17), (5, .tmp 19)] rfl (vs := #[(0, .int .u32 (n0 : Int)), (1, .agg (vals P4).toArray), (2, .agg (vals P5).toArray), (3, .int .u32 (n1 : Int)), (4, .int .u32 (n2 : Int)), (5, .int .u32 (n3 : Int))]) ?e1 (z3 _) ?_) | (refine wpList_store_ro rfl (.tmp 2) (.tmp 20) rfl rfl rfl rowHd Ra5.out rfl lG.out GO.out ?_))
  case e1 => simp [go_sem]
  intro w6 R6 g6
  go_wp2_with fail
  exact bodyPost_ret (results_ro2 Tryz.results21 _ rfl rowHd R6 lG.out rfl) rfl ⟨rfl, Ba5.out.grown g6 Ba5.out.size (fun q e => by injection e; omega)⟩
end Go.Proofs.YtimjmmiajgfblaaGreatDoor
