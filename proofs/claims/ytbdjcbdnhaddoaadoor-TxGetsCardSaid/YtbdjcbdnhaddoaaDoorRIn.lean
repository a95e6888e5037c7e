/- The reference's reader: an input. No condition. -/
import Derived.Test.YtbdjcbdnhaddoaaDoorRNum
namespace Go.Proofs.YtbdjcbdnhaddoaaDoor
open Go.RowKit

/-- The hash that is copied so far. -/
def hAt (y : List Nat) (j : Nat) : List Nat := y.take j ++ List.replicate (32 - j) 0
theorem hAt_len {y : List Nat} {j : Nat} (h1 : j ≤ y.length) (h2 : j ≤ 32) : (hAt y j).length = 32 := by
  unfold hAt
  rw [List.length_append, List.length_take, List.length_replicate]
  omega
theorem hAt_byt {y : List Nat} (h : AllB y) (j : Nat) : AllB (hAt y j) := fun x hx => by
  rcases List.mem_append.1 hx with k | k
  · exact h x (List.mem_of_mem_take k)
  · have := List.eq_of_mem_replicate k
    omega
theorem hAt_set {y : List Nat} {j : Nat} (h : j < y.length) (h2 : j < 32) : (hAt y j).set j (nth y j) = hAt y (j + 1) := by
  unfold hAt
  have e : (y.take j).length = j := by rw [List.length_take]; omega
  rw [List.set_append_right _ _ (by omega), e, Nat.sub_self, show 32 - j = (32 - (j + 1)) + 1 by omega, List.replicate_succ, List.set_cons_zero, List.take_succ_eq_append_getElem h, List.append_assoc]
  congr 2
  simp [nth, List.getD, h]
theorem hAt_zero (y : List Nat) : hAt y 0 = List.replicate 32 0 := rfl
theorem hAt_all {y : List Nat} (h : y.length = 32) : hAt y 32 = y := by
  unfold hAt
  rw [Nat.sub_self, List.replicate_zero, List.append_nil, List.take_of_length_le (by omega)]
theorem inV_set_h {h : List Nat} (hh : h.length = 32) (n : Nat) (As : Option Addr) (ns cs q : Nat) (Aw : Option Addr) (nw cw : Nat) {j : Nat} (hj : j < 32) (x : Nat) : (inV h n As ns cs q Aw nw cw).set j (.int .u8 (x : Int)) = inV (h.set j x) n As ns cs q Aw nw cw := by
  unfold inV
  rw [List.set_append_left _ _ (by rw [vals_length]; omega)]
  congr 1
  unfold vals
  rw [List.map_set]
  rfl
theorem inV_set_k {h : List Nat} (hh : h.length = 32) (n : Nat) (As : Option Addr) (ns cs q : Nat) (Aw : Option Addr) (nw cw : Nat) (k : Nat) (v : Value) : (inV h n As ns cs q Aw nw cw).set (32 + k) v = vals h ++ ([Value.int .u32 (n : Int), .slice As ns cs, .int .u32 (q : Int), .slice Aw nw cw].set k v) := by
  unfold inV
  rw [List.set_append_right _ _ (by rw [vals_length]; omega), vals_length, hh, Nat.add_sub_cancel_left]
/-- The boxes of an input that is read by the reference. -/
structure InC (w0 w : World) (r : Nat) (L : List Nat) (bad : Bool) (V : List Value) (w1 : World) : Prop where
  rd : RR w0 w1 r L bad
  gr : Gr r w w1
  x : Ro w1 (w.heap.size + 1) 56 V
  p : Ro w1 w.heap.size 56 zIn
section
variable {w0 w w1 w2 : World} {r : Nat} {L L2 : List Nat} {bad b2 : Bool} {V : List Value}
theorem InC.call (I : InC w0 w r L bad V w1) (hr : r < w.heap.size) (R : RR w0 w2 r L2 b2) (G : Gr r w1 w2) : InC w0 w r L2 b2 V w2 :=
  ⟨R, gr_trans I.gr G, I.x.far G (fun e => by injection e; omega), I.p.far G (fun e => by injection e; omega)⟩
theorem InC.set (I : InC w0 w r L bad V w1) (hr : r < w.heap.size) (k : Nat) (v : Value) : InC w0 w r L bad (V.set k v) (w1.setCell ⟨w.heap.size + 1, k, none⟩ v) :=
  ⟨I.rd.far (gr_set w1 (w.heap.size + 1) k v) (fun e => by injection e; omega) (fun b e => by injection e; have := I.rd.lo; omega), gr_own I.gr (by omega) k v, I.x.set k v, I.p.other (by omega) v⟩
theorem InC.later (I : InC w0 w r L bad V w1) (g : Below w1.heap.size w1 w2) : InC w0 w r L bad V w2 :=
  ⟨I.rd.later g, gr_trans I.gr (gr_below r g), I.x.later g, I.p.later g⟩
end
theorem st_in {bad b1 b2 b3 b4 : Bool} {L L1 L2 L3 L4 y h s : List Nat} {n q : Nat} (h1 : St (takeP 32) bad L y L1 b1) (hy : b1 = false → h = y) (h2 : St (numP 4) b1 L1 n L2 b2) (h3 : St itemP b2 L2 s L3 b3) (h4 : St (numP 4) b3 L3 q L4 b4) : St inP bad L ⟨h, n, s, q, []⟩ L4 b4 := by
  rcases h1 with ⟨a1, a2, a3⟩ | ⟨a1, a2⟩
  · have e := hy a2
    subst e
    rcases h2 with ⟨c1, c2, c3⟩ | ⟨c1, c2⟩
    · rcases h3 with ⟨d1, d2, d3⟩ | ⟨d1, d2⟩
      · rcases h4 with ⟨e1, e2, e3⟩ | ⟨e1, e2⟩
        · exact .inl ⟨a1, e2, by unfold inP; rw [a3, Option.bind_some]; simp only; rw [c3, Option.bind_some]; simp only; rw [d3, Option.bind_some]; simp only; rw [e3]; rfl⟩
        · exact .inr ⟨e1, fun _ => by unfold inP; rw [a3, Option.bind_some]; simp only; rw [c3, Option.bind_some]; simp only; rw [d3, Option.bind_some]; simp only; rw [e2 d2]; rfl⟩
      · rcases h4 with ⟨e1, _, _⟩ | ⟨e1, _⟩
        · rw [d1] at e1; cases e1
        · exact .inr ⟨e1, fun _ => by unfold inP; rw [a3, Option.bind_some]; simp only; rw [c3, Option.bind_some]; simp only; rw [d2 c2]; rfl⟩
    · have f3 : b3 = true := by
        rcases h3 with ⟨d1, _, _⟩ | ⟨d1, _⟩
        · rw [c1] at d1; cases d1
        · exact d1
      have f4 : b4 = true := by
        rcases h4 with ⟨d1, _, _⟩ | ⟨d1, _⟩
        · rw [f3] at d1; cases d1
        · exact d1
      exact .inr ⟨f4, fun _ => by unfold inP; rw [a3, Option.bind_some]; simp only; rw [c2 a2]; rfl⟩
  · have f2 : b2 = true := by
      rcases h2 with ⟨d1, _, _⟩ | ⟨d1, _⟩
      · rw [a1] at d1; cases d1
      · exact d1
    have f3 : b3 = true := by
      rcases h3 with ⟨d1, _, _⟩ | ⟨d1, _⟩
      · rw [f2] at d1; cases d1
      · exact d1
    have f4 : b4 = true := by
      rcases h4 with ⟨d1, _, _⟩ | ⟨d1, _⟩
      · rw [f3] at d1; cases d1
      · exact d1
    exact .inr ⟨f4, fun h => by unfold inP; rw [a2 h]; rfl⟩
/-- An element that is an input without any Witness, whose slice is nil. -/
def InR0 : Reads InD := fun w P V i => i.w = [] ∧ ∃ As ns cs, V = inV i.h i.n As ns cs i.q none 0 0 ∧ InS w P i As ns cs none 0 0
theorem inR0_mono : Mono InR0 := ⟨fun ⟨h, As, ns, cs, e, k⟩ g => ⟨h, As, ns, cs, e, k.keep g⟩, fun ⟨h, As, ns, cs, e, k⟩ q => ⟨h, As, ns, cs, e, k.weak q⟩⟩
theorem inR0_r {w : World} {P : Nat → Prop} {V : List Value} {i : InD} (h : InR0 w P V i) : InR w P V i := by
  obtain ⟨_, As, ns, cs, e, k⟩ := h
  exact ⟨As, ns, cs, none, 0, 0, e, k⟩
theorem NewRw.plain {w0 wr : World} {m n : Nat} {v : Value} {l : List InD} (N : NewRw 56 36 InR0 w0 m v n l wr) : NewRw 56 36 InR w0 m v n l wr := by
  obtain ⟨cs, h1, h2, h3⟩ := N.own.row
  exact ⟨⟨⟨cs, h1, h2.imp fun V x hx => inR0_r hx, h3⟩, N.own.len, N.own.bel⟩, N.hi, N.lo⟩
/-- Each witness of the row is nil. -/
def Nils (w : World) (A : Option Addr) (j n : Nat) : Prop := ∀ g, A = some ⟨g, 0, none⟩ → ∀ k, j ≤ k → k < n → w.cell? ⟨g, k * 36 + 35, none⟩ = some (.slice none 0 0)
theorem NewRw.nils {w0 wr : World} {m n c : Nat} {A : Option Addr} {l : List InD} (N : NewRw 56 36 InR0 w0 m (.slice A n c) n l wr) : Nils wr A 0 n := by
  intro g hg k _ hk
  subst hg
  obtain ⟨cs, h1, h2, h3⟩ := N.own.row
  have hl := N.own.len
  obtain ⟨X, V, Z, rfl, hX, hV, ⟨_, As, ns, c2, rfl, S⟩, _⟩ := h2.at_ (k := k) (by omega)
  have hc := h1.cells (g := g) rfl (k * 36 + 35) (.slice none 0 0) (by
    rw [List.getElem?_append_right (by omega), hX, Nat.add_sub_cancel_left, List.getElem?_append_left (by rw [hV]; decide)]
    exact inV_get S.ok.h _ _ _ _ _ _ _ _ 3)
  have e := add_at g 0 (k * 36 + 35)
  rw [Nat.zero_add] at e
  rw [e] at hc
  exact hc
/-- What input gives. -/
def InE (w0 : World) (r : Nat) (w : World) (L : List Nat) (bad : Bool) (e : Ending) (w' : World) : Prop := ∃ (i : InD) (As : Option Addr) (ns cs : Nat) (L' : List Nat) (bad' : Bool), e = .returned (.agg (inV i.h i.n As ns cs i.q none 0 0).toArray) ∧ i.w = [] ∧ InS w' (fun b => w.heap.size ≤ b) i As ns cs none 0 0 ∧ RR w0 w' r L' bad' ∧ Gr r w w' ∧ St inP bad L i L' bad'
set_option maxRecDepth 100000 in
set_option maxHeartbeats 8000000 in
theorem rinput_any {w0 w : World} {r : Nat} {L : List Nat} {bad : Bool} (R : RR w0 w r L bad) :
    Calls Tryd.prog 60 #[.pointer (some ⟨r, 0, none⟩)] w (InE w0 r w L bad) := by
  have z0 := zeroIn
  have rl := R.lt
  have rlo := R.lo
  have b1 := (Below.refl w.heap.size w).alloc (Nat.le_refl _) (.cells zIn.toArray 56)
  have b2 := b1.alloc b1.size (.cells zIn.toArray 56)
  have p1 := (Ro.new w 56 zIn).alloc (.cells zIn.toArray 56)
  have x1 := Ro.new (w.alloc (.cells zIn.toArray 56)) 56 zIn
  rw [World.size_alloc] at x1
  obtain ⟨w1, hw1⟩ : ∃ w1, (w.alloc (.cells zIn.toArray 56)).alloc (.cells zIn.toArray 56) = w1 := ⟨_, rfl⟩
  rw [hw1] at b2 p1 x1
  have HW1 := Lib.hid hw1
  have I1 : Hid (InC w0 w r L bad zIn w1) := Lib.hid ⟨R.later b2, gr_below r b2, x1, p1⟩
  have C1 : Hid (Calls Tryd.prog 40 #[.pointer (some ⟨r, 0, none⟩), .int .i64 32] w1 (Takes w0 r w1 32 L bad)) := Lib.hid (rtake_any (n := 32) I1.out.rd (by decide))
  clear R b1 b2 p1 x1 hw1
  go_enter Tryd.func60, Tryd.ntmps60
  go_upto_region 2 with fail
  rw [HW1.out]
  go_wp2_with (go_at_call 40; refine C1.out.mono ?_)
  rintro e w2 ⟨A, m, c, L1, bd1, rfl, hmc, hm30, R2, G2, hT⟩
  have hm : m ≤ 32 := by
    rcases hT with ⟨_, _, h, _⟩ | ⟨_, h, _⟩ <;> omega
  have hmb : bd1 = false → m = 32 := by
    intro h
    rcases hT with ⟨_, _, k, _⟩ | ⟨_, _, _, k, _⟩
    · exact k
    · rw [h] at k; cases k
  have HMB := Lib.hid hmb
  obtain ⟨y, hy, hs, _⟩ := takes_st hT
  have HS := Lib.hid hs
  have HY := Lib.hid hy
  have LY := Lib.hid hy.len
  have BY := Lib.hid hy.byt
  have I2 := Lib.hid (I1.out.call rl R2 G2)
  clear C1 R2 G2 hT hy hs hmb I1
  go_wp2_with fail
  go_loopw [5] (fun i wr => ∃ j : Nat, j ≤ m ∧ i = .int .i64 (j : Int) ∧ Hid (InC w0 w r L1 bd1 (inV (hAt y j) 0 none 0 0 0 none 0 0) wr)) (fun i _ => m - (intOf i).toNat)
  case atStart => exact ⟨0, Nat.zero_le _, rfl, I2⟩
  case round =>
    clear I2
    obtain ⟨j, hj, rfl, HI⟩ := hrel
    by_cases hlt : j < m
    · have t1 : decide ((j : Int) < (m : Int)) = true := decide_eq_true (by omega)
      have t1n : decide (j < m) = true := decide_eq_true hlt
      obtain ⟨a, rfl, _, ca, lt1⟩ := (HY.out.later HI.out.rd.bel).at_ (k := j) hlt
      obtain ⟨b, hb⟩ : ∃ b, nth y j = b := ⟨_, rfl⟩
      have hl32 := hAt_len (y := y) (j := j) (by rw [LY.out]; omega) (by omega)
      have hse := hAt_set (y := y) (j := j) (by rw [LY.out]; omega) (by omega)
      rw [hb] at ca lt1 hse
      have cx := HI.out.x.cell (k := j) (v := .int .u8 (nth (hAt y j) j : Nat)) (by
        unfold inV
        rw [List.getElem?_append_left (by rw [vals_length]; omega)]
        simp [vals, nth, List.getD, byteV, show j < (hAt y j).length by omega])
      have fx := HI.out.x.free j
      have HSE := Lib.hid hse
      have HL := Lib.hid hl32
      clear hb hse hl32
      go_wp2_with fail
      have I3 := HI.out.set rl j (.int .u8 (b : Int))
      rw [inV_set_h HL.out _ _ _ _ _ _ _ _ (by omega), HSE.out] at I3
      exact ⟨⟨j + 1, by omega, by go_num, Lib.hid I3⟩, by simp [intOf]; omega⟩
    · have t1 : decide ((j : Int) < (m : Int)) = false := decide_eq_false (by omega)
      have t1n : decide (j < m) = false := decide_eq_false hlt
      obtain rfl : j = m := by omega
      obtain ⟨h, hh⟩ : ∃ h, hAt y j = h := ⟨_, rfl⟩
      have hl := hAt_len (y := y) (j := j) (by rw [LY.out]; exact Nat.le_refl _) hm
      have hbt := hAt_byt BY.out j
      rw [hh] at HI hl hbt
      have HYH : Hid (bd1 = false → h = y) := Lib.hid (fun k => by
        have := HMB.out k
        subst this
        rw [← hh]
        exact hAt_all LY.out)
      have HL := Lib.hid hl
      have HBT := Lib.hid hbt
      have C2 : Hid (Calls Tryd.prog 39 #[.pointer (some ⟨r, 0, none⟩), .int .i64 4] wr (NumE w0 r wr 4 L1 bd1)) := Lib.hid (rnumber_any (k := 4) HI.out.rd (by decide))
      clear hh hl hbt HMB HY BY
      go_wp2_with (go_at_call 39; refine C2.out.mono ?_)
      rintro e w3 ⟨n, L2, bd2, rfl, hn, R3, G3, S3⟩
      have HS3 := Lib.hid S3
      have I3 := Lib.hid (HI.out.call rl R3 G3)
      have W1 : IntKind.u32.wrap (n : Int) = (n : Int) := by rw [IntKind.wrap_u32]; omega
      have HN := Lib.hid (show n < 4294967296 from hn)
      have c32 := I3.out.x.cell (inV_get HL.out _ _ _ _ _ _ _ _ 0)
      have f32 := I3.out.x.free 32
      have i4 := I3.out.set rl 32 (.int .u32 (n : Int))
      rw [inV_set_n HL.out] at i4
      have I4 := Lib.hid i4
      have C3 := Lib.hid (ritem_any i4.rd)
      clear C2 R3 G3 S3 hn i4 HI
      go_wp2_with (go_at_call 43; refine C3.out.mono ?_)
      rintro e w5 ⟨s, As, ns, cs, L3, bd3, rfl, hsc, hs30, BS, R5, G5, S5⟩
      have HS5 := Lib.hid S5
      have I5 := Lib.hid (I4.out.call rl R5 G5)
      have HBS : Hid (BsP w5 (fun b => w.heap.size + 2 ≤ b) As ns s) := Lib.hid (BS.weak fun b hb _ => by have := I4.out.x.lt; omega)
      have c33 := I5.out.x.cell (inV_get HL.out _ _ _ _ _ _ _ _ 1)
      have f33 := I5.out.x.free 33
      have i6 := I5.out.set rl 33 (.slice As ns cs)
      rw [inV_set_s HL.out] at i6
      have I6 := Lib.hid i6
      have BS6 := Lib.hid (HBS.out.keep (Kept.of_grown (gr_set w5 (w.heap.size + 1) 33 (.slice As ns cs)) fun b hb e => by injection e; omega))
      have C4 : Hid (Calls Tryd.prog 39 #[.pointer (some ⟨r, 0, none⟩), .int .i64 4] (w5.setCell ⟨w.heap.size + 1, 33, none⟩ (.slice As ns cs)) (NumE w0 r (w5.setCell ⟨w.heap.size + 1, 33, none⟩ (.slice As ns cs)) 4 L3 bd3)) := Lib.hid (rnumber_any (k := 4) i6.rd (by decide))
      clear C3 R5 G5 S5 BS i6 HBS c32 f32 I4 I3
      go_wp2_with (go_at_call 39; refine C4.out.mono ?_)
      rintro e w7 ⟨q, L4, bd4, rfl, hq, R7, G7, S7⟩
      have HS7 := Lib.hid S7
      have I7 := Lib.hid (I6.out.call rl R7 G7)
      have BS7 := Lib.hid (BS6.out.keep (Kept.of_grown G7 fun b hb e => by injection e; omega))
      have W2 : IntKind.u32.wrap (q : Int) = (q : Int) := by rw [IntKind.wrap_u32]; omega
      have HQ := Lib.hid (show q < 4294967296 from hq)
      have c34 := I7.out.x.cell (inV_get HL.out _ _ _ _ _ _ _ _ 2)
      have f34 := I7.out.x.free 34
      have i8 := I7.out.set rl 34 (.int .u32 (q : Int))
      rw [inV_set_q HL.out] at i8
      have I8 := Lib.hid i8
      have BS8 := Lib.hid (BS7.out.keep (Kept.of_grown (gr_set w7 (w.heap.size + 1) 34 (.int .u32 (q : Int))) fun b hb e => by injection e; omega))
      have IL := Lib.hid (inV_len HL.out n As ns cs q none 0 0)
      clear C4 R7 G7 S7 i8 c33 f33 hq I6 I5 BS6 BS7 W1
      go_wp2_with (first
        | (refine wpList_load_part rfl (.tmp 3) rfl rfl rowIn I8.out.x.whole IL.out ?_)
        | (refine wpList_store_ro rfl (.tmp 2) (.tmp 34) rfl rfl rfl rowIn I8.out.p zIn_len IL.out (inV_one _ _ _ _ _ _ _ _ _) ?_))
      intro w9 R9 g9
      have HR9 := Lib.hid R9
      have E1 := Lib.hid (I8.out.rd.far g9 (fun e => by injection e; omega) (fun b e => by injection e; omega))
      have E2 : Hid (Gr r w w9) := Lib.hid (gr_new I8.out.gr ((Below.refl w.heap.size _).grown g9 I8.out.gr.size (fun b e => by injection e; omega)) (Nat.le_refl _))
      have E3 := Lib.hid (BS8.out.keep (Kept.of_grown g9 fun b hb e => by injection e; omega))
      clear R9 g9 c34 f34
      go_wp2_with fail
      exact bodyPost_ret (results_ro Tryd.results60 _ rfl rowIn HR9.out IL.out) rfl ⟨⟨h, n, s, q, []⟩, As, ns, cs, L4, bd4, rfl, rfl, ⟨⟨HL.out, HBT.out, HN.out, E3.out.bs.byt, HQ.out, fun x hx => by cases hx⟩, hsc, by omega, E3.out.weak fun b hb _ => by omega, Nat.le_refl _, by decide, Rows.nil _ _ _ _ _⟩, E1.out, E2.out, st_in HS.out HYH.out HS3.out HS5.out HS7.out⟩
end Go.Proofs.YtbdjcbdnhaddoaaDoor
