/- A reader's input. No condition. -/
import Derived.Test.YtbdjcbdnhaddoaaDoorGr
import Derived.Test.YtbdjcbdnhaddoaaDoorGt
import Derived.Test.YtbdjcbdnhaddoaaDoorSeg
import Derived.Test.YtbdjcbdnhaddoaaDoorMint
import Derived.Laws.CopyOwn
import Derived.Deep.RegionLaw
import Derived.RegionTactic

namespace Go.Proofs.YtbdjcbdnhaddoaaDoor
open Go.RowKit

section
variable {P : Program} {w : World} {ops : Array Oper} {rest : List Oper} {o : Oper} {a : Act} {Q : Exit → Act → World → Prop} {K : Act → World → Prop} {d : Option Tmp} {T S : TypeId} {n b : Nat} {vs zs : List Value} {E : Prop}
theorem step_wp (hg : o.guard = none) (h : Oper.wp P o a w K Q) : if Region.wanted o (yielded ops a.tmps) = true then Oper.wp P o a w K Q else E := by
  have hw : Region.wanted o (yielded ops a.tmps) = true := by simp [Region.wanted, hg]
  rw [if_pos hw]
  exact h
theorem wp_copy_ro (hdst : o.dst = d) (x s : Operand) (ho : o.op = .call { callee := .builtin .copy, args := #[x, s], argTypes := #[29, 29] }) {k m c1 c2 : Nat} {A : Option Addr} {M : List Nat}
    (hd : a.eval x = .slice (some ⟨b, k, none⟩) m c1) (hs : a.eval s = .slice A m c2) (hr : Ro w b S zs) (hsrc : Bs w A m M) (hfit : k + m ≤ zs.length) (hm : 0 < m)
    (h : ∀ w', Ro w' b S (splice zs k (vals M)) → w.grownBy w' (some b) → K (a.put d (.int .i64 (m : Nat))) w') : o.wp Tryd.prog a w K Q := by
  subst hdst
  obtain ⟨i0, hi, _, hz1, _⟩ := info_parts Tryd.infoByte
  have hsz : (Tryd.prog.info? 5).map (·.size) = some 1 := by rw [hi]; simp [hz1]
  have hl := hsrc.len
  obtain ⟨ad, rfl, _, _⟩ := hsrc.cel hm
  have hrun := run_copy_row (P := Tryd.prog) w 29 29 o.type 5 b k m c1 ad m c2 zs.toArray S (vals M) Tryd.underlying29 hsz hr (by rw [vals_length, hl]; simp) hsrc.cells (by rw [vals_length, hl]; simpa using hfit) (vals_one M)
  unfold Oper.wp
  simp [execOp, ho, resolve, invoke, builtin, hd, hs, hrun, Result.andThen]
  have e := setRow_heap w b _ (splice zs k (vals M)).toArray _ _ hr
  have h3 := h _ e (grownBy_setRow _ _ _)
  unfold splice at h3
  simp [vals_length, hl] at h3 ⊢
  exact h3
end
/-- What a call gives that reads an input. -/
def ReadsI (w0 : World) (r : Nat) (w : World) (i : InD) (L : List Nat) (e : Ending) (w' : World) : Prop := ∃ As ns cs, e = .returned (.agg (inV i.h i.n As ns cs i.q none 0 0).toArray) ∧ InS w' (fun b => w.heap.size ≤ b) i As ns cs none 0 0 ∧ Reader w0 w' r L ∧ Gr r w w'
theorem gr_own {r n : Nat} {w w1 : World} (g : Gr r w w1) (hn : w.heap.size ≤ n) (k : Nat) (v : Value) : Gr r w (w1.setCell ⟨n, k, none⟩ v) := gr_new g ((Below.refl _ w1).setCell (p := ⟨n, k, none⟩) hn v) (Nat.le_refl _)
theorem Reader.set {w0 w : World} {r n : Nat} {L : List Nat} (R : Reader w0 w r L) (hn : r < n) (k : Nat) (v : Value) : Reader w0 (w.setCell ⟨n, k, none⟩ v) r L := R.below ((Below.refl n w).setCell (p := ⟨n, k, none⟩) (Nat.le_refl _) v) hn
theorem in_cases {L : List Nat} {i : InD} {R' : List Nat} (h : inP L = some (i, R')) : ∃ n r2 s r3 q, 32 ≤ L.length ∧ numP 4 (L.drop 32) = some (n, r2) ∧ itemP r2 = some (s, r3) ∧ numP 4 r3 = some (q, R') ∧ i = ⟨L.take 32, n, s, q, []⟩ := by
  unfold inP at h
  obtain ⟨⟨y, r1⟩, h1, h⟩ := Option.bind_eq_some_iff.1 h
  obtain ⟨⟨n, r2⟩, h2, h⟩ := Option.bind_eq_some_iff.1 h
  obtain ⟨⟨s, r3⟩, h3, h⟩ := Option.bind_eq_some_iff.1 h
  obtain ⟨⟨q, r4⟩, h4, h⟩ := Option.map_eq_some_iff.1 h
  simp only [Prod.mk.injEq] at h
  obtain ⟨rfl, rfl⟩ := h
  unfold takeP at h1
  split at h1
  · injection h1 with h1
    simp only [Prod.mk.injEq] at h1
    obtain ⟨rfl, rfl⟩ := h1
    exact ⟨n, r2, s, r3, q, by assumption, h2, h3, h4, rfl⟩
  · cases h1
theorem in_not' {L : List Nat} (h : inP L = none) : L.length < 32 ∨ (32 ≤ L.length ∧ (numP 4 (L.drop 32) = none ∨ ∃ n r2, numP 4 (L.drop 32) = some (n, r2) ∧ (itemP r2 = none ∨ ∃ s r3, itemP r2 = some (s, r3) ∧ numP 4 r3 = none))) := by
  by_cases h0 : L.length < 32
  · exact .inl h0
  · refine .inr ⟨by omega, ?_⟩
    unfold inP at h
    rw [takeP_yes (by omega), Option.bind_some] at h
    simp only at h
    cases e1 : numP 4 (L.drop 32) with
    | none => exact .inl rfl
    | some x =>
      obtain ⟨n, r2⟩ := x
      rw [e1, Option.bind_some] at h
      simp only at h
      refine .inr ⟨n, r2, rfl, ?_⟩
      cases e2 : itemP r2 with
      | none => exact .inl rfl
      | some x =>
        obtain ⟨s, r3⟩ := x
        rw [e2, Option.bind_some] at h
        simp only at h
        refine .inr ⟨s, r3, rfl, ?_⟩
        cases e3 : numP 4 r3 with
        | none => rfl
        | some x => rw [e3] at h; cases h
theorem splice_inV {n : Nat} {h0 : List Nat} {As : Option Addr} {ns cs q : Nat} {Aw : Option Addr} {nw cw : Nat} (hl : h0.length = 32) (M : List Nat) (hM : M.length = 32) : splice (inV h0 n As ns cs q Aw nw cw) 0 (vals M) = inV M n As ns cs q Aw nw cw := by
  unfold splice inV
  rw [List.take_zero, List.nil_append, Nat.zero_add, vals_length, hM, List.drop_append_of_le_length (by rw [vals_length]; omega), List.drop_of_length_le (by rw [vals_length]; omega), List.nil_append]

theorem inV_set_n {h : List Nat} (hh : h.length = 32) (n : Nat) (As : Option Addr) (ns cs q : Nat) (Aw : Option Addr) (nw cw m : Nat) : (inV h n As ns cs q Aw nw cw).set 32 (.int .u32 (m : Int)) = inV h m As ns cs q Aw nw cw := by
  unfold inV
  rw [List.set_append_right _ _ (by rw [vals_length]; omega), vals_length, hh]
  rfl
theorem inV_set_s {h : List Nat} (hh : h.length = 32) (n : Nat) (As : Option Addr) (ns cs q : Nat) (Aw : Option Addr) (nw cw : Nat) (B : Option Addr) (m c : Nat) : (inV h n As ns cs q Aw nw cw).set 33 (.slice B m c) = inV h n B m c q Aw nw cw := by
  unfold inV
  rw [List.set_append_right _ _ (by rw [vals_length]; omega), vals_length, hh]
  rfl
theorem inV_set_q {h : List Nat} (hh : h.length = 32) (n : Nat) (As : Option Addr) (ns cs q : Nat) (Aw : Option Addr) (nw cw m : Nat) : (inV h n As ns cs q Aw nw cw).set 34 (.int .u32 (m : Int)) = inV h n As ns cs m Aw nw cw := by
  unfold inV
  rw [List.set_append_right _ _ (by rw [vals_length]; omega), vals_length, hh]
  rfl
theorem inV_get {h : List Nat} (hh : h.length = 32) (n : Nat) (As : Option Addr) (ns cs q : Nat) (Aw : Option Addr) (nw cw : Nat) (k : Nat) : (inV h n As ns cs q Aw nw cw)[32 + k]? = [Value.int .u32 (n : Int), .slice As ns cs, .int .u32 (q : Int), .slice Aw nw cw][k]? := by
  unfold inV
  rw [List.getElem?_append_right (by rw [vals_length]; omega), vals_length, hh, Nat.add_sub_cancel_left]
/-- The boxes of an input that is read. -/
structure InB (w0 w : World) (r : Nat) (L : List Nat) (V : List Value) (w1 : World) : Prop where
  rd : Reader w0 w1 r L
  gr : Gr r w w1
  q : Ro w1 (w.heap.size + 1) 56 V
  p : Ro w1 w.heap.size 56 zIn
theorem InB.call {w0 w w1 w2 : World} {r : Nat} {L L2 : List Nat} {V : List Value} (I : InB w0 w r L V w1) (hr : r < w.heap.size) (R : Reader w0 w2 r L2) (G : Gr r w1 w2) : InB w0 w r L2 V w2 :=
  ⟨R, gr_trans I.gr G, I.q.far G (fun e => by injection e; omega), I.p.far G (fun e => by injection e; omega)⟩
theorem InB.set {w0 w w1 : World} {r : Nat} {L : List Nat} {V : List Value} (I : InB w0 w r L V w1) (hr : r < w.heap.size) (k : Nat) (v : Value) : InB w0 w r L (V.set k v) (w1.setCell ⟨w.heap.size + 1, k, none⟩ v) :=
  ⟨I.rd.set (by omega) k v, gr_own I.gr (by omega) k v, I.q.set k v, I.p.other (by omega) v⟩
theorem BsP.gr {w1 w2 : World} {r n m : Nat} {A : Option Addr} {L : List Nat} (B : BsP w1 (fun b => n ≤ b) A m L) (hr : r < n) (G : Gr r w1 w2) : BsP w2 (fun b => n ≤ b) A m L := B.keep (Kept.of_grown G fun b hb e => by injection e; omega)
theorem BsP.set {w1 : World} {n q m : Nat} {A : Option Addr} {L : List Nat} (B : BsP w1 (fun b => n ≤ b) A m L) (hq : q < n) (k : Nat) (v : Value) : BsP (w1.setCell ⟨q, k, none⟩ v) (fun b => n ≤ b) A m L := B.gr hq (gr_set w1 q k v)

set_option maxRecDepth 100000 in
set_option maxHeartbeats 4000000 in
theorem in_few {w0 w : World} {r : Nat} {L : List Nat} (R : Reader w0 w r L) (h : L.length < 32) :
    Calls Tryd.prog 73 #[.pointer (some ⟨r, 0, none⟩)] w (Fails r w) := by
  have z0 := zeroIn
  have rl := R.lt
  have rlo := R.lo
  have b0 : Below w.heap.size w ((w.alloc (.cells zIn.toArray 56)).alloc (.cells zIn.toArray 56)).drew := (((Below.refl _ w).alloc (Nat.le_refl _) _).alloc (by simp) _).drew
  have R0 := Lib.hid (R.later b0)
  have G0 := Lib.hid (gr_below r b0)
  have S1 : Hid (Calls Tryd.prog 71 #[.pointer (some ⟨r, 0, none⟩), .int .u64 32] ((w.alloc (.cells zIn.toArray 56)).alloc (.cells zIn.toArray 56)).drew (Fails r ((w.alloc (.cells zIn.toArray 56)).alloc (.cells zIn.toArray 56)).drew)) := Lib.hid (some_not (n := 32) R0.out h)
  clear R b0 h
  go_enter Tryd.func73, Tryd.ntmps73
  go_wp2_with fail
  refine wp_region_any (by kernel_rfl) ?_
  change wpAny _ _ _ _ _ _ _ (World.drew _)
  refine wpAny_take (i := 0) (v := ?_) rfl (by kernel_rfl) (by kernel_rfl) (by kernel_rfl) (fun _ _ _ h => h) (Or.inl ⟨by rfl, ?_⟩) ?_
  rotate_left
  · intro w
    go_simp
    with_reducible rfl
  refine wpAny_take (i := 1) (v := ?_) rfl (by kernel_rfl) (by kernel_rfl) (by kernel_rfl) (fun _ _ _ h => h) (Or.inl ⟨by rfl, ?_⟩) ?_
  rotate_left
  · intro w
    go_simp
    with_reducible rfl
  refine wpAny_take (i := 2) (v := ?_) rfl (by kernel_rfl) (by kernel_rfl) (by kernel_rfl) (fun _ _ _ h => h) (Or.inl ⟨by rfl, ?_⟩) ?_
  rotate_left
  · intro w
    go_simp
    with_reducible rfl
  refine wpAny_take (i := 3) (v := ?_) rfl (by kernel_rfl) (by kernel_rfl) (by kernel_rfl) (fun _ _ _ h => h) (Or.inl ⟨by rfl, ?_⟩) ?_
  rotate_left
  · intro w
    go_simp
    with_reducible rfl
  refine wpAny_ready (rs := [4]) (by kernel_rfl) (by simp) ?_
  refine AllReady.cons rfl (fun K hK => ?_) AllReady.nil
  go_simp
  with_reducible refine S1.out.mono ?_
  rintro e w2 ⟨rfl, G⟩
  exact ⟨rfl, rfl, gr_trans G0.out G⟩

set_option maxRecDepth 100000 in
set_option maxHeartbeats 4000000 in
theorem in_yes {w0 w : World} {r : Nat} {L R' : List Nat} {i : InD} (R : Reader w0 w r L) (h : inP L = some (i, R')) :
    Calls Tryd.prog 73 #[.pointer (some ⟨r, 0, none⟩)] w (ReadsI w0 r w i R') := by
  obtain ⟨n, r2, s, r3, q, h32, h4, h5, h6, rfl⟩ := in_cases h
  have z0 := zeroIn
  have rl := R.lt
  have rlo := R.lo
  have b0 : Below w.heap.size w ((w.alloc (.cells zIn.toArray 56)).alloc (.cells zIn.toArray 56)).drew := (((Below.refl _ w).alloc (Nat.le_refl _) _).alloc (by simp) _).drew
  have R0 := Lib.hid (R.later b0)
  have G0 := Lib.hid (gr_below r b0)
  have S1 : Hid (Calls Tryd.prog 71 #[.pointer (some ⟨r, 0, none⟩), .int .u64 32] ((w.alloc (.cells zIn.toArray 56)).alloc (.cells zIn.toArray 56)).drew fun e w' => ∃ A c, e = .returned (.slice A 32 c) ∧ 32 ≤ c ∧ Bs w0 A 32 (L.take 32) ∧ Reader w0 w' r (L.drop 32) ∧ Gr r ((w.alloc (.cells zIn.toArray 56)).alloc (.cells zIn.toArray 56)).drew w') := Lib.hid (some_yes (n := 32) R0.out h32)
  clear R b0 h
  go_enter Tryd.func73, Tryd.ntmps73
  go_wp2_with fail
  refine wp_region_any (by kernel_rfl) ?_
  change wpAny _ _ _ _ _ _ _ (World.drew _)
  refine wpAny_take (i := 0) (v := ?_) rfl (by kernel_rfl) (by kernel_rfl) (by kernel_rfl) (fun _ _ _ h => h) (Or.inl ⟨by rfl, ?_⟩) ?_
  rotate_left
  · intro w
    go_simp
    with_reducible rfl
  refine wpAny_take (i := 1) (v := ?_) rfl (by kernel_rfl) (by kernel_rfl) (by kernel_rfl) (fun _ _ _ h => h) (Or.inl ⟨by rfl, ?_⟩) ?_
  rotate_left
  · intro w
    go_simp
    with_reducible rfl
  refine wpAny_take (i := 2) (v := ?_) rfl (by kernel_rfl) (by kernel_rfl) (by kernel_rfl) (fun _ _ _ h => h) (Or.inl ⟨by rfl, ?_⟩) ?_
  rotate_left
  · intro w
    go_simp
    with_reducible rfl
  refine wpAny_take (i := 3) (v := ?_) rfl (by kernel_rfl) (by kernel_rfl) (by kernel_rfl) (fun _ _ _ h => h) (Or.inl ⟨by rfl, ?_⟩) ?_
  rotate_left
  · intro w
    go_simp
    with_reducible rfl
  refine wpAny_ready (rs := [4]) (by kernel_rfl) (by simp) ?_
  refine AllReady.cons rfl (fun K hK => ?_) AllReady.nil
  go_simp
  with_reducible refine S1.out.mono ?_
  rintro e w2 ⟨A2, c2, rfl, hc2, B2, R2, G2⟩
  have gs : w.heap.size + 2 ≤ w2.heap.size := by have := G2.size; simpa [World.drew, World.drewN] using this
  have q1 := ((Ro.new w 56 zIn).alloc (.cells zIn.toArray 56)).later (Below.refl _ _).drew
  have q2 := (Ro.new (w.alloc (.cells zIn.toArray 56)) 56 zIn).later (Below.refl _ _).drew
  rw [World.size_alloc] at q2
  have Q1 := Lib.hid (q1.far G2 (fun e => by injection e; omega))
  have Q2 := Lib.hid (q2.far G2 (fun e => by injection e; omega))
  have HB2 := Lib.hid (B2.later R2.bel)
  have HR2 := Lib.hid R2
  have HG2 := Lib.hid (gr_trans G0.out G2)
  clear q1 q2 B2 R2 G2
  refine hK _ _ ?_
  clear hK K
  refine wpAny_ready (rs := [5]) (by kernel_rfl) (by simp) ?_
  refine AllReady.cons rfl (fun K hK => ?_) AllReady.nil
  refine step_wp rfl (wp_copy_ro rfl (.tmp 6) (.tmp 8) rfl (b := w.heap.size + 1) (k := 0) (m := 32) rfl rfl Q2.out HB2.out (by decide) (by decide) ?_)
  intro w3 R3 g3
  show K (Act.put _ (some 9) _) _
  refine hK _ _ ?_
  clear hK K
  refine wpAny_done (by kernel_rfl) ?_ _
  have l32 : (L.take 32).length = 32 := by rw [List.length_take]; omega
  have v4 := (numP_some h4 HR2.out.byt)
  have v5 := (itemP_some h5 v4.2.1)
  have v6 := (numP_some h6 v5.2.1)
  have n32 : n < 4294967296 := v4.2.2
  have q32 : q < 4294967296 := v6.2.2
  have bL : AllB (L.take 32) := fun x hx => HB2.out.byt x hx
  have bs := v5.2.2
  have W1 : IntKind.u32.wrap (n : Int) = (n : Int) := by rw [IntKind.wrap_u32]; omega
  have W2 : IntKind.u32.wrap (q : Int) = (q : Int) := by rw [IntKind.wrap_u32]; omega
  obtain ⟨H, hH⟩ : ∃ H, L.take 32 = H := ⟨_, rfl⟩
  rw [hH] at l32 bL R3
  have HH := Lib.hid hH
  have HL := Lib.hid l32
  have HBL := Lib.hid bL
  have HS5 := Lib.hid bs
  unfold zIn at R3
  rw [splice_inV rfl H l32] at R3
  have bl3 := (Below.refl w.heap.size w2).grown g3 (by omega) (fun q e => by injection e; omega)
  have I3 : Hid (InB w0 w r (L.drop 32) (inV H 0 none 0 0 0 none 0 0) w3) := Lib.hid ⟨HR2.out.below bl3 rl, gr_new HG2.out bl3 (Nat.le_refl _), R3, Q1.out.far g3 (fun e => by injection e; omega)⟩
  have H4 := Lib.hid h4
  have H5 := Lib.hid h5
  have H6 := Lib.hid h6
  clear h4 h5 h6 hH v4 v5 v6 bL bs l32 R3 g3 bl3 HR2 HG2 HB2 Q1 Q2 S1 R0 G0 z0 h32
  go_wp2_with (first
    | (go_at_call 70; refine (number_yes (s := 4) I3.out.rd (by decide) (by decide) H4.out).mono ?_; rintro e w4 ⟨rfl, R4, G4⟩; have I4 := Lib.hid (I3.out.call rl R4 G4); have c32 := I4.out.q.cell (inV_get HL.out _ _ _ _ _ _ _ _ 0); have f32 := I4.out.q.free 32; clear I3 R4 G4)
    | (go_at_call 74; have I5 := I4.out.set rl 32 (.int .u32 (n : Int)); rw [inV_set_n HL.out] at I5; have HI5 := Lib.hid I5; clear I5 I4 c32 f32; refine (item_yes HI5.out.rd H5.out).mono ?_; rintro e w5 ⟨As, ns, cs, rfl, hc5, hn5, B5, R5, G5⟩; have I6 := Lib.hid (HI5.out.call rl R5 G5); have hsz : w.heap.size + 2 ≤ (w4.setCell ⟨w.heap.size + 1, 32, none⟩ (.int .u32 (n : Int))).heap.size := HI5.out.q.lt; have B6 := Lib.hid (B5.weak (Q := fun b => w.heap.size + 2 ≤ b) (fun b hb _ => Nat.le_trans hsz hb)); have c33 := I6.out.q.cell (inV_get HL.out _ _ _ _ _ _ _ _ 1); have f33 := I6.out.q.free 33; clear HI5 B5 R5 G5 hsz)
    | (go_at_call 70; have I7 := I6.out.set rl 33 (.slice As ns cs); rw [inV_set_s HL.out] at I7; have HI7 := Lib.hid I7; have B7 := Lib.hid (B6.out.set (q := w.heap.size + 1) (by omega) 33 (.slice As ns cs)); clear I7 I6 B6 c33 f33; refine (number_yes (s := 4) HI7.out.rd (by decide) (by decide) H6.out).mono ?_; rintro e w6 ⟨rfl, R6, G6⟩; have I8 := Lib.hid (HI7.out.call rl R6 G6); have B8 := Lib.hid (B7.out.gr (by omega) G6); have c34 := I8.out.q.cell (inV_get HL.out _ _ _ _ _ _ _ _ 2); have f34 := I8.out.q.free 34; clear HI7 B7 R6 G6)
    | (have I9 := I8.out.set rl 34 (.int .u32 (q : Int)); rw [inV_set_q HL.out] at I9; have HI9 := Lib.hid I9; have B9 := Lib.hid (B8.out.set (q := w.heap.size + 1) (by omega) 34 (.int .u32 (q : Int))); refine wpList_load_part rfl (.tmp 3) rfl rfl rowIn (HI9.out.q.whole) (inV_len HL.out _ _ _ _ _ _ _ _) ?_; clear I9 I8 B8 c34 f34)
    | (refine wpList_store_ro rfl (.tmp 2) (.tmp 22) rfl rfl rfl rowIn HI9.out.p rfl (inV_len HL.out _ _ _ _ _ _ _ _) (inV_one _ _ _ _ _ _ _ _ _) ?_))
  intro w7 R7 g7
  have hs7 := HI9.out.gr.size
  have bl7 := (Below.refl w.heap.size _).grown g7 hs7 (fun q e => by injection e; omega)
  go_wp2_with fail
  refine bodyPost_ret (results_ro Tryd.results73 _ rfl rowIn R7 (inV_len HL.out _ _ _ _ _ _ _ _)) rfl ⟨As, ns, cs, by rw [HH.out], ⟨⟨by rw [HH.out]; exact HL.out, by rw [HH.out]; exact HBL.out, n32, HS5.out, q32, fun x hx => by cases hx⟩, hc5, by omega, ?_, Nat.le_refl _, by omega, Rows.nil _ _ _ _ _⟩, HI9.out.rd.below bl7 rl, gr_new HI9.out.gr bl7 (Nat.le_refl _)⟩
  exact (B9.out.keep (Kept.of_grown g7 fun b hb e => by injection e; omega)).weak fun b hb _ => by omega
end Go.Proofs.YtbdjcbdnhaddoaaDoor

/- A reader's input where the bytes are at an end. No condition. -/
namespace Go.Proofs.YtbdjcbdnhaddoaaDoor
open Go.RowKit

set_option maxRecDepth 100000 in
set_option maxHeartbeats 4000000 in
theorem in_not1 {w0 w : World} {r : Nat} {L : List Nat}  (R : Reader w0 w r L) (h32 : 32 ≤ L.length) (h4 : numP 4 (L.drop 32) = none) :
    Calls Tryd.prog 73 #[.pointer (some ⟨r, 0, none⟩)] w (Fails r w) := by
  have z0 := zeroIn
  have rl := R.lt
  have rlo := R.lo
  have b0 : Below w.heap.size w ((w.alloc (.cells zIn.toArray 56)).alloc (.cells zIn.toArray 56)).drew := (((Below.refl _ w).alloc (Nat.le_refl _) _).alloc (by simp) _).drew
  have R0 := Lib.hid (R.later b0)
  have G0 := Lib.hid (gr_below r b0)
  have S1 : Hid (Calls Tryd.prog 71 #[.pointer (some ⟨r, 0, none⟩), .int .u64 32] ((w.alloc (.cells zIn.toArray 56)).alloc (.cells zIn.toArray 56)).drew fun e w' => ∃ A c, e = .returned (.slice A 32 c) ∧ 32 ≤ c ∧ Bs w0 A 32 (L.take 32) ∧ Reader w0 w' r (L.drop 32) ∧ Gr r ((w.alloc (.cells zIn.toArray 56)).alloc (.cells zIn.toArray 56)).drew w') := Lib.hid (some_yes (n := 32) R0.out h32)
  have H4 := Lib.hid h4
  clear h4
  clear R b0
  go_enter Tryd.func73, Tryd.ntmps73
  go_wp2_with fail
  refine wp_region_any (by kernel_rfl) ?_
  change wpAny _ _ _ _ _ _ _ (World.drew _)
  refine wpAny_take (i := 0) (v := ?_) rfl (by kernel_rfl) (by kernel_rfl) (by kernel_rfl) (fun _ _ _ h => h) (Or.inl ⟨by rfl, ?_⟩) ?_
  rotate_left
  · intro w
    go_simp
    with_reducible rfl
  refine wpAny_take (i := 1) (v := ?_) rfl (by kernel_rfl) (by kernel_rfl) (by kernel_rfl) (fun _ _ _ h => h) (Or.inl ⟨by rfl, ?_⟩) ?_
  rotate_left
  · intro w
    go_simp
    with_reducible rfl
  refine wpAny_take (i := 2) (v := ?_) rfl (by kernel_rfl) (by kernel_rfl) (by kernel_rfl) (fun _ _ _ h => h) (Or.inl ⟨by rfl, ?_⟩) ?_
  rotate_left
  · intro w
    go_simp
    with_reducible rfl
  refine wpAny_take (i := 3) (v := ?_) rfl (by kernel_rfl) (by kernel_rfl) (by kernel_rfl) (fun _ _ _ h => h) (Or.inl ⟨by rfl, ?_⟩) ?_
  rotate_left
  · intro w
    go_simp
    with_reducible rfl
  refine wpAny_ready (rs := [4]) (by kernel_rfl) (by simp) ?_
  refine AllReady.cons rfl (fun K hK => ?_) AllReady.nil
  go_simp
  with_reducible refine S1.out.mono ?_
  rintro e w2 ⟨A2, c2, rfl, hc2, B2, R2, G2⟩
  have gs : w.heap.size + 2 ≤ w2.heap.size := by have := G2.size; simpa [World.drew, World.drewN] using this
  have q1 := ((Ro.new w 56 zIn).alloc (.cells zIn.toArray 56)).later (Below.refl _ _).drew
  have q2 := (Ro.new (w.alloc (.cells zIn.toArray 56)) 56 zIn).later (Below.refl _ _).drew
  rw [World.size_alloc] at q2
  have Q1 := Lib.hid (q1.far G2 (fun e => by injection e; omega))
  have Q2 := Lib.hid (q2.far G2 (fun e => by injection e; omega))
  have HB2 := Lib.hid (B2.later R2.bel)
  have HR2 := Lib.hid R2
  have HG2 := Lib.hid (gr_trans G0.out G2)
  clear q1 q2 B2 R2 G2
  refine hK _ _ ?_
  clear hK K
  refine wpAny_ready (rs := [5]) (by kernel_rfl) (by simp) ?_
  refine AllReady.cons rfl (fun K hK => ?_) AllReady.nil
  refine step_wp rfl (wp_copy_ro rfl (.tmp 6) (.tmp 8) rfl (b := w.heap.size + 1) (k := 0) (m := 32) rfl rfl Q2.out HB2.out (by decide) (by decide) ?_)
  intro w3 R3 g3
  show K (Act.put _ (some 9) _) _
  refine hK _ _ ?_
  clear hK K
  refine wpAny_done (by kernel_rfl) ?_ _
  have l32 : (L.take 32).length = 32 := by rw [List.length_take]; omega
  obtain ⟨H, hH⟩ : ∃ H, L.take 32 = H := ⟨_, rfl⟩
  rw [hH] at l32 R3
  have HL := Lib.hid l32
  unfold zIn at R3
  rw [splice_inV rfl H l32] at R3
  have bl3 := (Below.refl w.heap.size w2).grown g3 (by omega) (fun q e => by injection e; omega)
  have I3 : Hid (InB w0 w r (L.drop 32) (inV H 0 none 0 0 0 none 0 0) w3) := Lib.hid ⟨HR2.out.below bl3 rl, gr_new HG2.out bl3 (Nat.le_refl _), R3, Q1.out.far g3 (fun e => by injection e; omega)⟩
  clear hH l32 R3 g3 bl3 HR2 HG2 HB2 Q1 Q2 S1 R0 G0 z0 h32
  go_wp2_with (first | (go_at_call 70; refine (number_not (s := 4) I3.out.rd H4.out).mono ?_; rintro e w4 ⟨rfl, G4⟩; have GF := Lib.hid (gr_trans I3.out.gr G4)))
  exact ⟨rfl, rfl, GF.out⟩

set_option maxRecDepth 100000 in
set_option maxHeartbeats 4000000 in
theorem in_not2 {w0 w : World} {r : Nat} {L : List Nat} {n : Nat} {r2 : List Nat} (R : Reader w0 w r L) (h32 : 32 ≤ L.length) (h4 : numP 4 (L.drop 32) = some (n, r2)) (h5 : itemP r2 = none) :
    Calls Tryd.prog 73 #[.pointer (some ⟨r, 0, none⟩)] w (Fails r w) := by
  have z0 := zeroIn
  have rl := R.lt
  have rlo := R.lo
  have b0 : Below w.heap.size w ((w.alloc (.cells zIn.toArray 56)).alloc (.cells zIn.toArray 56)).drew := (((Below.refl _ w).alloc (Nat.le_refl _) _).alloc (by simp) _).drew
  have R0 := Lib.hid (R.later b0)
  have G0 := Lib.hid (gr_below r b0)
  have S1 : Hid (Calls Tryd.prog 71 #[.pointer (some ⟨r, 0, none⟩), .int .u64 32] ((w.alloc (.cells zIn.toArray 56)).alloc (.cells zIn.toArray 56)).drew fun e w' => ∃ A c, e = .returned (.slice A 32 c) ∧ 32 ≤ c ∧ Bs w0 A 32 (L.take 32) ∧ Reader w0 w' r (L.drop 32) ∧ Gr r ((w.alloc (.cells zIn.toArray 56)).alloc (.cells zIn.toArray 56)).drew w') := Lib.hid (some_yes (n := 32) R0.out h32)
  have H5 := Lib.hid h5
  clear h5
  have bR := R.byt
  have v4 := (numP_some h4 (fun x hx => bR x (List.mem_of_mem_drop hx)))
  have n32 : n < 4294967296 := v4.2.2
  have W1 : IntKind.u32.wrap (n : Int) = (n : Int) := by rw [IntKind.wrap_u32]; omega
  have H4 := Lib.hid h4
  clear bR v4 h4
  clear R b0
  go_enter Tryd.func73, Tryd.ntmps73
  go_wp2_with fail
  refine wp_region_any (by kernel_rfl) ?_
  change wpAny _ _ _ _ _ _ _ (World.drew _)
  refine wpAny_take (i := 0) (v := ?_) rfl (by kernel_rfl) (by kernel_rfl) (by kernel_rfl) (fun _ _ _ h => h) (Or.inl ⟨by rfl, ?_⟩) ?_
  rotate_left
  · intro w
    go_simp
    with_reducible rfl
  refine wpAny_take (i := 1) (v := ?_) rfl (by kernel_rfl) (by kernel_rfl) (by kernel_rfl) (fun _ _ _ h => h) (Or.inl ⟨by rfl, ?_⟩) ?_
  rotate_left
  · intro w
    go_simp
    with_reducible rfl
  refine wpAny_take (i := 2) (v := ?_) rfl (by kernel_rfl) (by kernel_rfl) (by kernel_rfl) (fun _ _ _ h => h) (Or.inl ⟨by rfl, ?_⟩) ?_
  rotate_left
  · intro w
    go_simp
    with_reducible rfl
  refine wpAny_take (i := 3) (v := ?_) rfl (by kernel_rfl) (by kernel_rfl) (by kernel_rfl) (fun _ _ _ h => h) (Or.inl ⟨by rfl, ?_⟩) ?_
  rotate_left
  · intro w
    go_simp
    with_reducible rfl
  refine wpAny_ready (rs := [4]) (by kernel_rfl) (by simp) ?_
  refine AllReady.cons rfl (fun K hK => ?_) AllReady.nil
  go_simp
  with_reducible refine S1.out.mono ?_
  rintro e w2 ⟨A2, c2, rfl, hc2, B2, R2, G2⟩
  have gs : w.heap.size + 2 ≤ w2.heap.size := by have := G2.size; simpa [World.drew, World.drewN] using this
  have q1 := ((Ro.new w 56 zIn).alloc (.cells zIn.toArray 56)).later (Below.refl _ _).drew
  have q2 := (Ro.new (w.alloc (.cells zIn.toArray 56)) 56 zIn).later (Below.refl _ _).drew
  rw [World.size_alloc] at q2
  have Q1 := Lib.hid (q1.far G2 (fun e => by injection e; omega))
  have Q2 := Lib.hid (q2.far G2 (fun e => by injection e; omega))
  have HB2 := Lib.hid (B2.later R2.bel)
  have HR2 := Lib.hid R2
  have HG2 := Lib.hid (gr_trans G0.out G2)
  clear q1 q2 B2 R2 G2
  refine hK _ _ ?_
  clear hK K
  refine wpAny_ready (rs := [5]) (by kernel_rfl) (by simp) ?_
  refine AllReady.cons rfl (fun K hK => ?_) AllReady.nil
  refine step_wp rfl (wp_copy_ro rfl (.tmp 6) (.tmp 8) rfl (b := w.heap.size + 1) (k := 0) (m := 32) rfl rfl Q2.out HB2.out (by decide) (by decide) ?_)
  intro w3 R3 g3
  show K (Act.put _ (some 9) _) _
  refine hK _ _ ?_
  clear hK K
  refine wpAny_done (by kernel_rfl) ?_ _
  have l32 : (L.take 32).length = 32 := by rw [List.length_take]; omega
  obtain ⟨H, hH⟩ : ∃ H, L.take 32 = H := ⟨_, rfl⟩
  rw [hH] at l32 R3
  have HL := Lib.hid l32
  unfold zIn at R3
  rw [splice_inV rfl H l32] at R3
  have bl3 := (Below.refl w.heap.size w2).grown g3 (by omega) (fun q e => by injection e; omega)
  have I3 : Hid (InB w0 w r (L.drop 32) (inV H 0 none 0 0 0 none 0 0) w3) := Lib.hid ⟨HR2.out.below bl3 rl, gr_new HG2.out bl3 (Nat.le_refl _), R3, Q1.out.far g3 (fun e => by injection e; omega)⟩
  clear hH l32 R3 g3 bl3 HR2 HG2 HB2 Q1 Q2 S1 R0 G0 z0 h32
  go_wp2_with (first | (go_at_call 70; refine (number_yes (s := 4) I3.out.rd (by decide) (by decide) H4.out).mono ?_; rintro e w4 ⟨rfl, R4, G4⟩; have I4 := Lib.hid (I3.out.call rl R4 G4); have c32 := I4.out.q.cell (inV_get HL.out _ _ _ _ _ _ _ _ 0); have f32 := I4.out.q.free 32; clear I3 R4 G4) | (go_at_call 74; have I5 := I4.out.set rl 32 (.int .u32 (n : Int)); have HI5 := Lib.hid I5; clear I5 I4 c32 f32; refine (item_not HI5.out.rd H5.out).mono ?_; rintro e w5 ⟨rfl, G4⟩; have GF := Lib.hid (gr_trans HI5.out.gr G4)))
  exact ⟨rfl, rfl, GF.out⟩

set_option maxRecDepth 100000 in
set_option maxHeartbeats 4000000 in
theorem in_not3 {w0 w : World} {r : Nat} {L : List Nat} {n : Nat} {r2 s r3 : List Nat} (R : Reader w0 w r L) (h32 : 32 ≤ L.length) (h4 : numP 4 (L.drop 32) = some (n, r2)) (h5 : itemP r2 = some (s, r3)) (h6 : numP 4 r3 = none) :
    Calls Tryd.prog 73 #[.pointer (some ⟨r, 0, none⟩)] w (Fails r w) := by
  have z0 := zeroIn
  have rl := R.lt
  have rlo := R.lo
  have b0 : Below w.heap.size w ((w.alloc (.cells zIn.toArray 56)).alloc (.cells zIn.toArray 56)).drew := (((Below.refl _ w).alloc (Nat.le_refl _) _).alloc (by simp) _).drew
  have R0 := Lib.hid (R.later b0)
  have G0 := Lib.hid (gr_below r b0)
  have S1 : Hid (Calls Tryd.prog 71 #[.pointer (some ⟨r, 0, none⟩), .int .u64 32] ((w.alloc (.cells zIn.toArray 56)).alloc (.cells zIn.toArray 56)).drew fun e w' => ∃ A c, e = .returned (.slice A 32 c) ∧ 32 ≤ c ∧ Bs w0 A 32 (L.take 32) ∧ Reader w0 w' r (L.drop 32) ∧ Gr r ((w.alloc (.cells zIn.toArray 56)).alloc (.cells zIn.toArray 56)).drew w') := Lib.hid (some_yes (n := 32) R0.out h32)
  have H5 := Lib.hid h5
  have H6 := Lib.hid h6
  clear h5 h6
  have bR := R.byt
  have v4 := (numP_some h4 (fun x hx => bR x (List.mem_of_mem_drop hx)))
  have n32 : n < 4294967296 := v4.2.2
  have W1 : IntKind.u32.wrap (n : Int) = (n : Int) := by rw [IntKind.wrap_u32]; omega
  have H4 := Lib.hid h4
  clear bR v4 h4
  clear R b0
  go_enter Tryd.func73, Tryd.ntmps73
  go_wp2_with fail
  refine wp_region_any (by kernel_rfl) ?_
  change wpAny _ _ _ _ _ _ _ (World.drew _)
  refine wpAny_take (i := 0) (v := ?_) rfl (by kernel_rfl) (by kernel_rfl) (by kernel_rfl) (fun _ _ _ h => h) (Or.inl ⟨by rfl, ?_⟩) ?_
  rotate_left
  · intro w
    go_simp
    with_reducible rfl
  refine wpAny_take (i := 1) (v := ?_) rfl (by kernel_rfl) (by kernel_rfl) (by kernel_rfl) (fun _ _ _ h => h) (Or.inl ⟨by rfl, ?_⟩) ?_
  rotate_left
  · intro w
    go_simp
    with_reducible rfl
  refine wpAny_take (i := 2) (v := ?_) rfl (by kernel_rfl) (by kernel_rfl) (by kernel_rfl) (fun _ _ _ h => h) (Or.inl ⟨by rfl, ?_⟩) ?_
  rotate_left
  · intro w
    go_simp
    with_reducible rfl
  refine wpAny_take (i := 3) (v := ?_) rfl (by kernel_rfl) (by kernel_rfl) (by kernel_rfl) (fun _ _ _ h => h) (Or.inl ⟨by rfl, ?_⟩) ?_
  rotate_left
  · intro w
    go_simp
    with_reducible rfl
  refine wpAny_ready (rs := [4]) (by kernel_rfl) (by simp) ?_
  refine AllReady.cons rfl (fun K hK => ?_) AllReady.nil
  go_simp
  with_reducible refine S1.out.mono ?_
  rintro e w2 ⟨A2, c2, rfl, hc2, B2, R2, G2⟩
  have gs : w.heap.size + 2 ≤ w2.heap.size := by have := G2.size; simpa [World.drew, World.drewN] using this
  have q1 := ((Ro.new w 56 zIn).alloc (.cells zIn.toArray 56)).later (Below.refl _ _).drew
  have q2 := (Ro.new (w.alloc (.cells zIn.toArray 56)) 56 zIn).later (Below.refl _ _).drew
  rw [World.size_alloc] at q2
  have Q1 := Lib.hid (q1.far G2 (fun e => by injection e; omega))
  have Q2 := Lib.hid (q2.far G2 (fun e => by injection e; omega))
  have HB2 := Lib.hid (B2.later R2.bel)
  have HR2 := Lib.hid R2
  have HG2 := Lib.hid (gr_trans G0.out G2)
  clear q1 q2 B2 R2 G2
  refine hK _ _ ?_
  clear hK K
  refine wpAny_ready (rs := [5]) (by kernel_rfl) (by simp) ?_
  refine AllReady.cons rfl (fun K hK => ?_) AllReady.nil
  refine step_wp rfl (wp_copy_ro rfl (.tmp 6) (.tmp 8) rfl (b := w.heap.size + 1) (k := 0) (m := 32) rfl rfl Q2.out HB2.out (by decide) (by decide) ?_)
  intro w3 R3 g3
  show K (Act.put _ (some 9) _) _
  refine hK _ _ ?_
  clear hK K
  refine wpAny_done (by kernel_rfl) ?_ _
  have l32 : (L.take 32).length = 32 := by rw [List.length_take]; omega
  obtain ⟨H, hH⟩ : ∃ H, L.take 32 = H := ⟨_, rfl⟩
  rw [hH] at l32 R3
  have HL := Lib.hid l32
  unfold zIn at R3
  rw [splice_inV rfl H l32] at R3
  have bl3 := (Below.refl w.heap.size w2).grown g3 (by omega) (fun q e => by injection e; omega)
  have I3 : Hid (InB w0 w r (L.drop 32) (inV H 0 none 0 0 0 none 0 0) w3) := Lib.hid ⟨HR2.out.below bl3 rl, gr_new HG2.out bl3 (Nat.le_refl _), R3, Q1.out.far g3 (fun e => by injection e; omega)⟩
  clear hH l32 R3 g3 bl3 HR2 HG2 HB2 Q1 Q2 S1 R0 G0 z0 h32
  go_wp2_with (first | (go_at_call 70; refine (number_yes (s := 4) I3.out.rd (by decide) (by decide) H4.out).mono ?_; rintro e w4 ⟨rfl, R4, G4⟩; have I4 := Lib.hid (I3.out.call rl R4 G4); have c32 := I4.out.q.cell (inV_get HL.out _ _ _ _ _ _ _ _ 0); have f32 := I4.out.q.free 32; clear I3 R4 G4) | (go_at_call 74; have I5 := I4.out.set rl 32 (.int .u32 (n : Int)); rw [inV_set_n HL.out] at I5; have HI5 := Lib.hid I5; clear I5 I4 c32 f32; refine (item_yes HI5.out.rd H5.out).mono ?_; rintro e w5 ⟨As, ns, cs, rfl, hc5, hn5, B5, R5, G5⟩; have I6 := Lib.hid (HI5.out.call rl R5 G5); have c33 := I6.out.q.cell (inV_get HL.out _ _ _ _ _ _ _ _ 1); have f33 := I6.out.q.free 33; clear HI5 B5 R5 G5) | (go_at_call 70; have I7 := I6.out.set rl 33 (.slice As ns cs); have HI7 := Lib.hid I7; clear I7 I6 c33 f33; refine (number_not (s := 4) HI7.out.rd H6.out).mono ?_; rintro e w6 ⟨rfl, G4⟩; have GF := Lib.hid (gr_trans HI7.out.gr G4)))
  exact ⟨rfl, rfl, GF.out⟩

theorem in_not {w0 w : World} {r : Nat} {L : List Nat} (R : Reader w0 w r L) (h : inP L = none) :
    Calls Tryd.prog 73 #[.pointer (some ⟨r, 0, none⟩)] w (Fails r w) := by
  rcases in_not' h with h0 | ⟨h32, h4 | ⟨n, r2, h4, h5 | ⟨s, r3, h5, h6⟩⟩⟩
  · exact in_few R h0
  · exact in_not1 R h32 h4
  · exact in_not2 R h32 h4 h5
  · exact in_not3 R h32 h4 h5 h6
end Go.Proofs.YtbdjcbdnhaddoaaDoor

/- A reader's witness; and what each read gives, whether there are bytes or not. No condition. -/
namespace Go.Proofs.YtbdjcbdnhaddoaaDoor
open Go.RowKit

theorem number_any {w0 w : World} {r : Nat} {L : List Nat} {s : Nat} (R : Reader w0 w r L) (s1 : 1 ≤ s) (s8 : s ≤ 8) :
    Calls Tryd.prog 70 #[.pointer (some ⟨r, 0, none⟩), .int .u64 (s : Int)] w fun e w' => (∃ x R', numP s L = some (x, R') ∧ e = .returned (.int .u64 (x : Int)) ∧ Reader w0 w' r R' ∧ Gr r w w') ∨ (numP s L = none ∧ e = .panicked shortP ∧ Gr r w w') := by
  cases h : numP s L with
  | none => exact (number_not R h).mono fun e w' ⟨h1, h2⟩ => .inr ⟨rfl, h1, h2⟩
  | some x => exact (number_yes R s1 s8 h).mono fun e w' ⟨h1, h2, h3⟩ => .inl ⟨x.1, x.2, rfl, h1, h2, h3⟩
theorem count_any {w0 w : World} {r : Nat} {L : List Nat} (R : Reader w0 w r L) :
    Calls Tryd.prog 72 #[.pointer (some ⟨r, 0, none⟩)] w fun e w' => (∃ x R', cntP L = some (x, R') ∧ e = .returned (.int .u64 (x : Int)) ∧ Reader w0 w' r R' ∧ Gr r w w') ∨ (cntP L = none ∧ e = .panicked shortP ∧ Gr r w w') := by
  cases h : cntP L with
  | none => exact (count_not R h).mono fun e w' ⟨h1, h2⟩ => .inr ⟨rfl, h1, h2⟩
  | some x => exact (count_yes R h).mono fun e w' ⟨h1, h2, h3⟩ => .inl ⟨x.1, x.2, rfl, h1, h2, h3⟩
theorem item_any {w0 w : World} {r : Nat} {L : List Nat} (R : Reader w0 w r L) :
    Calls Tryd.prog 74 #[.pointer (some ⟨r, 0, none⟩)] w fun e w' => (∃ y R', itemP L = some (y, R') ∧ ∃ A n c, e = .returned (.slice A n c) ∧ n ≤ c ∧ n ≤ 1073741824 ∧ BsP w' (fun b => w.heap.size ≤ b) A n y ∧ Reader w0 w' r R' ∧ Gr r w w') ∨ (itemP L = none ∧ e = .panicked shortP ∧ Gr r w w') := by
  cases h : itemP L with
  | none => exact (item_not R h).mono fun e w' ⟨h1, h2⟩ => .inr ⟨rfl, h1, h2⟩
  | some x => exact (item_yes R h).mono fun e w' h1 => .inl ⟨x.1, x.2, rfl, h1⟩
theorem in_any {w0 w : World} {r : Nat} {L : List Nat} (R : Reader w0 w r L) :
    Calls Tryd.prog 73 #[.pointer (some ⟨r, 0, none⟩)] w fun e w' => (∃ i R', inP L = some (i, R') ∧ ReadsI w0 r w i R' e w') ∨ (inP L = none ∧ e = .panicked shortP ∧ Gr r w w') := by
  cases h : inP L with
  | none => exact (in_not R h).mono fun e w' ⟨h1, h2⟩ => .inr ⟨rfl, h1, h2⟩
  | some x => exact (in_yes R h).mono fun e w' h1 => .inl ⟨x.1, x.2, rfl, h1⟩

theorem ownsRow_far {w w' : World} {base : Nat} {e : TypeId} {size : Nat} {v : Value} {n : Nat} {xs : List Value} {row : Option Nat} (h : w.ownsRow base e size v n xs) (g : w.grownBy w' row) (hne : ∀ b, v.ownBlock = some b → some b ≠ row) : w'.ownsRow base e size v n xs := by
  obtain ⟨h1, h2⟩ := h
  refine ⟨h1, ?_⟩
  rcases h2 with h2 | ⟨b, cap, cur, hv, hb, hh, q⟩
  · exact Or.inl h2
  · exact Or.inr ⟨b, cap, cur, hv, hb, by rw [g.block b (Array.getElem?_eq_some_iff.1 hh).1 (hne b (by rw [hv]; rfl))]; exact hh, q⟩
/-- A row that is made while a reader reads: it and what its elements lead to is none of what lay at n. -/
structure NewRw {α : Type} (T : TypeId) (sz : Nat) (R : Reads α) (w0 : World) (m : Nat) (v : Value) (n : Nat) (l : List α) (wr : World) : Prop where
  own : OwnRw T sz R w0 (fun b => m ≤ b) v n l wr
  hi : ∀ k, v.ownBlock = some k → m ≤ k
  lo : w0.heap.size ≤ m
section
variable {α : Type} {T : TypeId} {sz : Nat} {R : Reads α} {w0 wr w1 : World} {m : Nat} {v : Value} {n : Nat} {l : List α}
theorem NewRw.far (M : Mono R) {q : Nat} (h : NewRw T sz R w0 m v n l wr) (G : Gr q wr w1) (hq : q < m) (h0 : w0.heap.size ≤ q) : NewRw T sz R w0 m v n l w1 := by
  obtain ⟨cs, h1, h2, h3⟩ := h.own.row
  refine ⟨⟨⟨cs, ownsRow_far h1 G (fun b hb e => ?_), h2.imp fun V x hx => M.keep hx (Kept.of_grown G fun b hb e => ?_), h3⟩, h.own.len, gr_bel h.own.bel G h0⟩, h.hi, h.lo⟩
  · have := h.hi b hb; injection e; omega
  · have := hb.1; injection e; omega
theorem NewRw.later (M : Mono R) (h : NewRw T sz R w0 m v n l wr) (g : Below wr.heap.size wr w1) : NewRw T sz R w0 m v n l w1 := ⟨h.own.later M g, h.hi, h.lo⟩
theorem NewRw.none_ {w : World} (b : Below w0.heap.size w0 w) (hm : w0.heap.size ≤ m) : NewRw T sz R w0 m (.slice none 0 0) 0 [] w := ⟨OwnRw.none_ b, fun k h => (by cases h), hm⟩
theorem NewRw.grown {v' : Value} {n' : Nat} {l' : List α} (h : NewRw T sz R w0 m v n l wr) (o : OwnRw T sz R w0 (fun b => m ≤ b) v' n' l' w1) (hm : m ≤ wr.heap.size) (e : v'.ownBlock = v.ownBlock ∨ v'.ownBlock = some wr.heap.size) : NewRw T sz R w0 m v' n' l' w1 :=
  ⟨o, fun k hk => by
    rcases e with e | e
    · exact h.hi k (by rw [← e]; exact hk)
    · rw [e] at hk; injection hk; omega, h.lo⟩
theorem OwnRw.block {P : Nat → Prop} {A : Option Addr} {c : Nat} (h : OwnRw T sz R w0 P (.slice A n c) n l wr) : A.map (·.block) = Value.ownBlock (.slice A n c) := by
  obtain ⟨cs, h1, _⟩ := h.row
  rcases h1.2 with ⟨e, _⟩ | ⟨g, cap, cur, e, _⟩
  · injection e with e1 e2 e3
    subst e1; rfl
  · injection e with e1 e2 e3
    subst e1; rfl
/-- The reader's box is not the row. -/
theorem NewRw.reader {r : Nat} {L : List Nat} {w2 : World} (h : NewRw T sz R w0 m v n l wr) (S : Reader w0 wr r L) (g : wr.grownBy w2 v.ownBlock) (hr : r < m) : Reader w0 w2 r L := by
  obtain ⟨A, k, c, b1, b2, b3, b4⟩ := S.box
  refine ⟨⟨A, k, c, b1.far g (fun e => ?_), b2, b3, b4⟩, S.lo, S.bel.grown g S.bel.size (fun q e => ?_)⟩
  · have := h.hi r e.symm; omega
  · exact (h.own.new q e).1
theorem NewRw.gr {r : Nat} {w w2 : World} (h : NewRw T sz R w0 m v n l wr) (G : Gr r w wr) (g : wr.grownBy w2 v.ownBlock) (hm : w.heap.size ≤ m) : Gr r w w2 :=
  gr_new G ((Below.refl w.heap.size wr).grown g G.size (fun q e => Nat.le_trans hm (h.hi q e))) (Nat.le_refl _)
end
theorem elemB : ElemT 54 29 1 24 (.slice none 0 0) := ⟨by kernel_rfl, by kernel_rfl, rfl, by decide⟩
theorem elemI : ElemT 23 56 36 96 (.agg zIn.toArray) := ⟨by kernel_rfl, by kernel_rfl, by kernel_rfl, by decide⟩
theorem elemO : ElemT 24 46 2 32 (.agg zOut.toArray) := ⟨by kernel_rfl, by kernel_rfl, by kernel_rfl, by decide⟩

theorem listP_next {α : Type} {p : List Nat → Option (α × List Nat)} {k : Nat} {b : List Nat} {pre : List α} {r : List Nat} {x : α} {r' : List Nat} (h : listP p k b = some (pre, r)) (hx : p r = some (x, r')) : listP p (k + 1) b = some (pre ++ [x], r') := by
  rw [listP_snoc k 1 b h, listP, hx]
  rfl
theorem listP_stop {α : Type} {p : List Nat → Option (α × List Nat)} {k n : Nat} {b : List Nat} {pre : List α} {r : List Nat} (h : listP p k b = some (pre, r)) (hx : p r = none) (hk : k < n) : listP p n b = none := by
  obtain ⟨m, rfl⟩ : ∃ m, n = k + (m + 1) := ⟨n - k - 1, by omega⟩
  rw [listP_snoc k (m + 1) b h, listP, hx]
  rfl
/-- What a call gives that reads a witness. -/
def ReadsW (w0 : World) (r : Nat) (w : World) (l : List (List Nat)) (L : List Nat) (e : Ending) (w' : World) : Prop := ∃ A n c, e = .returned (.slice A n c) ∧ n ≤ c ∧ n ≤ 1073741824 ∧ Rows w' (fun b => w.heap.size ≤ b) 1 BsR A n l ∧ Reader w0 w' r L ∧ Gr r w w'
theorem itemP_eats : ∀ b x r, itemP b = some (x, r) → AllB b → r.length < b.length ∧ AllB r ∧ AllB x := fun b x r h k => by
  have := itemP_some h k
  exact ⟨by omega, this.2⟩

set_option maxRecDepth 100000 in
set_option maxHeartbeats 4000000 in
theorem witness_any {w0 w : World} {r : Nat} {L : List Nat} (R : Reader w0 w r L) :
    Calls Tryd.prog 75 #[.pointer (some ⟨r, 0, none⟩)] w fun e w' => (∃ l R', witP L = some (l, R') ∧ ReadsW w0 r w l R' e w') ∨ (witP L = none ∧ e = .panicked shortP ∧ Gr r w w') := by
  have rl := R.lt
  have rlo := R.lo
  have HR := Lib.hid R
  have C1 := Lib.hid (count_any R)
  clear R
  go_enter Tryd.func75, Tryd.ntmps75
  go_wp2_with (go_at_call 72; refine C1.out.mono ?_)
  rintro e w2 (⟨n, r1, h1, rfl, R2, G2⟩ | ⟨h1, rfl, G2⟩)
  case inr => exact ⟨rfl, .inr ⟨by unfold witP; rw [h1]; rfl, rfl, G2⟩⟩
  have hn := (cntP_some h1 HR.out.byt).2.2
  have hr1 := (cntP_some h1 HR.out.byt).2.1
  have hl1 : r1.length ≤ 1073741824 := R2.len
  have HB := Lib.hid hr1
  have H1 := Lib.hid h1
  have HR2 := Lib.hid R2
  have HG2 := Lib.hid G2
  clear C1 h1 R2 G2 hr1
  go_wp2_with fail
  go_loopw [3, 6] (fun v i wr => ∃ (k : Nat) (A : Option Addr) (c : Nat) (pre : List (List Nat)) (Rk : List Nat), k ≤ n ∧ i = .int .u64 (k : Nat) ∧ v = .slice A k c ∧ k ≤ c ∧ Hid (listP itemP k r1 = some (pre, Rk)) ∧ Hid (NewRw 29 1 BsR w0 w.heap.size (.slice A k c) k pre wr) ∧ Hid (Reader w0 wr r Rk) ∧ Hid (Gr r w wr)) (fun _ i _ => n - (intOf i).toNat)
  case atStart => exact ⟨0, none, 0, [], r1, by omega, rfl, rfl, Nat.le_refl _, Lib.hid rfl, Lib.hid (NewRw.none_ HR2.out.bel (by omega)), HR2, HG2⟩
  case round =>
    obtain ⟨k, A, c, pre, Rk, hk, rfl, rfl, hc, HP, HN, HRk, HG⟩ := hrel
    by_cases hlt : k < n
    · have t1 : decide ((k : Int) < (n : Int)) = true := decide_eq_true (by omega)
      have C2 := Lib.hid (item_any HRk.out)
      go_wp2_with (go_at_call 74; refine C2.out.mono ?_)
      rintro e w3 (⟨y, Rn, h2, B, m, d, rfl, hd, hm, BB, R3, G3⟩ | ⟨h2, rfl, G3⟩)
      case inr =>
        have hn2 : listP itemP n r1 = none := listP_stop HP.out h2 hlt
        exact ⟨rfl, .inr ⟨by unfold witP; rw [H1.out]; exact hn2, rfl, gr_trans HG.out G3⟩⟩
      have hnext := listP_next HP.out h2
      have hlen := (listP_some (G := AllB) itemP_eats (k + 1) hnext HB.out).1
      have N3 := HN.out.far bsR_mono G3 rl rlo
      have bl := (Below.refl w3.heap.size w3).alloc (Nat.le_refl _) (.cells #[.slice B m d] 29)
      have N4 := Lib.hid (N3.later bsR_mono bl)
      have R4 := Lib.hid (R3.later bl)
      have gw := gr_trans HG.out G3
      have G4 := Lib.hid (gr_trans gw (gr_below r bl))
      have el : Each 1 (BsR (w3.alloc (.cells #[.slice B m d] 29)) fun b => w.heap.size ≤ b ∧ some b ≠ Value.ownBlock (.slice A k c) ∧ b < (w3.alloc (.cells #[.slice B m d] 29)).heap.size) [.slice B m d] [y] :=
        Each.one rfl ⟨B, m, d, rfl, hd, by omega, (BB.weak (Q := fun b => w.heap.size ≤ b ∧ some b ≠ Value.ownBlock (.slice A k c) ∧ b < (w3.alloc (.cells #[.slice B m d] 29)).heap.size) fun b hb hl => ⟨Nat.le_trans HG.out.size hb, fun e => by have := (HN.out.own.new b e.symm).2; omega, by rw [World.size_alloc]; omega⟩).keep (Kept.of_below bl)⟩
      have EL := Lib.hid el
      have RW := Lib.hid (Ro.new w3 29 [.slice B m d]).whole
      have HX := Lib.hid hnext
      have bl2 := Lib.hid hlen
      clear N3 bl gw el BB R3 G3 hnext hlen h2 C2 HN HRk HG HP
      go_wp2_with (at_builtin; refine wpList_appRw elemB bsR_mono rfl (.tmp 8) (.tmp 11) rfl rfl N4.out.own rfl (k := [y]) (N := k + 1) rfl (fun _ => ⟨_, _, rfl, RW.out⟩) EL.out ?c1 rfl ?c2 ?c3 ?_)
      case c1 => intro u hu; simp at hu; subst hu; rfl
      case c2 => have := bl2.out; omega
      case c3 => have := bl2.out; omega
      intro A5 c5 w5 hc5 O5 g5 e5
      have N5 := Lib.hid (N4.out.grown O5 (by have := G4.out.size; omega) (by rw [World.size_alloc]; exact e5))
      have R5 := Lib.hid (N4.out.reader R4.out g5 rl)
      have G5 := Lib.hid (N4.out.gr G4.out g5 (Nat.le_refl _))
      clear O5 g5 e5 N4 R4 G4 EL RW
      go_wp2_with fail
      exact ⟨⟨k + 1, A5, c5, pre ++ [y], Rn, by omega, by go_num, rfl, hc5, HX, N5, R5, G5⟩, by simp [intOf]; omega⟩
    · have t1 : decide ((k : Int) < (n : Int)) = false := decide_eq_false (by omega)
      have e : k = n := by omega
      have hlen := (listP_some (G := AllB) itemP_eats k HP.out HB.out).1
      have HW : Hid (witP L = some (pre, Rk)) := Lib.hid (by unfold witP; rw [H1.out]; rw [e] at HP; exact HP.out)
      clear e
      go_wp2_with fail
      go_ret
      refine .inl ⟨pre, Rk, HW.out, A, k, c, rfl, hc, by omega, ?_, HRk.out, HG.out⟩
      exact (HN.out.own.reads bsR_mono).weak bsR_mono fun b hb _ => by
        rcases hb with hb | hb
        · exact hb
        · exact HN.out.hi b (by rw [← HN.out.own.block]; exact hb)
end Go.Proofs.YtbdjcbdnhaddoaaDoor

/- The boxes of a transaction that is read. No condition. -/
namespace Go.Proofs.YtbdjcbdnhaddoaaDoor
open Go.RowKit

def zTx : List Value := txV 0 none 0 0 none 0 0 0
theorem zeroTx : ∀ w, (zeroValue 26).run Tryd.prog w = .ok (.agg zTx.toArray) w := fun w => by kernel_rfl
theorem txV_one (v : Nat) (Ai : Option Addr) (ni ci : Nat) (Ao : Option Addr) (no co l : Nat) : ∀ u ∈ txV v Ai ni ci Ao no co l, u.oneCell' = true := fun u hu => by
  simp only [txV, List.mem_cons, List.not_mem_nil, or_false] at hu
  rcases hu with rfl | rfl | rfl | rfl <;> rfl
/-- The boxes of a transaction that is read: what is read so far at q, the answer's at w's end. -/
structure TxB (w0 w : World) (r q : Nat) (L : List Nat) (V : List Value) (w1 : World) : Prop where
  rd : Reader w0 w1 r L
  gr : Gr r w w1
  q : Ro w1 q 26 V
  p : Ro w1 w.heap.size 26 zTx
section
variable {w0 w w1 w2 : World} {r q : Nat} {L L2 : List Nat} {V : List Value}
theorem TxB.call (I : TxB w0 w r q L V w1) (hr : r < w.heap.size) (hq : w.heap.size < q) (R : Reader w0 w2 r L2) (G : Gr r w1 w2) : TxB w0 w r q L2 V w2 :=
  ⟨R, gr_trans I.gr G, I.q.far G (fun e => by injection e; omega), I.p.far G (fun e => by injection e; omega)⟩
theorem TxB.set (I : TxB w0 w r q L V w1) (hr : r < w.heap.size) (hq : w.heap.size < q) (k : Nat) (v : Value) : TxB w0 w r q L (V.set k v) (w1.setCell ⟨q, k, none⟩ v) :=
  ⟨I.rd.set (by omega) k v, gr_own I.gr (by omega) k v, I.q.set k v, I.p.other (by omega) v⟩
theorem TxB.later (I : TxB w0 w r q L V w1) (g : Below w1.heap.size w1 w2) : TxB w0 w r q L V w2 :=
  ⟨I.rd.later g, gr_trans I.gr (gr_below r g), I.q.later g, I.p.later g⟩
/-- Behind an append to a row of what is read. -/
theorem TxB.grown {α : Type} {T : TypeId} {sz m n : Nat} {R : Reads α} {v : Value} {l : List α} (I : TxB w0 w r q L V w1) (N : NewRw T sz R w0 m v n l w1) (g : w1.grownBy w2 v.ownBlock) (hr : r < w.heap.size) (hq : w.heap.size < q) (hm : q < m) : TxB w0 w r q L V w2 :=
  ⟨N.reader I.rd g (by omega), N.gr I.gr g (by omega), I.q.far g (fun e => by have := N.hi q e.symm; omega), I.p.far g (fun e => by have := N.hi w.heap.size e.symm; omega)⟩
theorem NewRw.set {α : Type} {T : TypeId} {sz m n : Nat} {R : Reads α} {v : Value} {l : List α} (M : Mono R) (N : NewRw T sz R w0 m v n l w1) (hm : q < m) (h0 : w0.heap.size ≤ q) (k : Nat) (u : Value) : NewRw T sz R w0 m v n l (w1.setCell ⟨q, k, none⟩ u) := N.far M (gr_set w1 q k u) hm h0
end
/-- A transaction whose lists lie in blocks of P. -/
structure TxG (w : World) (P : Nat → Prop) (t : TxD) (Ai : Option Addr) (ni ci : Nat) (Ao : Option Addr) (no co : Nat) : Prop where
  ver : t.ver < 4294967296
  lock : t.lock < 4294967296
  i1 : ni ≤ ci
  i2 : ni ≤ 140737488351232
  ins : Rows w P 36 InR Ai ni t.ins
  o1 : no ≤ co
  o2 : no ≤ 140737488351232
  outs : Rows w P 2 OutR Ao no t.outs
theorem TxG.keep {w w' : World} {P : Nat → Prop} {t : TxD} {Ai : Option Addr} {ni ci : Nat} {Ao : Option Addr} {no co : Nat} (h : TxG w P t Ai ni ci Ao no co) (g : Kept P w w') : TxG w' P t Ai ni ci Ao no co :=
  ⟨h.ver, h.lock, h.i1, h.i2, h.ins.keep inR_mono g, h.o1, h.o2, h.outs.keep outR_mono g⟩
theorem TxG.weak {w : World} {P Q : Nat → Prop} {t : TxD} {Ai : Option Addr} {ni ci : Nat} {Ao : Option Addr} {no co : Nat} (h : TxG w P t Ai ni ci Ao no co) (q : ∀ b, P b → b < w.heap.size → Q b) : TxG w Q t Ai ni ci Ao no co :=
  ⟨h.ver, h.lock, h.i1, h.i2, h.ins.weak inR_mono q, h.o1, h.o2, h.outs.weak outR_mono q⟩
theorem TxG.r {w : World} {P : Nat → Prop} {t : TxD} {Ai : Option Addr} {ni ci : Nat} {Ao : Option Addr} {no co : Nat} (h : TxG w P t Ai ni ci Ao no co) : TxR w t Ai ni ci Ao no co :=
  ⟨h.ver, h.lock, h.i1, h.i2, h.ins.weak inR_mono fun _ _ _ => trivial, h.o1, h.o2, h.outs.weak outR_mono fun _ _ _ => trivial⟩
theorem TxR.g {w : World} {t : TxD} {Ai : Option Addr} {ni ci : Nat} {Ao : Option Addr} {no co : Nat} (h : TxR w t Ai ni ci Ao no co) : TxG w anyP t Ai ni ci Ao no co :=
  ⟨h.ver, h.lock, h.i1, h.i2, h.ins, h.o1, h.o2, h.outs⟩
/-- What a call gives that reads a transaction. -/
def ReadsT (w0 : World) (r : Nat) (w : World) (t : TxD) (L : List Nat) (e : Ending) (w' : World) : Prop := ∃ Ai ni ci Ao no co, e = .returned (.agg (txV t.ver Ai ni ci Ao no co t.lock).toArray) ∧ TxG w' (fun b => w.heap.size ≤ b) t Ai ni ci Ao no co ∧ Reader w0 w' r L ∧ Gr r w w'
/-! ### the reading, stage by stage -/
def txP5 (ver : Nat) (os : List OutD) (ws : List InD × List Nat) : Option (TxD × List Nat) := (numP 4 ws.2).map fun l => (⟨ver, ws.1, os, l.1⟩, l.2)
def witsP (mk : Bool) (is : List InD) (b : List Nat) : Option (List InD × List Nat) := if mk then (listP witP is.length b).map fun x => (List.zipWith withW is x.1, x.2) else some (is, b)
def txP4 (ver : Nat) (mk : Bool) (is : List InD) (os : List OutD × List Nat) : Option (TxD × List Nat) := (witsP mk is os.2).bind (txP5 ver os.1)
def txP3 (ver : Nat) (mk : Bool) (is : List InD) (m : Nat × List Nat) : Option (TxD × List Nat) := (listP outP m.1 m.2).bind (txP4 ver mk is)
def txP2 (ver : Nat) (mk : Bool) (is : List InD × List Nat) : Option (TxD × List Nat) := (cntP is.2).bind (txP3 ver mk is.1)
def txP1 (ver : Nat) (mk : Bool) (n : Nat × List Nat) : Option (TxD × List Nat) := (listP inP n.1 n.2).bind (txP2 ver mk)
theorem txP_eq {L r1 : List Nat} {ver : Nat} {mk : Bool} (h : numP 4 L = some (ver, r1)) (hm : marked r1 = mk) : txP L = (cntP (if mk then r1.drop 2 else r1)).bind (txP1 ver mk) := by
  subst hm
  unfold txP
  rw [h]
  rfl
theorem bind_none {α β : Type} {a : Option α} {x : Option β} {f : α → Option β} (h : x = a.bind f) (e : a = none) : x = none := by rw [h, e]; rfl
theorem bind_some {α β : Type} {a : Option α} {x : Option β} {f : α → Option β} {y : α} (h : x = a.bind f) (e : a = some y) : x = f y := by rw [h, e]; rfl
theorem inP_eats : ∀ b x r, inP b = some (x, r) → AllB b → r.length < b.length ∧ AllB r ∧ x.Ok := fun b x r h k => by
  have := inP_some h k
  exact ⟨by omega, this.2.1, this.2.2.1⟩
theorem outP_eats : ∀ b x r, outP b = some (x, r) → AllB b → r.length < b.length ∧ AllB r ∧ x.Ok := fun b x r h k => by
  have := outP_some h k
  exact ⟨by omega, this.2.1, this.2.2⟩
/-! ### slices of one element -/
section
variable {α : Type} {S T : TypeId} {sz by_ : Nat} {Z : Value} {w : World} {o : Oper} {a : Act} {Q : Exit → Act → World → Prop} {K : Act → World → Prop} {d : Option Tmp}
theorem wp_lit1 (E : ElemT S T sz by_ Z) (hsz : sz ≤ 64) (hd : o.dst = d) (x : Operand) (ho : o.op = .buildSlice S 1 #[(0, x)]) {V : List Value} (hx : a.eval x = .agg V.toArray) (hl : V.length = sz)
    (h : K (a.put d (.slice (some ⟨w.heap.size, 0, none⟩) 1 1)) (w.alloc (.cells V.toArray T))) : o.wp Tryd.prog a w K Q := by
  rw [← hd] at h
  obtain ⟨i0, hi, hz0, hz1, hz2⟩ := info_parts E.info
  have hp := E.pos
  refine wp_buildSlice S T 1 _ ho V.toArray i0 _ E.und hi hz0 (by rw [hz1]; omega) (by rw [hz1]; omega) ?_ h
  rw [hz1]
  have e : (#[((0 : Nat), x)].map fun (y : Nat × Operand) => (y.1, a.eval y.2)).toList = [(0, .agg V.toArray)] := by simp [hx]
  refine (congrArg _ e).trans ?_
  subst hl
  have h := Go.Great.fill_whole (s := V.length) hp [.agg V.toArray] (Array.map (fun x => Z.cells[x % Z.cells.size]!) (Array.range (1 * V.length))) (by simp [Value.cells]) (by simp)
  simpa [Value.cells] using h
end
theorem number8_any {w0 w : World} {r : Nat} {L : List Nat} (R : Reader w0 w r L) :
    Calls Tryd.prog 70 #[.pointer (some ⟨r, 0, none⟩), .int .u64 8] w fun e w' => (∃ x R', numP 8 L = some (x, R') ∧ e = .returned (.int .u64 (x : Int)) ∧ Reader w0 w' r R' ∧ Gr r w w') ∨ (numP 8 L = none ∧ e = .panicked shortP ∧ Gr r w w') := number_any (s := 8) R (by decide) (by decide)
theorem number4_any {w0 w : World} {r : Nat} {L : List Nat} (R : Reader w0 w r L) :
    Calls Tryd.prog 70 #[.pointer (some ⟨r, 0, none⟩), .int .u64 4] w fun e w' => (∃ x R', numP 4 L = some (x, R') ∧ e = .returned (.int .u64 (x : Int)) ∧ Reader w0 w' r R' ∧ Gr r w w') ∨ (numP 4 L = none ∧ e = .panicked shortP ∧ Gr r w w') := number_any (s := 4) R (by decide) (by decide)
theorem outP_of {L R1 R2 y : List Nat} {v : Nat} (h1 : numP 8 L = some (v, R1)) (h2 : itemP R1 = some (y, R2)) : outP L = some (⟨v, y⟩, R2) := by
  unfold outP
  rw [h1, Option.bind_some]
  simp only
  rw [h2]; rfl
theorem outP_not1 {L : List Nat} (h1 : numP 8 L = none) : outP L = none := by unfold outP; rw [h1]; rfl
theorem outP_not2 {L R1 : List Nat} {v : Nat} (h1 : numP 8 L = some (v, R1)) (h2 : itemP R1 = none) : outP L = none := by
  unfold outP
  rw [h1, Option.bind_some]
  simp only
  rw [h2]; rfl
theorem buildOut (v : Nat) (As : Option Addr) (ns cs : Nat) (w : World) : (Instr.build 46 #[(0, .int .u64 (v : Int)), (1, .slice As ns cs)]).run Tryd.prog w = .ok (.agg (outV v As ns cs).toArray) w := by kernel_rfl
/-- A reader's step, or what is new: what lay there but the reader's box lies as it lay. -/
theorem kept_gr {r n : Nat} {w w1 w2 : World} (h : Kept (fun b => n ≤ b) w w1) (G : Gr r w1 w2) (hr : r < n) : Kept (fun b => n ≤ b) w w2 := h.trans (Kept.of_grown G fun b hb e => by injection e; omega)
theorem kept_below {n : Nat} {w w1 w2 : World} (h : Kept (fun b => n ≤ b) w w1) (g : Below w1.heap.size w1 w2) : Kept (fun b => n ≤ b) w w2 := h.trans (Kept.of_below g)
/-- Behind an append to a row that is new. -/
theorem kept_row {α : Type} {T : TypeId} {sz m n k : Nat} {R : Reads α} {v : Value} {l : List α} {w0 w w1 w2 : World} (h : Kept (fun b => n ≤ b) w w1) (N : NewRw T sz R w0 m v k l w1) (g : w1.grownBy w2 v.ownBlock) (hm : m = w.heap.size) : Kept (fun b => n ≤ b) w w2 :=
  ⟨Nat.le_trans h.size g.size, fun b hb hl => by
    rw [g.block b (Nat.lt_of_lt_of_le hl h.size) (fun e => by have := N.hi b e.symm; omega), h.blk b hb hl]⟩
end Go.Proofs.YtbdjcbdnhaddoaaDoor

/- The inputs of a transaction that is read, as their witnesses are put in. No condition. -/
namespace Go.Proofs.YtbdjcbdnhaddoaaDoor
open Go.RowKit

/-- The inputs, the first ones with their witnesses. -/
def witTo (is : List InD) (ws : List (List (List Nat))) : List InD := List.zipWith withW is ws ++ is.drop ws.length
theorem witTo_nil (is : List InD) : witTo is [] = is := by simp [witTo]
theorem witTo_len (is : List InD) {ws : List (List (List Nat))} (h : ws.length ≤ is.length) : (witTo is ws).length = is.length := by
  unfold witTo
  rw [List.length_append, List.length_zipWith, List.length_drop]
  omega
theorem witTo_all (is : List InD) {ws : List (List (List Nat))} (h : ws.length = is.length) : witTo is ws = List.zipWith withW is ws := by
  unfold witTo
  rw [h, List.drop_length, List.append_nil]
theorem witTo_next {is : List InD} {ws : List (List (List Nat))} {i : InD} (y : List (List Nat)) (h : is[ws.length]? = some i) : witTo is (ws ++ [y]) = (witTo is ws).set ws.length (withW i y) := by
  obtain ⟨hl, rfl⟩ := List.getElem?_eq_some_iff.1 h
  have e1 : is.drop ws.length = is[ws.length] :: is.drop (ws.length + 1) := List.drop_eq_getElem_cons hl
  have e2 : List.zipWith withW is (ws ++ [y]) = List.zipWith withW is ws ++ [withW is[ws.length] y] := by
    conv => lhs; rw [← List.take_append_drop ws.length is]
    rw [List.zipWith_append (by rw [List.length_take]; omega), e1]
    have e4 : List.zipWith withW (is.take ws.length) ws = List.zipWith withW is ws := by
      apply List.ext_getElem?
      intro k
      rw [List.getElem?_zipWith, List.getElem?_zipWith, List.getElem?_take]
      by_cases hk : k < ws.length
      · rw [if_pos hk]
      · rw [if_neg hk, List.getElem?_eq_none (by omega : ws.length ≤ k)]
        cases is[k]? <;> rfl
    rw [e4, List.zipWith_cons_cons, List.zipWith_nil_right]
  unfold witTo
  rw [e2, List.length_append, List.length_singleton, List.append_assoc, e1]
  have e3 : (List.zipWith withW is ws).length = ws.length := by rw [List.length_zipWith]; omega
  rw [List.set_append_right _ _ (by omega), e3, Nat.sub_self]
  rfl
theorem witTo_at {is : List InD} {ws : List (List (List Nat))} {i : InD} (h : is[ws.length]? = some i) : (witTo is ws)[ws.length]? = some i := by
  obtain ⟨hl, rfl⟩ := List.getElem?_eq_some_iff.1 h
  unfold witTo
  have e3 : (List.zipWith withW is ws).length = ws.length := by rw [List.length_zipWith]; omega
  rw [List.getElem?_append_right (by omega), e3, Nat.sub_self, List.drop_eq_getElem_cons hl]
  rfl
/-- The row of the inputs: its block lies below hi, and what it leads to is another's. -/
structure InRow (w1 : World) (lo hi : Nat) (A : Option Addr) (n : Nat) (l : List InD) : Prop where
  len : l.length = n
  row : 0 < n → ∃ g cs Z, A = some ⟨g, 0, none⟩ ∧ lo ≤ g ∧ g < hi ∧ Ro w1 g 56 (cs ++ Z) ∧ Each 36 (InR w1 fun b => lo ≤ b ∧ b ≠ g) cs l
section
variable {w0 w1 w2 : World} {lo hi n : Nat} {A : Option Addr} {l : List InD}
theorem InRow.keep (I : InRow w1 lo hi A n l) (K : Kept (fun b => lo ≤ b) w1 w2) : InRow w2 lo hi A n l :=
  ⟨I.len, fun h => by
    obtain ⟨g, cs, Z, e, h1, h2, h3, h4⟩ := I.row h
    exact ⟨g, cs, Z, e, h1, h2, h3.same (K.blk g h1 h3.lt), h4.imp fun V x hx => inR_mono.keep hx ⟨K.size, fun b hb hl => K.blk b hb.1 hl⟩⟩⟩
theorem InRow.of {c : Nat} (N : NewRw 56 36 InR w0 lo (.slice A n c) n l w1) (e : w1.heap.size = hi) : InRow w1 lo hi A n l :=
  ⟨N.own.len, fun h => by
    obtain ⟨cs, h1, h2, h3⟩ := N.own.row
    obtain ⟨h4, h5⟩ := h1
    rcases h5 with ⟨q, _⟩ | ⟨g, cap, cur, q, a1, a2, a3, a4, a5, a6⟩
    · injection q with q1 q2 q3
      omega
    · have hv := N.hi g (by rw [q]; rfl)
      injection q with q1 q2 q3
      refine ⟨g, cs, cur.toList.drop cs.length, q1, hv, ?_, ?_, h2.imp fun V x hx => inR_mono.weak hx fun b hb _ => ⟨hb.1, fun e => hb.2 (by rw [q1, e]; rfl)⟩⟩
      · rw [← e]; exact (Array.getElem?_eq_some_iff.1 a2).1
      · have e2 : cs ++ cur.toList.drop cs.length = cur.toList := by
          conv => rhs; rw [← List.take_append_drop cs.length cur.toList]
          rw [h4, a6]
        unfold Ro
        rw [e2]
        exact a2⟩
theorem InRow.rows (I : InRow w1 lo hi A n l) : Rows w1 (fun b => lo ≤ b) 36 InR A n l :=
  ⟨I.len, fun h => by
    obtain ⟨g, cs, Z, e, h1, h2, h3, h4⟩ := I.row h
    exact ⟨g, 0, cs, e, h3.lt, h1, fun j v hj => by
      rw [Nat.zero_add]
      exact h3.cell (by rw [List.getElem?_append_left (List.getElem?_eq_some_iff.1 hj).1]; exact hj), h4.imp fun V x hx => inR_mono.weak hx fun b hb _ => hb.1⟩⟩
theorem Each.put {α : Type} {sz : Nat} {R : List Value → α → Prop} {cs : List Value} {l : List α} {j : Nat} {x : α} (h : Each sz R cs l) (hj : l[j]? = some x) : ∃ X V Z, cs = X ++ (V ++ Z) ∧ X.length = j * sz ∧ V.length = sz ∧ R V x ∧ ∀ V' y, V'.length = sz → R V' y → Each sz R (X ++ (V' ++ Z)) (l.set j y) := by
  obtain ⟨hl, rfl⟩ := List.getElem?_eq_some_iff.1 hj
  obtain ⟨X, V, Z, e, h1, h2, h3, h4, h5⟩ := h.at_ hl
  refine ⟨X, V, Z, e, h1, h2, h3, fun V' y hV hy => ?_⟩
  have : l.set j y = l.take j ++ y :: l.drop (j + 1) := by rw [List.set_eq_take_append_cons_drop, if_pos hl]
  rw [this]
  exact h4.app (.cons hV hy h5)
theorem inV_set_w {h : List Nat} (hh : h.length = 32) (n : Nat) (As : Option Addr) (ns cs q : Nat) (Aw : Option Addr) (nw cw : Nat) (B : Option Addr) (m c : Nat) : (inV h n As ns cs q Aw nw cw).set 35 (.slice B m c) = inV h n As ns cs q B m c := by
  unfold inV
  rw [List.set_append_right _ _ (by rw [vals_length]; omega), vals_length, hh]
  rfl
/-- Where a witness is put. -/
theorem InRow.slot (I : InRow w1 lo hi A n l) {j : Nat} {i : InD} (hj : l[j]? = some i) : ∃ g, A = some ⟨g, 0, none⟩ ∧ lo ≤ g ∧ g < hi ∧ g < w1.heap.size ∧ (∃ u : Option Addr × Nat × Nat, w1.cell? ⟨g, j * 36 + 35, none⟩ = some (.slice u.1 u.2.1 u.2.2)) ∧ (∀ k, w1.frozen? ⟨g, k, none⟩ = false) ∧
    ∀ {w2 : World} {B : Option Addr} {m d : Nat} {y : List (List Nat)}, InRow w2 lo hi A n l → m ≤ d → m ≤ 140737488351232 → AllBB y → Rows w2 (fun b => lo ≤ b ∧ b ≠ g) 1 BsR B m y → InRow (w2.setCell ⟨g, j * 36 + 35, none⟩ (.slice B m d)) lo hi A n (l.set j (withW i y)) := by
  have hl := (List.getElem?_eq_some_iff.1 hj).1
  have hlen := I.len
  obtain ⟨g, cs, Z, e, h1, h2, h3, h4⟩ := I.row (by omega)
  obtain ⟨X, V, Y, rfl, hX, hV, ⟨As, ns, cs', Aw, nw, cw, rfl, S⟩, _⟩ := h4.put hj
  refine ⟨g, e, h1, h2, h3.lt, ⟨(Aw, nw, cw), h3.cell ?_⟩, h3.free, ?_⟩
  · rw [List.append_assoc, List.getElem?_append_right (by omega), hX, Nat.add_sub_cancel_left, List.append_assoc, List.getElem?_append_left (by rw [hV]; decide)]
    exact inV_get S.ok.h _ _ _ _ _ _ _ _ 3
  · intro w2 B m d y I2 hm hm2 hy hr
    refine ⟨by rw [List.length_set]; exact hlen, fun h => ?_⟩
    obtain ⟨g2, cs2, Z2, e2, k1, k2, k3, k4⟩ := I2.row h
    rw [e] at e2
    injection e2 with e2
    injection e2 with e2
    subst e2
    obtain ⟨X2, V2, Y2, rfl, hX2, hV2, ⟨As2, ns2, cs2', Aw2, nw2, cw2, rfl, S2⟩, hput⟩ := k4.put hj
    have bl : Kept (fun b => lo ≤ b ∧ b ≠ g) w2 (w2.setCell ⟨g, j * 36 + 35, none⟩ (.slice B m d)) := Kept.of_grown (gr_set w2 g (j * 36 + 35) (.slice B m d)) fun b hb e => hb.2 (by injection e)
    have hin : InR w2 (fun b => lo ≤ b ∧ b ≠ g) (inV (withW i y).h (withW i y).n As2 ns2 cs2' (withW i y).q B m d) (withW i y) := ⟨As2, ns2, cs2', B, m, d, rfl, ⟨S2.ok.h, S2.ok.hb, S2.ok.n, S2.ok.s, S2.ok.q, hy⟩, S2.s1, S2.s2, S2.s, hm, hm2, hr⟩
    refine ⟨g, X2 ++ (inV i.h i.n As2 ns2 cs2' i.q B m d ++ Y2), Z2, e, k1, k2, ?_, (hput _ _ (inV_len S2.ok.h _ _ _ _ _ _ _ _) hin).imp fun V x hx => inR_mono.keep hx bl⟩
    have := k3.set (j * 36 + 35) (.slice B m d)
    rw [List.append_assoc, List.set_append_right _ _ (by omega), hX2, Nat.add_sub_cancel_left, List.append_assoc, List.set_append_left _ _ (by rw [hV2]; decide), inV_set_w S2.ok.h] at this
    rw [List.append_assoc, List.append_assoc]
    exact this
end
theorem witP_eats : ∀ b x r, witP b = some (x, r) → AllB b → r.length < b.length ∧ AllB r ∧ AllBB x := fun b x r h k => by
  have := witP_some h k
  exact ⟨by omega, this.2.1, fun y hy => (this.2.2 y hy).1⟩
theorem NewRw.rows {α : Type} {T : TypeId} {sz m n c : Nat} {R : Reads α} {A : Option Addr} {l : List α} {w0 w1 : World} (M : Mono R) (N : NewRw T sz R w0 m (.slice A n c) n l w1) : Rows w1 (fun b => m ≤ b) sz R A n l :=
  (N.own.reads M).weak M fun b hb _ => by
    rcases hb with hb | hb
    · exact hb
    · exact N.hi b (by rw [← N.own.block]; exact hb)
theorem TxB.side {w0 w w1 : World} {r q g : Nat} {L : List Nat} {V : List Value} (I : TxB w0 w r q L V w1) (hr : r < w.heap.size) (hq : w.heap.size < q) (hg : q < g) (k : Nat) (v : Value) : TxB w0 w r q L V (w1.setCell ⟨g, k, none⟩ v) :=
  ⟨I.rd.set (by omega) k v, gr_own I.gr (by omega) k v, I.q.other (by omega) v, I.p.other (by omega) v⟩
theorem wits_none {ver k : Nat} {is : List InD} {os : List OutD} {b : List Nat} (h : listP witP k b = none) (e : is.length = k) : txP4 ver true is (os, b) = none := by
  unfold txP4 witsP
  rw [if_pos rfl, e, h]; rfl
theorem wits_some {k : Nat} {is : List InD} {b R : List Nat} {ws : List (List (List Nat))} (h : listP witP k b = some (ws, R)) (e : is.length = k) : witsP true is b = some (List.zipWith withW is ws, R) := by
  unfold witsP
  rw [if_pos rfl, e, h]; rfl
theorem txP5_not {ver : Nat} {os : List OutD} {is : List InD} {b : List Nat} (h : numP 4 b = none) : txP5 ver os (is, b) = none := by
  unfold txP5
  rw [h]; rfl
theorem txP5_of {ver lock : Nat} {os : List OutD} {is : List InD} {b R : List Nat} (h : numP 4 b = some (lock, R)) : txP5 ver os (is, b) = some (⟨ver, is, os, lock⟩, R) := by
  unfold txP5
  rw [h]; rfl
theorem kept_off {n g : Nat} {w1 w2 : World} (G : Gr g w1 w2) (hg : g < n) : Kept (fun b => n ≤ b) w1 w2 := Kept.of_grown G fun b hb e => by injection e; omega
end Go.Proofs.YtbdjcbdnhaddoaaDoor
