/- The reference's reader: inputs and outputs. No condition. -/
import Derived.Test.YtbdjcbdnhaddoaaDoorRIn
import Derived.Test.YtbdjcbdnhaddoaaDoorGi
import Derived.Test.YtbdjcbdnhaddoaaDoorPlain
namespace Go.Proofs.YtbdjcbdnhaddoaaDoor
open Go.RowKit

def insP (L : List Nat) : Option (List InD × List Nat) := (cntP L).bind fun z => listP inP z.1 z.2
def outsP (L : List Nat) : Option (List OutD × List Nat) := (cntP L).bind fun z => listP outP z.1 z.2
def bodyP (L : List Nat) : Option ((List InD × List OutD) × List Nat) := (insP L).bind fun z => (outsP z.2).map fun o => ((z.1, o.1), o.2)
theorem cnt2_list {α : Type} {p : List Nat → Option (α × List Nat)} (hp : ∀ b x r, p b = some (x, r) → AllB b → r.length < b.length ∧ AllB r) {L : List Nat} (hb : AllB L) : ((cntP2 L).bind fun z => listP p z.1 z.2) = (cntP L).bind fun z => listP p z.1 z.2 := by
  unfold cntP2
  cases h : cntP L with
  | none => rfl
  | some x =>
    rw [Option.bind_some, Option.bind_some]
    by_cases hl : x.1 ≤ x.2.length
    · rw [if_pos hl, Option.bind_some]
    · rw [if_neg hl, Option.bind_none, listP_none hp (cntP_some h hb).2.1 (by omega)]
theorem st_cl {α : Type} {p : List Nat → Option (α × List Nat)} (hp : ∀ b x r, p b = some (x, r) → AllB b → r.length < b.length ∧ AllB r) {L L1 L2 : List Nat} {b b1 b2 : Bool} {n : Nat} {x : List α} (hb : AllB L) (h1 : St cntP2 b L n L1 b1) (h2 : St (listP p n) b1 L1 x L2 b2) : St (fun L => (cntP L).bind fun z => listP p z.1 z.2) b L x L2 b2 :=
  st_eq (st_bind (q := fun n L => listP p n L) h1 h2) (cnt2_list hp hb)
theorem st_pair {α β : Type} {p : List Nat → Option (α × List Nat)} {q : List Nat → Option (β × List Nat)} {b0 b1 b2 : Bool} {L L1 L2 : List Nat} {x : α} {y : β} (h1 : St p b0 L x L1 b1) (h2 : St q b1 L1 y L2 b2) : St (fun L => (p L).bind fun z => (q z.2).map fun o => ((z.1, o.1), o.2)) b0 L (x, y) L2 b2 :=
  st_bind (q := fun x L => (q L).map fun o => ((x, o.1), o.2)) h1 (by
    rcases h2 with ⟨a1, a2, a3⟩ | ⟨a1, a2⟩
    · exact .inl ⟨a1, a2, by show (q L1).map _ = _; rw [a3]; rfl⟩
    · exact .inr ⟨a1, fun h => by show (q L1).map _ = _; rw [a2 h]; rfl⟩)
/-- What a loop of reads has read, k of n. -/
structure Sl {α : Type} (p : List Nat → Option (α × List Nat)) (n k : Nat) (b1 : Bool) (L1 : List Nat) (pre : List α) (Lk : List Nat) (bk : Bool) : Prop where
  ok : bk = false → b1 = false ∧ listP p k L1 = some (pre, Lk)
  no : bk = true → b1 = false → listP p n L1 = none
theorem Sl.start {α : Type} {p : List Nat → Option (α × List Nat)} {n : Nat} {b1 : Bool} {L1 : List Nat} : Sl p n 0 b1 L1 [] L1 b1 := ⟨fun h => ⟨h, rfl⟩, fun h k => Bool.noConfusion (h.symm.trans k)⟩
theorem Sl.next {α : Type} {p : List Nat → Option (α × List Nat)} {n k : Nat} {b1 b' : Bool} {L1 Lk L' : List Nat} {pre : List α} {x : α} (h : Sl p n k b1 L1 pre Lk false) (hk : k < n) (hx : St p false Lk x L' b') : Sl p n (k + 1) b1 L1 (pre ++ [x]) L' b' := by
  obtain ⟨e1, e2⟩ := h.ok rfl
  rcases hx with ⟨_, a2, a3⟩ | ⟨a1, a2⟩
  · exact { ok := fun _ => ⟨e1, listP_next e2 a3⟩, no := fun h => Bool.noConfusion (a2.symm.trans h) }
  · exact { ok := fun h => Bool.noConfusion (a1.symm.trans h), no := fun _ _ => listP_stop e2 (a2 rfl) hk }
theorem Sl.done {α : Type} {p : List Nat → Option (α × List Nat)} {n k : Nat} {b1 bk : Bool} {L1 Lk : List Nat} {pre : List α} (h : Sl p n k b1 L1 pre Lk bk) (hk : bk = false → k = n) : St (listP p n) b1 L1 pre Lk bk := by
  cases bk with
  | true => exact .inr ⟨rfl, h.no rfl⟩
  | false =>
    obtain ⟨e1, e2⟩ := h.ok rfl
    have := hk rfl
    subst this
    exact .inl ⟨e1, rfl, e2⟩
theorem st_out {b0 b1 b2 : Bool} {L L1 L2 s : List Nat} {v : Nat} (h1 : St (numP 8) b0 L v L1 b1) (h2 : St itemP b1 L1 s L2 b2) : St outP b0 L ⟨v, s⟩ L2 b2 := by
  have h3 : St (fun L => (itemP L).map fun z : List Nat × List Nat => ((⟨v, z.1⟩ : OutD), z.2)) b1 L1 ⟨v, s⟩ L2 b2 := by
    rcases h2 with ⟨a1, a2, a3⟩ | ⟨a1, a2⟩
    · refine .inl ⟨a1, a2, ?_⟩
      show (itemP L1).map _ = _
      rw [a3]
      rfl
    · refine .inr ⟨a1, fun h => ?_⟩
      show (itemP L1).map _ = _
      rw [a2 h]
      rfl
  exact st_bind (q := fun v L => (itemP L).map fun z : List Nat × List Nat => ((⟨v, z.1⟩ : OutD), z.2)) h1 h3
theorem inP_eats2 : ∀ b x r, inP b = some (x, r) → AllB b → r.length < b.length ∧ AllB r := fun b x r h k => ⟨(inP_eats b x r h k).1, (inP_eats b x r h k).2.1⟩
theorem outP_eats2 : ∀ b x r, outP b = some (x, r) → AllB b → r.length < b.length ∧ AllB r := fun b x r h k => ⟨(outP_eats b x r h k).1, (outP_eats b x r h k).2.1⟩
/-- The boxes of a transaction that is read by the reference: what is read so far at w's end. -/
structure TxC (w0 w : World) (r : Nat) (L : List Nat) (bad : Bool) (V : List Value) (w1 : World) : Prop where
  rd : RR w0 w1 r L bad
  gr : Gr r w w1
  q : Ro w1 w.heap.size 26 V
  p : Ro w1 (w.heap.size + 1) 26 zTx
section
variable {w0 w w1 w2 : World} {r : Nat} {L L2 : List Nat} {bad b2 : Bool} {V : List Value}
theorem TxC.call (I : TxC w0 w r L bad V w1) (hr : r < w.heap.size) (R : RR w0 w2 r L2 b2) (G : Gr r w1 w2) : TxC w0 w r L2 b2 V w2 :=
  ⟨R, gr_trans I.gr G, I.q.far G (fun e => by injection e; omega), I.p.far G (fun e => by injection e; omega)⟩
theorem TxC.set (I : TxC w0 w r L bad V w1) (hr : r < w.heap.size) (k : Nat) (v : Value) : TxC w0 w r L bad (V.set k v) (w1.setCell ⟨w.heap.size, k, none⟩ v) :=
  ⟨I.rd.far (gr_set w1 w.heap.size k v) (fun e => by injection e; omega) (fun b e => by injection e; have := I.rd.lo; omega), gr_own I.gr (Nat.le_refl _) k v, I.q.set k v, I.p.other (by omega) v⟩
theorem TxC.later (I : TxC w0 w r L bad V w1) (g : Below w1.heap.size w1 w2) : TxC w0 w r L bad V w2 :=
  ⟨I.rd.later g, gr_trans I.gr (gr_below r g), I.q.later g, I.p.later g⟩
theorem TxC.grown {α : Type} {T : TypeId} {sz m n : Nat} {R : Reads α} {v : Value} {l : List α} (I : TxC w0 w r L bad V w1) (N : NewRw T sz R w0 m v n l w1) (g : w1.grownBy w2 v.ownBlock) (hr : r < w.heap.size) (hm : w.heap.size + 1 < m) : TxC w0 w r L bad V w2 :=
  ⟨I.rd.far g (fun e => by have := N.hi r e.symm; omega) (fun b e => by have := N.hi b e; have := I.rd.lo; omega), N.gr I.gr g (by omega), I.q.far g (fun e => by have := N.hi _ e.symm; omega), I.p.far g (fun e => by have := N.hi _ e.symm; omega)⟩
end
/-- What body gives. -/
structure BodyM (w w' : World) (lo hi : Nat) (is : List InD) (os : List OutD) (Ai : Option Addr) (ni ci : Nat) (Ao : Option Addr) (no co : Nat) : Prop where
  l1 : w.heap.size ≤ lo
  l2 : lo ≤ hi
  l3 : hi ≤ w'.heap.size
  nc : ni ≤ ci
  n2 : ni ≤ 1073741824
  r : InRow w' lo hi Ai ni is
  z : Nils w' Ai 0 ni
  w0 : ∀ i ∈ is, i.w = []
  oc : no ≤ co
  o2 : no ≤ 1073741824
  o : Rows w' (fun b => hi ≤ b) 2 OutR Ao no os
def BodyE (w0 : World) (r : Nat) (w : World) (ver : Nat) (L : List Nat) (bad : Bool) (e : Ending) (w' : World) : Prop := ∃ (lo hi : Nat) (is : List InD) (os : List OutD) (Ai : Option Addr) (ni ci : Nat) (Ao : Option Addr) (no co : Nat) (L' : List Nat) (bad' : Bool), e = .returned (.agg (txV ver Ai ni ci Ao no co 0).toArray) ∧ BodyM w w' lo hi is os Ai ni ci Ao no co ∧ RR w0 w' r L' bad' ∧ Gr r w w' ∧ St bodyP bad L (is, os) L' bad'
set_option maxRecDepth 100000 in
set_option maxHeartbeats 8000000 in
theorem rbody_any {w0 w : World} {r ver : Nat} {L : List Nat} {bad : Bool} (R : RR w0 w r L bad) :
    Calls Tryd.prog 41 #[.pointer (some ⟨r, 0, none⟩), .agg (txV ver none 0 0 none 0 0 0).toArray] w (BodyE w0 r w ver L bad) := by
  have z0 := zeroTx
  have z1 := zeroIn
  have rl := R.lt
  have rlo := R.lo
  have HLB := Lib.hid R.byt
  have b1 := (Below.refl w.heap.size w).alloc (Nat.le_refl _) (.cells (txV ver none 0 0 none 0 0 0).toArray 26)
  have b2 := b1.alloc b1.size (.cells zTx.toArray 26)
  have q1 := (Ro.new w 26 (txV ver none 0 0 none 0 0 0)).alloc (.cells zTx.toArray 26)
  have p1 := Ro.new (w.alloc (.cells (txV ver none 0 0 none 0 0 0).toArray 26)) 26 zTx
  rw [World.size_alloc] at p1
  obtain ⟨w1, hw1⟩ : ∃ w1, (w.alloc (.cells (txV ver none 0 0 none 0 0 0).toArray 26)).alloc (.cells zTx.toArray 26) = w1 := ⟨_, rfl⟩
  rw [hw1] at b2 q1 p1
  have HW1 := Lib.hid hw1
  have I1 : Hid (TxC w0 w r L bad (txV ver none 0 0 none 0 0 0) w1) := Lib.hid ⟨R.later b2, gr_below r b2, q1, p1⟩
  have sz1 : w.heap.size + 2 ≤ w1.heap.size := by have := p1.lt; omega
  have C1 := Lib.hid (rcount_any I1.out.rd)
  clear R b1 b2 q1 p1 hw1
  go_enter Tryd.func41, Tryd.ntmps41
  go_upto_region 1 with fail
  rw [HW1.out]
  go_wp2_with (go_at_call 42; refine C1.out.mono ?_)
  rintro e w2 ⟨n, L1, bd1, rfl, hn, R2, G2, S2⟩
  have HS2 := Lib.hid S2
  have I2 := Lib.hid (I1.out.call rl R2 G2)
  have sz2 : w.heap.size + 2 ≤ w2.heap.size := Nat.le_trans sz1 G2.size
  obtain ⟨m, hm⟩ : ∃ m, w.heap.size + 2 = m := ⟨_, rfl⟩
  clear C1 R2 G2 S2 I1 sz1
  go_wp2_with fail
  go_loopw [6] (fun i wr => ∃ (k : Nat) (A : Option Addr) (c : Nat) (pre : List InD) (Lk : List Nat) (bk : Bool), k ≤ n ∧ i = .int .i64 (k : Int) ∧ k ≤ c ∧ Hid (∀ i ∈ pre, i.w = []) ∧ Hid (Sl inP n k bd1 L1 pre Lk bk) ∧ Hid (NewRw 56 36 InR0 w0 m (.slice A k c) k pre wr) ∧ Hid (TxC w0 w r Lk bk (txV ver A k c none 0 0 0) wr) ∧ m ≤ wr.heap.size) (fun i _ => n - (intOf i).toNat)
  case atStart => exact ⟨0, none, 0, [], L1, bd1, Nat.zero_le _, rfl, Nat.le_refl _, Lib.hid (fun i h => by cases h), Lib.hid Sl.start, Lib.hid (NewRw.none_ I2.out.rd.bel (by omega)), I2, by omega⟩
  case round =>
    clear I2
    obtain ⟨k, A, c, pre, Lk, bk, hk, rfl, hc, HW, HP, HN, HI, hsz⟩ := hrel
    obtain ⟨A0, n0, c0, hbx, _, _, _⟩ := HI.out.rd.box
    have c1 := hbx.cell (k := 1) (v := .bool bk) rfl
    clear hbx
    go_upto_region 3 with fail
    go_cut [22] from 13 to 32 (fun v wx => v = .bool (decide (k < n) && !bk) ∧ wx = wr)
    case first =>
      by_cases hlt : k < n
      · have t1 : decide ((k : Int) < (n : Int)) = true := decide_eq_true (by omega)
        have t1n : decide (k < n) = true := decide_eq_true hlt
        cases bk <;> (go_wp2_with fail; go_meet; exact ⟨by rw [t1n]; rfl, rfl⟩)
      · have t1 : decide ((k : Int) < (n : Int)) = false := decide_eq_false (by omega)
        have t1n : decide (k < n) = false := decide_eq_false hlt
        go_wp2_with fail
        go_meet
        exact ⟨by rw [t1n]; rfl, rfl⟩
    case rest =>
      obtain ⟨rfl, hwc⟩ := hcut
      rw [hwc]
      clear hwc c1
      by_cases hx : k < n ∧ bk = false
      · obtain ⟨hlt, rfl⟩ := hx
        have tx : (decide (k < n) && !false) = true := by rw [decide_eq_true hlt]; rfl
        have C2 := Lib.hid (rinput_any HI.out.rd)
        rw [tx]
        clear tx
        go_wp2_with (go_at_call 60; refine C2.out.mono ?_)
        rintro e w5 ⟨i, As, ns, cs, L', bd', rfl, hiw, S5, R5, G5, T5⟩
        have HX := Lib.hid (HP.out.next hlt T5)
        have OX : Hid (∀ j, Value.ownBlock (.slice A k c) = some j → j < wr.heap.size) := Lib.hid (fun j hj => (HN.out.own.new j hj).2)
        have I5 := Lib.hid (HI.out.call rl R5 G5)
        have N5 := Lib.hid (HN.out.far inR0_mono G5 (by omega) rlo)
        have HS5 := Lib.hid S5
        have HL5 := Lib.hid (inV_len S5.ok.h i.n As ns cs i.q none 0 0)
        have HI0 := Lib.hid hiw
        have HIW := Lib.hid (show ∀ x ∈ pre ++ [i], x.w = [] from fun x hx => by
          rcases List.mem_append.1 hx with h | h
          · exact HW.out x h
          · rw [List.mem_singleton.1 h]; exact hiw)
        have sz5 : wr.heap.size ≤ w5.heap.size := G5.size
        clear C2 R5 G5 S5 T5 HP HN HI hiw HW
        go_upto_region 6 with (refine wpList_store_ro rfl (.tmp 7) (.tmp 26) rfl rfl rfl rowIn (Ro.new w5 56 zIn) zIn_len HL5.out (inV_one _ _ _ _ _ _ _ _ _) ?_)
        intro w6 R6 g6
        have b6 := box_store g6
        obtain ⟨x, hx⟩ : ∃ x, w5.heap.size = x := ⟨_, rfl⟩
        rw [hx] at R6 ⊢
        have HR6 := Lib.hid R6
        have I6 := Lib.hid (I5.out.later b6)
        have N6 := Lib.hid (N5.out.later inR0_mono b6)
        have S6 := Lib.hid (HS5.out.keep (Kept.of_below b6))
        have sz6 : wr.heap.size ≤ w6.heap.size := Nat.le_trans sz5 b6.size
        clear R6 g6 b6 I5 N5 HS5 hx sz5
        have b7 := (Below.refl w6.heap.size w6).alloc (Nat.le_refl _) (.cells (inV i.h i.n As ns cs i.q none 0 0).toArray 56)
        have I7 := Lib.hid (I6.out.later b7)
        have N7 := Lib.hid (N6.out.later inR0_mono b7)
        have RW := Lib.hid (Ro.new w6 56 (inV i.h i.n As ns cs i.q none 0 0)).whole
        have S7 := S6.out.weak (Q := fun b => m ≤ b ∧ some b ≠ Value.ownBlock (.slice A k c) ∧ b < (w6.alloc (.cells (inV i.h i.n As ns cs i.q none 0 0).toArray 56)).heap.size) (fun b hb hl => ⟨by omega, fun e => by have := OX.out b e.symm; omega, by rw [World.size_alloc]; omega⟩)
        have EL : Hid (Each 36 (InR0 (w6.alloc (.cells (inV i.h i.n As ns cs i.q none 0 0).toArray 56)) fun b => m ≤ b ∧ some b ≠ Value.ownBlock (.slice A k c) ∧ b < (w6.alloc (.cells (inV i.h i.n As ns cs i.q none 0 0).toArray 56)).heap.size) (inV i.h i.n As ns cs i.q none 0 0) [i]) :=
          Lib.hid (Each.one HL5.out ⟨HI0.out, As, ns, cs, rfl, S7.keep (Kept.of_below b7)⟩)
        have c6 := I6.out.q.cell (k := 1) (v := .slice A k c) rfl
        have sz7 : m ≤ (w6.alloc (.cells (inV i.h i.n As ns cs i.q none 0 0).toArray 56)).heap.size := by rw [World.size_alloc]; omega
        have SZ7 := Lib.hid sz7
        clear b7 I6 N6 S6 S7 OX sz7
        go_wp2_with (first
          | (refine wpList_load_part rfl (.tmp 7) rfl rfl rowIn HR6.out.whole HL5.out ?_)
          | (refine wpList_plain rfl fun _ hK => wp_lit1 elemI (by decide) rfl (.tmp 29) rfl rfl HL5.out (hK _ _ ?_))
          | (at_builtin; refine wpList_appRw (v := .slice A k c) elemI inR0_mono rfl (.tmp 28) (.tmp 30) rfl rfl N7.out.own rfl (k := [i]) (N := k + 1) rfl (fun _ => ⟨_, _, rfl, RW.out⟩) EL.out (inV_one _ _ _ _ _ _ _ _ _) rfl (by omega) (by omega) ?_))
        intro A8 c8 w8 hc8 O8 g8 e8
        have I8 := Lib.hid (I7.out.grown N7.out g8 rl (by omega))
        have N8 := Lib.hid (N7.out.grown O8 SZ7.out (by rw [World.size_alloc]; exact e8))
        have c8q := I8.out.q.cell (k := 1) (v := .slice A k c) rfl
        have f8q := I8.out.q.free 1
        have SZ8 := Lib.hid (Nat.le_trans SZ7.out g8.size)
        clear O8 g8 e8 I7 N7 RW EL c6 HR6
        go_wp2_with fail
        have I9 := I8.out.set rl 1 (.slice A8 (k + 1) c8)
        change TxC _ _ _ _ _ (txV ver A8 (k + 1) c8 none 0 0 0) _ at I9
        have N9 := N8.out.far inR0_mono (gr_set w8 w.heap.size 1 (.slice A8 (k + 1) c8)) (by omega) (by have := I8.out.rd.lo; omega)
        exact ⟨⟨k + 1, A8, c8, pre ++ [i], L', bd', by omega, by go_num, hc8, HIW, HX, Lib.hid N9, Lib.hid I9, by have := SZ8.out; simpa using this⟩, by simp [intOf]; omega⟩
      · have tx : (decide (k < n) && !bk) = false := by
          by_cases hlt : k < n
          · have : bk = true := by
              cases bk with
              | true => rfl
              | false => exact absurd ⟨hlt, rfl⟩ hx
            rw [this, Bool.not_true, Bool.and_false]
          · rw [decide_eq_false hlt, Bool.false_and]
        have hkn : bk = false → k = n := fun h => by
          by_cases hlt : k < n
          · exact absurd ⟨hlt, h⟩ hx
          · omega
        have SI := Lib.hid (st_cl inP_eats2 HLB.out HS2.out (HP.out.done hkn))
        have C3 := Lib.hid (rcount_any HI.out.rd)
        rw [tx]
        clear tx hkn hx HP
        go_wp2_with (go_at_call 42; refine C3.out.mono ?_)
        rintro e w5 ⟨n2, L5, bd5, rfl, hn2, R5, G5, S5⟩
        have HS5 := Lib.hid S5
        have HB5 := Lib.hid HI.out.rd.byt
        have I5 := Lib.hid (HI.out.call rl R5 G5)
        have N5 := Lib.hid (HN.out.far inR0_mono G5 (by omega) rlo)
        have hsz5 : m ≤ w5.heap.size := Nat.le_trans hsz G5.size
        obtain ⟨m2, hm2⟩ : ∃ m2, w5.heap.size = m2 := ⟨_, rfl⟩
        have HM2 := Lib.hid hm2
        rw [hm2] at hsz5
        have K5 : Hid (Kept (fun b => m ≤ b) w5 w5) := Lib.hid (Kept.of_below (Below.refl _ _))
        have SW5 : Hid (m2 ≤ w5.heap.size) := Lib.hid (by rw [hm2]; exact Nat.le_refl _)
        clear C3 R5 G5 S5 HI HN hsz hm2
        go_wp2_with fail
        go_loopw [8] (fun i wr => ∃ (k2 : Nat) (A2 : Option Addr) (c2 : Nat) (os : List OutD) (L2 : List Nat) (bk2 : Bool), k2 ≤ n2 ∧ i = .int .i64 (k2 : Int) ∧ k2 ≤ c2 ∧ Hid (Sl outP n2 k2 bd5 L5 os L2 bk2) ∧ Hid (NewRw 46 2 OutR w0 m2 (.slice A2 k2 c2) k2 os wr) ∧ Hid (TxC w0 w r L2 bk2 (txV ver A k c A2 k2 c2 0) wr) ∧ Hid (Kept (fun b => m ≤ b) w5 wr) ∧ Hid (m2 ≤ wr.heap.size)) (fun i _ => n2 - (intOf i).toNat)
        case atStart => exact ⟨0, none, 0, [], L5, bd5, Nat.zero_le _, rfl, Nat.le_refl _, Lib.hid Sl.start, Lib.hid (NewRw.none_ I5.out.rd.bel (by omega)), I5, K5, SW5⟩
        case round =>
          clear I5 K5
          obtain ⟨k2, A2, c2, os, L2, bk2, hk2, rfl, hc2, HP, HN, HI, HK, HS⟩ := hrel
          obtain ⟨A0, n0, c0, hbx, _, _, _⟩ := HI.out.rd.box
          have c1 := hbx.cell (k := 1) (v := .bool bk2) rfl
          clear hbx
          go_upto_region 9 with fail
          go_cut [44] from 35 to 58 (fun v wx => v = .bool (decide (k2 < n2) && !bk2) ∧ wx = wr)
          case first =>
            by_cases hlt : k2 < n2
            · have t1 : decide ((k2 : Int) < (n2 : Int)) = true := decide_eq_true (by omega)
              have t1n : decide (k2 < n2) = true := decide_eq_true hlt
              cases bk2 <;> (go_wp2_with fail; go_meet; exact ⟨by rw [t1n]; rfl, rfl⟩)
            · have t1 : decide ((k2 : Int) < (n2 : Int)) = false := decide_eq_false (by omega)
              have t1n : decide (k2 < n2) = false := decide_eq_false hlt
              go_wp2_with fail
              go_meet
              exact ⟨by rw [t1n]; rfl, rfl⟩
          case rest =>
            obtain ⟨rfl, hwc⟩ := hcut
            rw [hwc]
            clear hwc c1
            by_cases hx : k2 < n2 ∧ bk2 = false
            · obtain ⟨hlt, rfl⟩ := hx
              have tx : (decide (k2 < n2) && !false) = true := by rw [decide_eq_true hlt]; rfl
              have C2 : Hid (Calls Tryd.prog 39 #[.pointer (some ⟨r, 0, none⟩), .int .i64 8] wr (NumE w0 r wr 8 L2 false)) := Lib.hid (rnumber_any (k := 8) HI.out.rd (by decide))
              rw [tx]
              clear tx
              go_wp2_with (go_at_call 39; refine C2.out.mono ?_)
              rintro e w6 ⟨v, L6, bd6, rfl, hv6, R6, G6, T6⟩
              have v64 : v < 18446744073709551616 := hv6
              have HT6 := Lib.hid T6
              have I6 := Lib.hid (HI.out.call rl R6 G6)
              have N6 := Lib.hid (HN.out.far outR_mono G6 (by omega) rlo)
              have K6 := Lib.hid (kept_gr HK.out G6 (by omega))
              have OX : Hid (∀ j, Value.ownBlock (.slice A2 k2 c2) = some j → j < w6.heap.size) := Lib.hid (fun j hj => Nat.lt_of_lt_of_le (HN.out.own.new j hj).2 G6.size)
              have SW6 := Lib.hid (Nat.le_trans HS.out G6.size)
              have C3 := Lib.hid (ritem_any R6)
              clear C2 R6 G6 T6 HN HI HK HS hv6
              go_wp2_with (go_at_call 43; refine C3.out.mono ?_)
              rintro e w7 ⟨y, As, ns, cs, L7, bd7, rfl, hc7, hn7, B7, R7, G7, T7⟩
              have HX := Lib.hid (HP.out.next hlt (st_out HT6.out T7))
              have sw := SW6.out
              have S7 : Hid (OutSl w7 (fun b => m2 ≤ b ∧ some b ≠ Value.ownBlock (.slice A2 k2 c2)) ⟨v, y⟩ As ns cs) := Lib.hid ⟨⟨v64, B7.bs.byt⟩, hc7, by omega, B7.weak fun b hb _ => ⟨by omega, fun e => by have := OX.out b e.symm; omega⟩⟩
              have I7 := Lib.hid (I6.out.call rl R7 G7)
              have N7 := Lib.hid (N6.out.far outR_mono G7 (by omega) rlo)
              have K7 := Lib.hid (kept_gr K6.out G7 (by omega))
              have SW7 := Lib.hid (Nat.le_trans SW6.out G7.size)
              have c7 := I7.out.q.cell (k := 2) (v := .slice A2 k2 c2) rfl
              have hbo := buildOut v As ns cs
              clear C3 B7 R7 G7 T7 HP HT6 I6 N6 K6 SW6 OX sw
              have bl8 := (Below.refl w7.heap.size w7).alloc (Nat.le_refl _) (.cells (outV v As ns cs).toArray 46)
              have I8 := Lib.hid (I7.out.later bl8)
              have N8 := Lib.hid (N7.out.later outR_mono bl8)
              have K8 := Lib.hid (kept_below K7.out bl8)
              have RW := Lib.hid (Ro.new w7 46 (outV v As ns cs)).whole
              have EL : Hid (Each 2 (OutR (w7.alloc (.cells (outV v As ns cs).toArray 46)) fun b => m2 ≤ b ∧ some b ≠ Value.ownBlock (.slice A2 k2 c2) ∧ b < (w7.alloc (.cells (outV v As ns cs).toArray 46)).heap.size) (outV v As ns cs) [⟨v, y⟩]) :=
                Lib.hid (Each.one rfl ⟨As, ns, cs, rfl, (S7.out.weak (Q := fun b => m2 ≤ b ∧ some b ≠ Value.ownBlock (.slice A2 k2 c2) ∧ b < (w7.alloc (.cells (outV v As ns cs).toArray 46)).heap.size) fun b hb hl => ⟨hb.1, hb.2, by rw [World.size_alloc]; omega⟩).keep (Kept.of_below bl8)⟩)
              have SZ8 : Hid (m2 ≤ (w7.alloc (.cells (outV v As ns cs).toArray 46)).heap.size) := Lib.hid (by rw [World.size_alloc]; have := SW7.out; omega)
              clear bl8 I7 N7 K7 S7
              go_wp2_with (first
                | (refine wpList_plain rfl fun _ hK => wp_lit1 elemO (by decide) rfl (.tmp 55) rfl (V := outV v As ns cs) rfl rfl (hK _ _ ?_))
                | (at_builtin; refine wpList_appRw (v := .slice A2 k2 c2) elemO outR_mono rfl (.tmp 52) (.tmp 56) rfl rfl N8.out.own rfl (k := [⟨v, y⟩]) (N := k2 + 1) rfl (fun _ => ⟨_, _, rfl, RW.out⟩) EL.out (outV_one _ _ _ _) rfl (by omega) (by omega) ?_))
              intro A9 c9 w9 hc9 O9 g9 e9
              have I9 := Lib.hid (I8.out.grown N8.out g9 rl (by omega))
              have N9 := Lib.hid (N8.out.grown O9 SZ8.out (by rw [World.size_alloc]; exact e9))
              have K9 := Lib.hid (kept_row K8.out N8.out g9 HM2.out.symm)
              have c9q := I9.out.q.cell (k := 2) (v := .slice A2 k2 c2) rfl
              have f9q := I9.out.q.free 2
              have SZ9 := Lib.hid (Nat.le_trans SZ8.out g9.size)
              clear O9 g9 e9 I8 N8 K8 RW EL c7
              go_wp2_with fail
              have I10 := I9.out.set rl 2 (.slice A9 (k2 + 1) c9)
              change TxC _ _ _ _ _ (txV ver A k c A9 (k2 + 1) c9 0) _ at I10
              have N10 := N9.out.far outR_mono (gr_set w9 w.heap.size 2 (.slice A9 (k2 + 1) c9)) (by omega) (by have := I9.out.rd.lo; omega)
              have K10 := kept_gr K9.out (gr_set w9 w.heap.size 2 (.slice A9 (k2 + 1) c9)) (by omega)
              exact ⟨⟨k2 + 1, A9, c9, os ++ [⟨v, y⟩], L7, bd7, by omega, by go_num, hc9, HX, Lib.hid N10, Lib.hid I10, Lib.hid K10, Lib.hid (by have := SZ9.out; simpa using this)⟩, by simp [intOf]; omega⟩
            · have tx : (decide (k2 < n2) && !bk2) = false := by
                by_cases hlt : k2 < n2
                · have : bk2 = true := by
                    cases bk2 with
                    | true => rfl
                    | false => exact absurd ⟨hlt, rfl⟩ hx
                  rw [this, Bool.not_true, Bool.and_false]
                · rw [decide_eq_false hlt, Bool.false_and]
              have hkn : bk2 = false → k2 = n2 := fun h => by
                by_cases hlt : k2 < n2
                · exact absurd ⟨hlt, h⟩ hx
                · omega
              have SO := Lib.hid (st_pair SI.out (st_cl outP_eats2 HB5.out HS5.out (HP.out.done hkn)))
              rw [tx]
              clear tx hkn hx HP
              go_wp2_with (first
                | (refine wpList_load_part rfl (.tmp 3) rfl rfl rowTx HI.out.q.whole rfl ?_)
                | (refine wpList_store_ro rfl (.tmp 4) (.tmp 59) rfl (vs := txV ver A k c A2 k2 c2 0) rfl rfl rowTx HI.out.p rfl rfl (txV_one _ _ _ _ _ _ _ _) ?_))
              intro w9 R9 g9
              have HR9 := Lib.hid R9
              have E1 := Lib.hid (HI.out.rd.far g9 (fun e => by injection e; omega) (fun b e => by injection e; omega))
              have E2 : Hid (Gr r w w9) := Lib.hid (gr_new HI.out.gr ((Below.refl w.heap.size _).grown g9 HI.out.gr.size (fun b e => by injection e; omega)) (Nat.le_refl _))
              have k9 : Kept (fun b => m ≤ b) wr w9 := Kept.of_grown g9 fun b hb e => by injection e; omega
              have kk := HK.out.trans k9
              have E3 := Lib.hid ((InRow.of N5.out.plain HM2.out).keep kk)
              have E5 : Hid (Nils w9 A 0 k) := Lib.hid (fun g hg j h1 h2 => by
                have h := N5.out.nils g hg j h1 h2
                have hb := N5.out.hi g (by rw [← N5.out.own.block, hg]; rfl)
                have hl := (N5.out.own.new g (by rw [← N5.out.own.block, hg]; rfl)).2
                rw [kk.cell hb hl]
                exact h)
              have E6 : Hid (m2 ≤ w9.heap.size) := Lib.hid (Nat.le_trans HS.out k9.size)
              have E4 := Lib.hid ((HN.out.rows outR_mono).keep outR_mono (Kept.of_grown g9 fun b hb e => by injection e; omega))
              clear kk
              clear R9 g9 k9
              go_wp2_with fail
              exact bodyPost_ret (results_ro Tryd.results41 _ rfl rowTx HR9.out rfl) rfl ⟨m, m2, pre, os, A, k, c, A2, k2, c2, L2, bk2, rfl, ⟨by omega, hsz5, E6.out, hc, by omega, E3.out, E5.out, HW.out, hc2, by omega, E4.out⟩, E1.out, E2.out, SO.out⟩
end Go.Proofs.YtbdjcbdnhaddoaaDoor
