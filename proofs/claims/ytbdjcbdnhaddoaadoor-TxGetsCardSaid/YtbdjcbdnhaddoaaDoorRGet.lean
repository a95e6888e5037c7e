/- The reference's Get: which transaction bytes are. Condition: a bound on their number. -/
import Derived.Test.YtbdjcbdnhaddoaaDoorRGetS
import Derived.Test.YtbdjcbdnhaddoaaDoorBackS
import Derived.Test.YtbdjcbdnhaddoaaDoorRefMay
import Derived.Test.YtbdjcbdnhaddoaaDoorGg
namespace Go.Proofs.YtbdjcbdnhaddoaaDoor
open Go.RowKit

/-- The boxes of the reference's Get. -/
structure GC (w : World) (r q : Nat) (L : List Nat) (bad : Bool) (V : List Value) (wx : World) : Prop where
  rd : RR w wx r L bad
  q : Ro wx q 26 V
  p : Ro wx w.heap.size 26 zTx
section
variable {w w1 w2 : World} {r q : Nat} {L L2 : List Nat} {bad b2 : Bool} {V : List Value}
theorem GC.call (I : GC w r q L bad V w1) (hr : w.heap.size < r) (hq : r < q) (R : RR w w2 r L2 b2) (G : Gr r w1 w2) : GC w r q L2 b2 V w2 :=
  ⟨R, I.q.far G (fun e => by injection e; omega), I.p.far G (fun e => by injection e; omega)⟩
theorem GC.later (I : GC w r q L bad V w1) (g : Below w1.heap.size w1 w2) : GC w r q L bad V w2 := ⟨I.rd.later g, I.q.later g, I.p.later g⟩
theorem GC.grown {row : Option Nat} (I : GC w r q L bad V w1) (hr : w.heap.size < r) (hq : r < q) (g : w1.grownBy w2 row) (h : ∀ b, row = some b → q < b) : GC w r q L bad V w2 :=
  ⟨I.rd.far g (fun e => by have := h r e.symm; omega) (fun b e => by have := h b e; omega), I.q.far g (fun e => by have := h q e.symm; omega), I.p.far g (fun e => by have := h _ e.symm; omega)⟩
theorem GC.set (I : GC w r q L bad V w1) (hr : w.heap.size < r) (hq : r < q) (k : Nat) (v : Value) : GC w r q L bad (V.set k v) (w1.setCell ⟨q, k, none⟩ v) :=
  ⟨I.rd.far (gr_set w1 q k v) (fun e => by injection e; omega) (fun b e => by injection e; omega), I.q.set k v, I.p.other (by omega) v⟩
theorem GC.store {V2 : List Value} (I : GC w r q L bad V w1) (hr : w.heap.size < r) (hq : r < q) (R : Ro w2 q 26 V2) (g : w1.grownBy w2 (some q)) : GC w r q L bad V2 w2 :=
  ⟨I.rd.far g (fun e => by injection e; omega) (fun b e => by injection e; omega), R, I.p.far g (fun e => by injection e; omega)⟩
end
theorem buildT1 (v : Nat) (w : World) : (Instr.build 26 #[(0, .int .u32 (v : Int))]).run Tryd.prog w = .ok (.agg (txV v none 0 0 none 0 0 0).toArray) w := by kernel_rfl
theorem buildT0 (w : World) : (Instr.build 26 #[]).run Tryd.prog w = .ok (.agg zTx.toArray) w := by kernel_rfl
/-- What lies apart from the reader's boxes. -/
structure GM (lo hi h8 : Nat) (is : List InD) (os : List OutD) (Ai : Option Addr) (ni : Nat) (Ao : Option Addr) (no j : Nat) (ws : List (List (List Nat))) (wx : World) : Prop where
  r : InRow wx lo hi Ai ni (witTo is ws)
  z : Nils wx Ai j ni
  o : Rows wx (fun b => hi ≤ b ∧ b < h8) 2 OutR Ao no os
  s : h8 ≤ wx.heap.size
section
variable {lo hi h8 : Nat} {is : List InD} {os : List OutD} {Ai : Option Addr} {ni : Nat} {Ao : Option Addr} {no j : Nat} {ws : List (List (List Nat))} {w1 w2 : World}
theorem InRow.lt {A : Option Addr} {n g : Nat} {l : List InD} (I : InRow w1 lo hi A n l) (hn : 0 < n) (hg : A = some ⟨g, 0, none⟩) : lo ≤ g ∧ g < hi ∧ g < w1.heap.size := by
  obtain ⟨g', cs, Z, e, h1, h2, h3, h4⟩ := I.row hn
  rw [hg] at e
  injection e with e
  injection e with e
  subst e
  exact ⟨h1, h2, h3.lt⟩
theorem GM.far {x : Nat} (M : GM lo hi h8 is os Ai ni Ao no j ws w1) (g : Gr x w1 w2) (hx : x < lo) (hl : lo ≤ hi) : GM lo hi h8 is os Ai ni Ao no j ws w2 :=
  ⟨M.r.keep (Kept.of_grown g fun b hb e => by injection e; omega), fun g' hg k h1 h2 => by
    have l := M.r.lt (by omega) hg
    have := M.z g' hg k h1 h2
    rw [← this]
    exact (Kept.of_grown (P := fun b => lo ≤ b) g fun b hb e => by injection e; omega).cell (a := ⟨g', k * 36 + 35, none⟩) l.1 l.2.2, M.o.keep outR_mono (Kept.of_grown g fun b hb e => by injection e; omega), Nat.le_trans M.s g.size⟩
end

theorem get_five {L : List Nat} (hn : L.length ≤ 16384) (h : getE L ≠ 0) : getE L = 5 ∧ getT L = zeroT := by
  cases hx : txP L with
  | none => exact get_none hn hx
  | some z =>
    obtain ⟨t, R⟩ := z
    by_cases hR : 0 < R.length
    · exact get_rest hn hx hR
    · have : R = [] := List.eq_nil_of_length_eq_zero (by omega)
      subst this
      exact get_not hn hx (fun k => h (get_yes hn hx k).1)

set_option maxRecDepth 100000 in
set_option maxHeartbeats 16000000 in
theorem refGet_any {A : Option Addr} {n c : Nat} {L : List Nat} (w : World) (hL : Bs w A n L) (hn : n ≤ 1073741824) (hc : n ≤ c) :
    Calls Tryd.prog 24 #[.slice A n c] w (GetEnd w (getT L) (getE L)) := by
  obtain rfl := hL.len
  have z0 := zeroTx
  have BT0 := Lib.hid buildT0
  have BT1 := Lib.hid buildT1
  have b1 := (Below.refl w.heap.size w).alloc (Nat.le_refl _) (.cells zTx.toArray 26)
  have P1 := Lib.hid (Ro.new w 26 zTx)
  have B1 := Lib.hid b1
  have HL0 := Lib.hid hL
  clear b1 hL
  by_cases hl : 16384 < L.length
  · have t1 : decide (16384 < (L.length : Int)) = true := decide_eq_true (by omega)
    have HE := Lib.hid (get_long hl)
    go_enter Tryd.func24, Tryd.ntmps24
    go_wp2_with (first
      | (refine wpList_plain rfl fun _ hK => wp_buildR rfl 26 #[] rfl (us := #[]) (by simp) (BT0.out _) (hK _ _ ?_))
      | (refine wpList_store_ro rfl (.tmp 2) (.tmp 14) rfl (vs := zTx) rfl rfl rowTx P1.out rfl rfl (txV_one _ _ _ _ _ _ _ _) ?_))
    intro w7 R7 g7
    have HR7 := Lib.hid R7
    have B7 := Lib.hid (B1.out.grown g7 (by simp) (fun q e => by injection e; omega))
    clear R7 g7
    go_wp2_with fail
    rw [HE.out.1, HE.out.2]
    exact bodyPost_ret (results_ro2 Tryd.results24 _ rfl rowTx HR7.out rfl rfl) rfl ⟨none, 0, 0, none, 0, 0, rfl, zeroR _ _, B7.out⟩
  · have t1 : decide (16384 < (L.length : Int)) = false := decide_eq_false (by omega)
    have b2 := B1.out.alloc B1.out.size (.cells #[.slice A L.length c, .bool false] 65)
    have r2 := Ro.new (w.alloc (.cells zTx.toArray 26)) 65 [.slice A L.length c, .bool false]
    have p2 := P1.out.alloc (.cells #[.slice A L.length c, .bool false] 65)
    rw [World.size_alloc] at r2
    go_enter Tryd.func24, Tryd.ntmps24
    go_upto_region 4 with fail
    obtain ⟨w2, hw2⟩ : ∃ w2, (w.alloc (.cells zTx.toArray 26)).alloc (.cells #[.slice A L.length c, .bool false] 65) = w2 := ⟨_, rfl⟩
    obtain ⟨r, hr⟩ : ∃ r, w.heap.size + 1 = r := ⟨_, rfl⟩
    have rw1 : w.heap.size < r := by omega
    rw [hw2] at b2 p2 ⊢
    rw [hr] at r2 ⊢
    have r2' : Ro w2 r 65 [.slice A L.length c, .bool false] := by rw [← hw2]; exact r2
    have R2 : Hid (RR w w2 r L false) := Lib.hid ⟨⟨A, _, c, r2', hc, hn, HL0.out⟩, by omega, b2⟩
    have P2 := Lib.hid p2
    have C1 : Hid (Calls Tryd.prog 39 #[.pointer (some ⟨r, 0, none⟩), .int .i64 4] w2 (NumE w r w2 4 L false)) := Lib.hid (rnumber_any (k := 4) R2.out (by decide))
    have hl2 : L.length ≤ 16384 := by omega
    have HLL := Lib.hid hl2
    clear b2 r2 p2 r2' hw2 hr P1 B1 t1 hl
    go_wp2_with (go_at_call 39; refine C1.out.mono ?_)
    rintro e w3 ⟨ver, L1, b1, rfl, hv, R3, G3, S1⟩
    have v32 : ver < 4294967296 := hv
    have W1 : IntKind.u32.wrap (ver : Int) = (ver : Int) := by rw [IntKind.wrap_u32]; omega
    have HS1 := Lib.hid S1
    have P3 := Lib.hid (P2.out.far G3 (fun e => by injection e; omega))
    have HR3 := Lib.hid R3
    clear C1 R3 G3 S1 hv R2 P2
    go_upto_region 5 with (first
      | (refine wpList_plain rfl fun _ hK => wp_buildR rfl 26 #[(0, .tmp 20)] rfl (us := #[(0, .int .u32 (ver : Int))]) (by simp [go_sem]) (BT1.out _ _) (hK _ _ ?_))
      | (refine wpList_store_ro rfl (.tmp 5) (.tmp 21) rfl (vs := txV ver none 0 0 none 0 0 0) rfl rfl rowTx (Ro.new w3 26 zTx) rfl rfl (txV_one _ _ _ _ _ _ _ _) ?_))
    intro w4 R4 g4
    have b4 := box_store g4
    obtain ⟨q, hq⟩ : ∃ q, w3.heap.size = q := ⟨_, rfl⟩
    have rq : r < q := by rw [← hq]; exact HR3.out.lt
    rw [hq] at R4 ⊢
    have I4 : Hid (GC w r q L1 b1 (txV ver none 0 0 none 0 0 0) w4) := Lib.hid ⟨HR3.out.later b4, R4, P3.out.later b4⟩
    clear R4 g4 b4 HR3 P3 hq
    obtain ⟨mk, hmk⟩ : ∃ mk, markR L1 = mk := ⟨_, rfl⟩
    have HMK := Lib.hid hmk
    clear hmk
    go_upto_region 5 with fail
    go_cut [6] from 22 to 36 (fun v wx => v = .bool mk ∧ wx = w4)
    case first =>
      obtain ⟨A1, n1, c1, hbx, hnc1, hn30, hbs⟩ := I4.out.rd.box
      obtain rfl := hbs.len
      have c0 := hbx.cell (k := 0) (v := .slice A1 L1.length c1) rfl
      have hb3 := Lib.hid (hbs.later I4.out.rd.bel)
      clear hbx hbs
      by_cases hl1 : 0 < L1.length
      · have t1 : decide ((0 : Int) < (L1.length : Int)) = true := decide_eq_true (by omega)
        have t1n : decide (0 < L1.length) = true := decide_eq_true hl1
        obtain ⟨a, rfl, _, ca, lt1⟩ := hb3.out.at_ (k := 0) hl1
        have ca' : w4.cell? a = some (.int .u8 (nth L1 0 : Nat)) := by rw [← ca]; simp [Addr.add]
        obtain ⟨x, hx⟩ : ∃ x, nth L1 0 = x := ⟨_, rfl⟩
        rw [hx] at ca ca' lt1
        by_cases h0 : x = 0
        · subst h0
          have HM : Hid (mk = true) := Lib.hid (by rw [← HMK.out]; unfold markR; rw [t1n, hx]; rfl)
          clear hx
          go_wp2_with fail
          go_meet
          exact ⟨by rw [HM.out], rfl⟩
        · have HM : Hid (mk = false) := Lib.hid (by rw [← HMK.out]; unfold markR; rw [hx, decide_eq_false h0, Bool.and_false])
          have t2 : decide ((x : Int) = 0) = false := decide_eq_false (by omega)
          have t3 : decide (x = 0) = false := decide_eq_false h0
          clear hx
          go_wp2_with fail
          go_meet
          exact ⟨by rw [HM.out]; exact congrArg Value.bool (beq_eq_false_iff_ne.2 (by omega)), rfl⟩
      · have t1 : decide ((0 : Int) < (L1.length : Int)) = false := decide_eq_false (by omega)
        have t1n : decide (0 < L1.length) = false := decide_eq_false hl1
        have HM : Hid (mk = false) := Lib.hid (by rw [← HMK.out]; unfold markR; rw [t1n]; rfl)
        go_wp2_with fail
        go_meet
        exact ⟨by rw [HM.out], rfl⟩
    case rest =>
      obtain ⟨rfl, hwc⟩ := hcut
      rw [hwc]
      clear hwc
      go_upto_if 37 with fail
      go_cut [] from 38 to 39 (fun wx => ∃ L2 b2, GC w r q L2 b2 (txV ver none 0 0 none 0 0 0) wx ∧ St (skipP mk) b1 L1 () L2 b2)
      case first =>
        cases mk with
        | true =>
          have C2 : Hid (Calls Tryd.prog 40 #[.pointer (some ⟨r, 0, none⟩), .int .i64 2] w4 (Takes w r w4 2 L1 b1)) := Lib.hid (rtake_any (n := 2) I4.out.rd (by decide))
          go_wp2_with (go_at_call 40; refine C2.out.mono ?_; rintro e w5 ⟨A5, m5, c5, L2, b2, rfl, _, _, R5, G5, hT⟩)
          go_meet
          refine ⟨L2, b2, I4.out.call rw1 rq R5 G5, ?_⟩
          obtain ⟨y, _, hs, _⟩ := takes_st hT
          rcases hs with ⟨a1, a2, a3⟩ | ⟨a1, a2⟩
          · exact .inl ⟨a1, a2, by unfold skipP; rw [if_pos rfl, a3]; rfl⟩
          · exact .inr ⟨a1, fun h => by unfold skipP; rw [if_pos rfl, a2 h]; rfl⟩
        | false =>
          go_wp2_with fail
          go_meet
          exact ⟨L1, b1, I4.out, st_eq st_pure rfl⟩
      case rest =>
        obtain ⟨L2, b2, I5, S2⟩ := hcut
        have HI5 := Lib.hid I5
        have HS2 := Lib.hid S2
        have C3 := Lib.hid (rbody_any (ver := ver) I5.rd)
        obtain ⟨w5, hw5⟩ : ∃ w5, wc = w5 := ⟨_, rfl⟩
        rw [hw5] at HI5 C3 ⊢
        clear hw5 I5 S2 I4
        go_wp2_with (first
          | (refine wpList_load_part rfl (.tmp 5) rfl rfl rowTx HI5.out.q.whole rfl ?_)
          | (go_at_call 41; refine C3.out.mono ?_; rintro e w6 ⟨lo, hi, is, os, Ai, ni, ci, Ao, no, co, L3, b3, rfl, M6, R6, G6, S3⟩; have HM6 := Lib.hid M6; have HS3 := Lib.hid S3; have I6 := Lib.hid (HI5.out.call rw1 rq R6 G6); clear M6 R6 G6 S3 C3)
          | (refine wpList_store_ro rfl (.tmp 5) (.tmp 42) rfl (vs := txV ver Ai ni ci Ao no co 0) rfl rfl rowTx I6.out.q rfl rfl (txV_one _ _ _ _ _ _ _ _) ?_))
        intro w8 R8 g8
        have I8 := Lib.hid (I6.out.store rw1 rq R8 g8)
        have ql : q < lo := by have := HM6.out.l1; have := HI5.out.q.lt; omega
        have M8 : Hid (GM lo hi w6.heap.size is os Ai ni Ao no 0 [] w8) := Lib.hid (GM.far (w1 := w6) (x := q) ⟨by rw [witTo_nil]; exact HM6.out.r, HM6.out.z, HM6.out.o.weak outR_mono fun b hb hl => ⟨hb, hl⟩, Nat.le_refl _⟩ g8 ql HM6.out.l2)
        have NC := Lib.hid HM6.out.nc
        have OC := Lib.hid HM6.out.oc
        have n30 := HM6.out.n2
        have o30 := HM6.out.o2
        have IW0 := Lib.hid HM6.out.w0
        have l12 := HM6.out.l2
        have l23 := HM6.out.l3
        have LI := Lib.hid HM6.out.r.len
        obtain ⟨h8, hh8⟩ : ∃ h8, w6.heap.size = h8 := ⟨_, rfl⟩
        rw [hh8] at M8 l23
        clear R8 g8 I6 HI5 HM6 hh8
        have S8 : Hid (mk = true → Sl witP ni 0 b3 L3 [] L3 b3) := Lib.hid (fun _ => Sl.start)
        go_wp2_with fail
        go_loopw [7] (fun i wr => ∃ (j : Nat) (ws : List (List (List Nat))) (Lj : List Nat) (bj : Bool), j ≤ ni ∧ i = .int .i64 (j : Int) ∧ ws.length = j ∧ Hid (GC w r q Lj bj (txV ver Ai ni ci Ao no co 0) wr) ∧ Hid (GM lo hi h8 is os Ai ni Ao no j ws wr) ∧ Hid (mk = true → Sl witP ni j b3 L3 ws Lj bj) ∧ Hid (mk = false → j = 0 ∧ Lj = L3 ∧ bj = b3)) (fun i _ => ni - (intOf i).toNat)
        case atStart => exact ⟨0, [], L3, b3, Nat.zero_le _, rfl, rfl, I8, M8, S8, Lib.hid (fun _ => ⟨rfl, rfl, rfl⟩)⟩
        case round =>
          clear I8 M8 S8
          obtain ⟨j, ws, Lj, bj, hj, rfl, hws, HI, HM, HP, HQ⟩ := hrel
          have c1 := HI.out.q.cell (k := 1) (v := .slice Ai ni ci) rfl
          go_upto_region 10 with fail
          go_cut [50] from 43 to 82 (fun v wx => v = .bool (decide (j < ni) && mk) ∧ wx = wr)
          case first =>
            by_cases hlt : j < ni
            · have t1 : decide ((j : Int) < (ni : Int)) = true := decide_eq_true (by omega)
              have t1n : decide (j < ni) = true := decide_eq_true hlt
              go_wp2_with fail
              go_meet
              exact ⟨by rw [t1n]; rfl, rfl⟩
            · have t1 : decide ((j : Int) < (ni : Int)) = false := decide_eq_false (by omega)
              have t1n : decide (j < ni) = false := decide_eq_false hlt
              go_wp2_with fail
              go_meet
              exact ⟨by rw [t1n]; rfl, rfl⟩
          case rest =>
            obtain ⟨rfl, hwc⟩ := hcut
            rw [hwc]
            clear hwc c1
            by_cases hx : j < ni ∧ mk = true
            · obtain ⟨hlt, rfl⟩ := hx
              have tx : (decide (j < ni) && true) = true := by rw [decide_eq_true hlt]; rfl
              rw [tx]
              clear tx
              have C4 := Lib.hid (rcount_any HI.out.rd)
              go_wp2_with (go_at_call 42; refine C4.out.mono ?_)
              rintro e w10 ⟨nj, L4, b4, rfl, hnj, R10, G10, S4⟩
              obtain ⟨i, hi_, _, him⟩ := getL LI.out hlt
              obtain ⟨g, rfl, hg1, hg2⟩ : ∃ g, Ai = some ⟨g, 0, none⟩ ∧ lo ≤ g ∧ g < hi := by
                obtain ⟨g, _, _, e, h1, h2, _⟩ := HM.out.r.row (by omega)
                exact ⟨g, e, h1, h2⟩
              have M10 := HM.out.far G10 (by omega) l12
              have I10 := Lib.hid (HI.out.call rw1 rq R10 G10)
              obtain ⟨m3, hm3⟩ : ∃ m3, w10.heap.size = m3 := ⟨_, rfl⟩
              have hat : is[ws.length]? = some i := by rw [hws]; exact hi_
              have O10 := OpenRow.of M10.r (witTo_at hat) (Nat.le_of_eq hm3) (by rw [hws]; exact M10.z g rfl j (Nat.le_refl _) hlt)
              have gm3 : g < m3 := O10.g3
              have hm38 : h8 ≤ m3 := by rw [← hm3]; exact M10.s
              rw [hws] at O10
              have HO := Lib.hid O10
              have HZ := Lib.hid M10.z.less
              have HOU := Lib.hid M10.o
              have HB4 := Lib.hid HI.out.rd.byt
              have HS4 := Lib.hid S4
              have HAT := Lib.hid hat
              have HIW := Lib.hid (IW0.out i him)
              have N10 := Lib.hid (NewRw.none_ (T := 29) (sz := 1) (R := BsR) I10.out.rd.bel (m := m3) (by rw [← hm3]; exact I10.out.rd.bel.size))
              have SZ10 : Hid (m3 ≤ w10.heap.size) := Lib.hid (Nat.le_of_eq hm3.symm)
              clear C4 R10 G10 S4 M10 O10 hat hi_ him HI HM hm3
              go_wp2_with fail
              go_loopw [9] (fun x wr => ∃ (k : Nat) (Aw : Option Addr) (cw : Nat) (pre : List (List Nat)) (Lk : List Nat) (bk : Bool), k ≤ nj ∧ x = .int .i64 (k : Int) ∧ k ≤ cw ∧ Hid (GC w r q Lk bk (txV ver (some ⟨g, 0, none⟩) ni ci Ao no co 0) wr) ∧ Hid (OpenRow wr lo hi m3 g ni (witTo is ws) j i Aw k cw) ∧ Hid (Nils wr (some ⟨g, 0, none⟩) (j + 1) ni) ∧ Hid (Rows wr (fun b => hi ≤ b ∧ b < h8) 2 OutR Ao no os) ∧ Hid (NewRw 29 1 BsR w m3 (.slice Aw k cw) k pre wr) ∧ Hid (Sl itemP nj k b4 L4 pre Lk bk) ∧ Hid (m3 ≤ wr.heap.size)) (fun x _ => nj - (intOf x).toNat)
              case atStart => exact ⟨0, none, 0, [], L4, b4, Nat.zero_le _, rfl, Nat.le_refl _, I10, HO, HZ, HOU, N10, Lib.hid Sl.start, SZ10⟩
              case round =>
                clear I10 HO HZ HOU N10 SZ10
                obtain ⟨k, Aw, cw, pre, Lk, bk, hk, rfl, hkc, HI, HO, HZ, HOU, HN, HS, HSZ⟩ := hrel
                obtain ⟨A0, n0, c0, hbx, _, _, _⟩ := HI.out.rd.box
                have c1 := hbx.cell (k := 1) (v := .bool bk) rfl
                clear hbx
                go_upto_region 14 with fail
                go_cut [64] from 55 to 82 (fun v wx => v = .bool (decide (k < nj) && !bk) ∧ wx = wr)
                case first =>
                  by_cases hkt : k < nj
                  · have t1 : decide ((k : Int) < (nj : Int)) = true := decide_eq_true (by omega)
                    have t1n : decide (k < nj) = true := decide_eq_true hkt
                    cases bk <;> (go_wp2_with fail; go_meet; exact ⟨by rw [t1n]; rfl, rfl⟩)
                  · have t1 : decide ((k : Int) < (nj : Int)) = false := decide_eq_false (by omega)
                    have t1n : decide (k < nj) = false := decide_eq_false hkt
                    go_wp2_with fail
                    go_meet
                    exact ⟨by rw [t1n]; rfl, rfl⟩
                case rest =>
                  obtain ⟨rfl, hwc⟩ := hcut
                  rw [hwc]
                  clear hwc c1
                  by_cases hx : k < nj ∧ bk = false
                  · obtain ⟨hkt, rfl⟩ := hx
                    have tx : (decide (k < nj) && !false) = true := by rw [decide_eq_true hkt]; rfl
                    rw [tx]
                    clear tx
                    have C5 := Lib.hid (ritem_any HI.out.rd)
                    have OX : Hid (∀ z, Value.ownBlock (.slice Aw k cw) = some z → z < wr.heap.size) := Lib.hid (fun z hz => (HN.out.own.new z hz).2)
                    go_wp2_with (go_at_call 43; refine C5.out.mono ?_)
                    rintro e w11 ⟨y, B, m, d, L5, b5, rfl, hmd, hm30, BB, R11, G11, S5⟩
                    have HX := Lib.hid (HS.out.next hkt S5)
                    have I11 := Lib.hid (HI.out.call rw1 rq R11 G11)
                    have N11 := Lib.hid (HN.out.far bsR_mono G11 (by omega) (by omega))
                    have O11 := Lib.hid (HO.out.keep (Kept.of_grown G11 fun b hb e => by injection e; omega))
                    have Z11 := Lib.hid (HZ.out.keep (w2 := w11) fun g' hg' => by
                      injection hg' with hg'
                      injection hg' with hg'
                      subst hg'
                      exact ⟨HO.out.cell.2.2, G11.block g HO.out.cell.2.2 (fun e => by injection e; omega)⟩)
                    have U11 := Lib.hid (HOU.out.keep outR_mono (Kept.of_grown G11 fun b hb e => by injection e; omega))
                    have SZ11 := Lib.hid (Nat.le_trans HSZ.out G11.size)
                    have sz := HSZ.out
                    have BB11 : Hid (BsP w11 (fun b => m3 ≤ b ∧ some b ≠ Value.ownBlock (.slice Aw k cw)) B m y) := Lib.hid (BB.weak fun b hb _ => ⟨by omega, fun e => by have := OX.out b e.symm; omega⟩)
                    clear C5 R11 G11 S5 BB HI HN HO HZ HOU HSZ HS OX sz
                    go_upto_region 17 with fail
                    refine wp_region_any (by kernel_rfl) ?_
                    change wpAny _ _ _ _ _ _ _ (World.drew _)
                    have bl : Below w11.heap.size w11 w11.drew := (Below.refl _ _).drew
                    obtain ⟨wvd, hwd⟩ : ∃ x, w11.drew = x := ⟨_, rfl⟩
                    rw [hwd] at bl ⊢
                    have Id := Lib.hid (I11.out.later bl)
                    have Nd := Lib.hid (N11.out.later bsR_mono bl)
                    have Od := Lib.hid (O11.out.keep (Kept.of_below bl))
                    have Zd := Lib.hid (Z11.out.keep (w2 := wvd) fun g' hg' => by
                      injection hg' with hg'
                      injection hg' with hg'
                      subst hg'
                      exact ⟨O11.out.cell.2.2, bl.block g O11.out.cell.2.2⟩)
                    have Ud := Lib.hid (U11.out.keep outR_mono (Kept.of_below bl))
                    have SZd := Lib.hid (Nat.le_trans SZ11.out bl.size)
                    have BBd := Lib.hid (BB11.out.keep (Kept.of_below bl))
                    have tj : decide ((j : Int) < (ni : Int)) = true := decide_eq_true (by omega)
                    have tjn : decide (j < ni) = true := decide_eq_true hlt
                    clear bl hwd I11 N11 O11 Z11 U11 SZ11 BB11
                    have cqd := Id.out.q.cell (k := 1) (v := .slice (some ⟨g, 0, none⟩) ni ci) rfl
                    have cwd := Od.out.cell.1
                    refine wpAny_take (i := 0) (v := ?_) rfl (by kernel_rfl) (by kernel_rfl) (by kernel_rfl) (fun _ _ _ h => h) (Or.inl ⟨by rfl, ?_⟩) ?_
                    rotate_left
                    · intro w
                      go_simp
                      with_reducible rfl
                    refine wpAny_take (i := 2) (v := ?_) rfl (by kernel_rfl) (by kernel_rfl) (by kernel_rfl) (fun _ _ _ h => h) (Or.inl ⟨by rfl, ?_⟩) ?_
                    rotate_left
                    · intro w
                      go_simp
                      with_reducible rfl
                    refine wpAny_take (i := 3) (v := ?_) rfl (by kernel_rfl) (by kernel_rfl) (by kernel_rfl) (fun _ _ _ h => h) (Or.inl ⟨by rfl, ?_⟩) ?_
                    rotate_left
                    · intro w
                      go_simp
                      with_reducible rfl
                    refine wpAny_take (i := 5) (v := ?_) rfl (by kernel_rfl) (by kernel_rfl) (by kernel_rfl) (fun _ _ _ h => h) (Or.inl ⟨by rfl, ?_⟩) ?_
                    rotate_left
                    · intro w
                      go_simp
                      with_reducible rfl
                    refine wpAny_take (i := 9) (v := ?_) rfl (by kernel_rfl) (by kernel_rfl) (by kernel_rfl) (fun _ _ _ h => h) (Or.inl ⟨by rfl, ?_⟩) ?_
                    rotate_left
                    · intro w
                      go_simp
                      with_reducible rfl
                    refine wpAny_ready (rs := [1, 4, 10]) (by kernel_rfl) (by simp) ?_
                    refine AllReady.cons rfl (fun K hK => ?_) (AllReady.cons rfl (fun K hK => ?_) (AllReady.cons rfl (fun K hK => ?_) AllReady.nil))
                    · go_simp
                      refine hK _ _ ?_
                      clear hK K
                      refine wpAny_ready (rs := [4, 10]) (by kernel_rfl) (by simp) ?_
                      refine AllReady.cons rfl (fun K hK => ?_) (AllReady.cons rfl (fun K hK => ?_) AllReady.nil)
                      · go_simp
                        refine hK _ _ ?_
                        clear hK K
                        refine wpAny_take (i := 6) (v := ?_) rfl (by kernel_rfl) (by kernel_rfl) (by kernel_rfl) (fun _ _ _ h => h) (Or.inl ⟨by rfl, ?_⟩) ?_
                        rotate_left
                        · intro w
                          go_simp
                          with_reducible rfl
                        refine wpAny_take (i := 7) (v := ?_) rfl (by kernel_rfl) (by kernel_rfl) (by kernel_rfl) (fun _ _ _ h => h) (Or.inl ⟨by rfl, ?_⟩) ?_
                        rotate_left
                        · intro w
                          go_simp
                          with_reducible rfl
                        refine wpAny_ready (rs := [8, 10]) (by kernel_rfl) (by simp) ?_
                        refine AllReady.cons rfl (fun K hK => ?_) (AllReady.cons rfl (fun K hK => ?_) AllReady.nil)
                        · go_simp
                          refine hK _ _ ?_
                          clear hK K
                          refine wpAny_ready (rs := [10]) (by kernel_rfl) (by simp) ?_
                          refine AllReady.cons rfl (fun K hK => ?_) AllReady.nil
                          go_simp
                          refine hK _ _ ?_
                          clear hK K
                          have bl := (Below.refl wvd.heap.size wvd).alloc (Nat.le_refl _) (.cells #[.slice B m d] 29)
                          have rwz := Ro.new wvd 29 [.slice B m d]
                          obtain ⟨wvdl, hwdl⟩ : ∃ x, wvd.alloc (.cells #[.slice B m d] 29) = x := ⟨_, rfl⟩
                          have rwz2 : Ro wvdl wvd.heap.size 29 [.slice B m d] := by rw [← hwdl]; exact rwz
                          have sl : wvdl.heap.size = wvd.heap.size + 1 := by rw [← hwdl, World.size_alloc]
                          rw [hwdl] at bl ⊢
                          have Idl := Lib.hid (Id.out.later bl)
                          have Ndl := Lib.hid (Nd.out.later bsR_mono bl)
                          have Odl := Lib.hid (Od.out.keep (Kept.of_below bl))
                          have Zdl := Lib.hid (Zd.out.keep (w2 := wvdl) fun g' hg' => by
                            injection hg' with hg'
                            injection hg' with hg'
                            subst hg'
                            exact ⟨Od.out.cell.2.2, bl.block g Od.out.cell.2.2⟩)
                          have Udl := Lib.hid (Ud.out.keep outR_mono (Kept.of_below bl))
                          have SZdl := Lib.hid (Nat.le_trans SZd.out bl.size)
                          have RWdl := Lib.hid rwz2.whole
                          have ELdl : Hid (Each 1 (BsR wvdl fun b => m3 ≤ b ∧ some b ≠ Value.ownBlock (.slice Aw k cw) ∧ b < wvdl.heap.size) [.slice B m d] [y]) := Lib.hid (Each.one rfl ⟨B, m, d, rfl, hmd, by omega, (BBd.out.weak (Q := fun b => m3 ≤ b ∧ some b ≠ Value.ownBlock (.slice Aw k cw) ∧ b < wvdl.heap.size) fun b hb hl => ⟨hb.1, hb.2, by omega⟩).keep (Kept.of_below bl)⟩)
                          clear rwz rwz2 sl bl hwdl
                          refine wpAny_ready (rs := [11]) (by kernel_rfl) (by simp) ?_
                          refine AllReady.cons rfl (fun K hK => ?_) AllReady.nil
                          refine step_wp rfl (wp_appRw (v := .slice Aw k cw) elemB bsR_mono rfl (.tmp 77) (.tmp 79) rfl rfl Ndl.out.own rfl (k := [y]) (N := k + 1) rfl (fun _ => ⟨_, _, rfl, RWdl.out⟩) ELdl.out (fun u hu => by simp at hu; subst hu; rfl) rfl (by omega) (by omega) ?_)
                          intro A9 c9 wvdla hc9 O9 g9 e9
                          show K (Act.put _ (some 80) _) _
                          have hidla : ∀ b, Value.ownBlock (.slice Aw k cw) = some b → m3 ≤ b := fun b hb => Ndl.out.hi b hb
                          have Ndla := Lib.hid (Ndl.out.grown O9 SZdl.out e9)
                          have Idla := Lib.hid (Idl.out.grown rw1 rq g9 (fun b hb => by have := hidla b hb; omega))
                          have Odla := Lib.hid (Odl.out.keep (Kept.of_grown g9 fun b hb e => by have := hidla b e.symm; omega))
                          have Zdla := Lib.hid (Zdl.out.keep (w2 := wvdla) fun g' hg' => by
                            injection hg' with hg'
                            injection hg' with hg'
                            subst hg'
                            exact ⟨Odl.out.cell.2.2, g9.block g Odl.out.cell.2.2 (fun e => by have := hidla g e.symm; omega)⟩)
                          have Udla := Lib.hid (Udl.out.keep outR_mono (Kept.of_grown g9 fun b hb e => by have := hidla b e.symm; omega))
                          have SZdla := Lib.hid (Nat.le_trans SZdl.out g9.size)
                          refine hK _ _ ?_
                          clear hK K
                          clear O9 g9 e9 hidla
                          refine wpAny_take (i := 12) (v := ?_) rfl (by kernel_rfl) (by kernel_rfl) (by kernel_rfl) (fun _ _ _ h => h) (Or.inl ⟨by rfl, ?_⟩) ?_
                          rotate_left
                          · intro w
                            go_simp
                            with_reducible rfl
                          refine wpAny_take (i := 13) (v := ?_) rfl (by kernel_rfl) (by kernel_rfl) (by kernel_rfl) (fun _ _ _ h => h) (Or.inl ⟨by rfl, ?_⟩) ?_
                          rotate_left
                          · intro w
                            go_simp
                            with_reducible rfl
                          refine wpAny_ready (rs := [14]) (by kernel_rfl) (by simp) ?_
                          refine AllReady.cons rfl (fun K hK => ?_) AllReady.nil
                          have cz := Odla.out.cell.1
                          have fz := Odla.out.cell.2.1 (j * 36 + 35)
                          go_simp
                          refine hK _ _ ?_
                          clear hK K
                          clear cz fz
                          refine wpAny_done (by kernel_rfl) ?_ _
                          have GZ := gr_set wvdla g (j * 36 + 35) (.slice A9 (k + 1) c9)
                          have IE := Lib.hid (Idla.out.grown rw1 rq GZ (fun b e => by injection e; omega))
                          have NE := Lib.hid (Ndla.out.far bsR_mono GZ gm3 (by omega))
                          have OE := Lib.hid (Odla.out.set A9 (k + 1) c9)
                          have ZE := Lib.hid (Zdla.out.set (v := .slice A9 (k + 1) c9))
                          have UE := Lib.hid (Udla.out.keep outR_mono (Kept.of_grown GZ fun b hb e => by injection e; omega))
                          have SE := Lib.hid (Nat.le_trans SZdla.out GZ.size)
                          clear GZ
                          go_wp2_with fail
                          exact ⟨⟨k + 1, A9, c9, pre ++ [y], L5, b5, by omega, by go_num, hc9, IE, OE, ZE, UE, NE, HX, SE⟩, by simp [intOf]; omega⟩
                        · go_simp
                          refine hK _ _ ?_
                          clear hK K
                          have bl := (Below.refl wvd.heap.size wvd).alloc (Nat.le_refl _) (.cells #[.slice B m d] 29)
                          have rwz := Ro.new wvd 29 [.slice B m d]
                          obtain ⟨wvdl, hwdl⟩ : ∃ x, wvd.alloc (.cells #[.slice B m d] 29) = x := ⟨_, rfl⟩
                          have rwz2 : Ro wvdl wvd.heap.size 29 [.slice B m d] := by rw [← hwdl]; exact rwz
                          have sl : wvdl.heap.size = wvd.heap.size + 1 := by rw [← hwdl, World.size_alloc]
                          rw [hwdl] at bl ⊢
                          have Idl := Lib.hid (Id.out.later bl)
                          have Ndl := Lib.hid (Nd.out.later bsR_mono bl)
                          have Odl := Lib.hid (Od.out.keep (Kept.of_below bl))
                          have Zdl := Lib.hid (Zd.out.keep (w2 := wvdl) fun g' hg' => by
                            injection hg' with hg'
                            injection hg' with hg'
                            subst hg'
                            exact ⟨Od.out.cell.2.2, bl.block g Od.out.cell.2.2⟩)
                          have Udl := Lib.hid (Ud.out.keep outR_mono (Kept.of_below bl))
                          have SZdl := Lib.hid (Nat.le_trans SZd.out bl.size)
                          have RWdl := Lib.hid rwz2.whole
                          have ELdl : Hid (Each 1 (BsR wvdl fun b => m3 ≤ b ∧ some b ≠ Value.ownBlock (.slice Aw k cw) ∧ b < wvdl.heap.size) [.slice B m d] [y]) := Lib.hid (Each.one rfl ⟨B, m, d, rfl, hmd, by omega, (BBd.out.weak (Q := fun b => m3 ≤ b ∧ some b ≠ Value.ownBlock (.slice Aw k cw) ∧ b < wvdl.heap.size) fun b hb hl => ⟨hb.1, hb.2, by omega⟩).keep (Kept.of_below bl)⟩)
                          clear cwd
                          clear rwz rwz2 sl bl hwdl
                          have cwdl := Odl.out.cell.1
                          refine wpAny_ready (rs := [8]) (by kernel_rfl) (by simp) ?_
                          refine AllReady.cons rfl (fun K hK => ?_) AllReady.nil
                          go_simp
                          refine hK _ _ ?_
                          clear hK K
                          refine wpAny_ready (rs := [11]) (by kernel_rfl) (by simp) ?_
                          refine AllReady.cons rfl (fun K hK => ?_) AllReady.nil
                          refine step_wp rfl (wp_appRw (v := .slice Aw k cw) elemB bsR_mono rfl (.tmp 77) (.tmp 79) rfl rfl Ndl.out.own rfl (k := [y]) (N := k + 1) rfl (fun _ => ⟨_, _, rfl, RWdl.out⟩) ELdl.out (fun u hu => by simp at hu; subst hu; rfl) rfl (by omega) (by omega) ?_)
                          intro A9 c9 wvdla hc9 O9 g9 e9
                          show K (Act.put _ (some 80) _) _
                          have hidla : ∀ b, Value.ownBlock (.slice Aw k cw) = some b → m3 ≤ b := fun b hb => Ndl.out.hi b hb
                          have Ndla := Lib.hid (Ndl.out.grown O9 SZdl.out e9)
                          have Idla := Lib.hid (Idl.out.grown rw1 rq g9 (fun b hb => by have := hidla b hb; omega))
                          have Odla := Lib.hid (Odl.out.keep (Kept.of_grown g9 fun b hb e => by have := hidla b e.symm; omega))
                          have Zdla := Lib.hid (Zdl.out.keep (w2 := wvdla) fun g' hg' => by
                            injection hg' with hg'
                            injection hg' with hg'
                            subst hg'
                            exact ⟨Odl.out.cell.2.2, g9.block g Odl.out.cell.2.2 (fun e => by have := hidla g e.symm; omega)⟩)
                          have Udla := Lib.hid (Udl.out.keep outR_mono (Kept.of_grown g9 fun b hb e => by have := hidla b e.symm; omega))
                          have SZdla := Lib.hid (Nat.le_trans SZdl.out g9.size)
                          refine hK _ _ ?_
                          clear hK K
                          clear O9 g9 e9 hidla
                          refine wpAny_take (i := 12) (v := ?_) rfl (by kernel_rfl) (by kernel_rfl) (by kernel_rfl) (fun _ _ _ h => h) (Or.inl ⟨by rfl, ?_⟩) ?_
                          rotate_left
                          · intro w
                            go_simp
                            with_reducible rfl
                          refine wpAny_take (i := 13) (v := ?_) rfl (by kernel_rfl) (by kernel_rfl) (by kernel_rfl) (fun _ _ _ h => h) (Or.inl ⟨by rfl, ?_⟩) ?_
                          rotate_left
                          · intro w
                            go_simp
                            with_reducible rfl
                          refine wpAny_ready (rs := [14]) (by kernel_rfl) (by simp) ?_
                          refine AllReady.cons rfl (fun K hK => ?_) AllReady.nil
                          have cz := Odla.out.cell.1
                          have fz := Odla.out.cell.2.1 (j * 36 + 35)
                          go_simp
                          refine hK _ _ ?_
                          clear hK K
                          clear cz fz
                          refine wpAny_done (by kernel_rfl) ?_ _
                          have GZ := gr_set wvdla g (j * 36 + 35) (.slice A9 (k + 1) c9)
                          have IE := Lib.hid (Idla.out.grown rw1 rq GZ (fun b e => by injection e; omega))
                          have NE := Lib.hid (Ndla.out.far bsR_mono GZ gm3 (by omega))
                          have OE := Lib.hid (Odla.out.set A9 (k + 1) c9)
                          have ZE := Lib.hid (Zdla.out.set (v := .slice A9 (k + 1) c9))
                          have UE := Lib.hid (Udla.out.keep outR_mono (Kept.of_grown GZ fun b hb e => by injection e; omega))
                          have SE := Lib.hid (Nat.le_trans SZdla.out GZ.size)
                          clear GZ
                          go_wp2_with fail
                          exact ⟨⟨k + 1, A9, c9, pre ++ [y], L5, b5, by omega, by go_num, hc9, IE, OE, ZE, UE, NE, HX, SE⟩, by simp [intOf]; omega⟩
                      · go_simp
                        refine hK _ _ ?_
                        clear hK K
                        have bl := (Below.refl wvd.heap.size wvd).alloc (Nat.le_refl _) (.cells #[.slice B m d] 29)
                        have rwz := Ro.new wvd 29 [.slice B m d]
                        obtain ⟨wvdl, hwdl⟩ : ∃ x, wvd.alloc (.cells #[.slice B m d] 29) = x := ⟨_, rfl⟩
                        have rwz2 : Ro wvdl wvd.heap.size 29 [.slice B m d] := by rw [← hwdl]; exact rwz
                        have sl : wvdl.heap.size = wvd.heap.size + 1 := by rw [← hwdl, World.size_alloc]
                        rw [hwdl] at bl ⊢
                        have Idl := Lib.hid (Id.out.later bl)
                        have Ndl := Lib.hid (Nd.out.later bsR_mono bl)
                        have Odl := Lib.hid (Od.out.keep (Kept.of_below bl))
                        have Zdl := Lib.hid (Zd.out.keep (w2 := wvdl) fun g' hg' => by
                          injection hg' with hg'
                          injection hg' with hg'
                          subst hg'
                          exact ⟨Od.out.cell.2.2, bl.block g Od.out.cell.2.2⟩)
                        have Udl := Lib.hid (Ud.out.keep outR_mono (Kept.of_below bl))
                        have SZdl := Lib.hid (Nat.le_trans SZd.out bl.size)
                        have RWdl := Lib.hid rwz2.whole
                        have ELdl : Hid (Each 1 (BsR wvdl fun b => m3 ≤ b ∧ some b ≠ Value.ownBlock (.slice Aw k cw) ∧ b < wvdl.heap.size) [.slice B m d] [y]) := Lib.hid (Each.one rfl ⟨B, m, d, rfl, hmd, by omega, (BBd.out.weak (Q := fun b => m3 ≤ b ∧ some b ≠ Value.ownBlock (.slice Aw k cw) ∧ b < wvdl.heap.size) fun b hb hl => ⟨hb.1, hb.2, by omega⟩).keep (Kept.of_below bl)⟩)
                        clear cqd cwd
                        clear rwz rwz2 sl bl hwdl
                        have cqdl := Idl.out.q.cell (k := 1) (v := .slice (some ⟨g, 0, none⟩) ni ci) rfl
                        have cwdl := Odl.out.cell.1
                        refine wpAny_ready (rs := [4]) (by kernel_rfl) (by simp) ?_
                        refine AllReady.cons rfl (fun K hK => ?_) AllReady.nil
                        go_simp
                        refine hK _ _ ?_
                        clear hK K
                        refine wpAny_take (i := 6) (v := ?_) rfl (by kernel_rfl) (by kernel_rfl) (by kernel_rfl) (fun _ _ _ h => h) (Or.inl ⟨by rfl, ?_⟩) ?_
                        rotate_left
                        · intro w
                          go_simp
                          with_reducible rfl
                        refine wpAny_take (i := 7) (v := ?_) rfl (by kernel_rfl) (by kernel_rfl) (by kernel_rfl) (fun _ _ _ h => h) (Or.inl ⟨by rfl, ?_⟩) ?_
                        rotate_left
                        · intro w
                          go_simp
                          with_reducible rfl
                        refine wpAny_ready (rs := [8]) (by kernel_rfl) (by simp) ?_
                        refine AllReady.cons rfl (fun K hK => ?_) AllReady.nil
                        go_simp
                        refine hK _ _ ?_
                        clear hK K
                        refine wpAny_ready (rs := [11]) (by kernel_rfl) (by simp) ?_
                        refine AllReady.cons rfl (fun K hK => ?_) AllReady.nil
                        refine step_wp rfl (wp_appRw (v := .slice Aw k cw) elemB bsR_mono rfl (.tmp 77) (.tmp 79) rfl rfl Ndl.out.own rfl (k := [y]) (N := k + 1) rfl (fun _ => ⟨_, _, rfl, RWdl.out⟩) ELdl.out (fun u hu => by simp at hu; subst hu; rfl) rfl (by omega) (by omega) ?_)
                        intro A9 c9 wvdla hc9 O9 g9 e9
                        show K (Act.put _ (some 80) _) _
                        have hidla : ∀ b, Value.ownBlock (.slice Aw k cw) = some b → m3 ≤ b := fun b hb => Ndl.out.hi b hb
                        have Ndla := Lib.hid (Ndl.out.grown O9 SZdl.out e9)
                        have Idla := Lib.hid (Idl.out.grown rw1 rq g9 (fun b hb => by have := hidla b hb; omega))
                        have Odla := Lib.hid (Odl.out.keep (Kept.of_grown g9 fun b hb e => by have := hidla b e.symm; omega))
                        have Zdla := Lib.hid (Zdl.out.keep (w2 := wvdla) fun g' hg' => by
                          injection hg' with hg'
                          injection hg' with hg'
                          subst hg'
                          exact ⟨Odl.out.cell.2.2, g9.block g Odl.out.cell.2.2 (fun e => by have := hidla g e.symm; omega)⟩)
                        have Udla := Lib.hid (Udl.out.keep outR_mono (Kept.of_grown g9 fun b hb e => by have := hidla b e.symm; omega))
                        have SZdla := Lib.hid (Nat.le_trans SZdl.out g9.size)
                        refine hK _ _ ?_
                        clear hK K
                        clear O9 g9 e9 hidla
                        refine wpAny_take (i := 12) (v := ?_) rfl (by kernel_rfl) (by kernel_rfl) (by kernel_rfl) (fun _ _ _ h => h) (Or.inl ⟨by rfl, ?_⟩) ?_
                        rotate_left
                        · intro w
                          go_simp
                          with_reducible rfl
                        refine wpAny_take (i := 13) (v := ?_) rfl (by kernel_rfl) (by kernel_rfl) (by kernel_rfl) (fun _ _ _ h => h) (Or.inl ⟨by rfl, ?_⟩) ?_
                        rotate_left
                        · intro w
                          go_simp
                          with_reducible rfl
                        refine wpAny_ready (rs := [14]) (by kernel_rfl) (by simp) ?_
                        refine AllReady.cons rfl (fun K hK => ?_) AllReady.nil
                        have cz := Odla.out.cell.1
                        have fz := Odla.out.cell.2.1 (j * 36 + 35)
                        go_simp
                        refine hK _ _ ?_
                        clear hK K
                        clear cz fz
                        refine wpAny_done (by kernel_rfl) ?_ _
                        have GZ := gr_set wvdla g (j * 36 + 35) (.slice A9 (k + 1) c9)
                        have IE := Lib.hid (Idla.out.grown rw1 rq GZ (fun b e => by injection e; omega))
                        have NE := Lib.hid (Ndla.out.far bsR_mono GZ gm3 (by omega))
                        have OE := Lib.hid (Odla.out.set A9 (k + 1) c9)
                        have ZE := Lib.hid (Zdla.out.set (v := .slice A9 (k + 1) c9))
                        have UE := Lib.hid (Udla.out.keep outR_mono (Kept.of_grown GZ fun b hb e => by injection e; omega))
                        have SE := Lib.hid (Nat.le_trans SZdla.out GZ.size)
                        clear GZ
                        go_wp2_with fail
                        exact ⟨⟨k + 1, A9, c9, pre ++ [y], L5, b5, by omega, by go_num, hc9, IE, OE, ZE, UE, NE, HX, SE⟩, by simp [intOf]; omega⟩
                    · go_simp
                      refine hK _ _ ?_
                      clear hK K
                      refine wpAny_take (i := 6) (v := ?_) rfl (by kernel_rfl) (by kernel_rfl) (by kernel_rfl) (fun _ _ _ h => h) (Or.inl ⟨by rfl, ?_⟩) ?_
                      rotate_left
                      · intro w
                        go_simp
                        with_reducible rfl
                      refine wpAny_take (i := 7) (v := ?_) rfl (by kernel_rfl) (by kernel_rfl) (by kernel_rfl) (fun _ _ _ h => h) (Or.inl ⟨by rfl, ?_⟩) ?_
                      rotate_left
                      · intro w
                        go_simp
                        with_reducible rfl
                      refine wpAny_ready (rs := [1, 8, 10]) (by kernel_rfl) (by simp) ?_
                      refine AllReady.cons rfl (fun K hK => ?_) (AllReady.cons rfl (fun K hK => ?_) (AllReady.cons rfl (fun K hK => ?_) AllReady.nil))
                      · go_simp
                        refine hK _ _ ?_
                        clear hK K
                        refine wpAny_ready (rs := [8, 10]) (by kernel_rfl) (by simp) ?_
                        refine AllReady.cons rfl (fun K hK => ?_) (AllReady.cons rfl (fun K hK => ?_) AllReady.nil)
                        · go_simp
                          refine hK _ _ ?_
                          clear hK K
                          refine wpAny_ready (rs := [10]) (by kernel_rfl) (by simp) ?_
                          refine AllReady.cons rfl (fun K hK => ?_) AllReady.nil
                          go_simp
                          refine hK _ _ ?_
                          clear hK K
                          have bl := (Below.refl wvd.heap.size wvd).alloc (Nat.le_refl _) (.cells #[.slice B m d] 29)
                          have rwz := Ro.new wvd 29 [.slice B m d]
                          obtain ⟨wvdl, hwdl⟩ : ∃ x, wvd.alloc (.cells #[.slice B m d] 29) = x := ⟨_, rfl⟩
                          have rwz2 : Ro wvdl wvd.heap.size 29 [.slice B m d] := by rw [← hwdl]; exact rwz
                          have sl : wvdl.heap.size = wvd.heap.size + 1 := by rw [← hwdl, World.size_alloc]
                          rw [hwdl] at bl ⊢
                          have Idl := Lib.hid (Id.out.later bl)
                          have Ndl := Lib.hid (Nd.out.later bsR_mono bl)
                          have Odl := Lib.hid (Od.out.keep (Kept.of_below bl))
                          have Zdl := Lib.hid (Zd.out.keep (w2 := wvdl) fun g' hg' => by
                            injection hg' with hg'
                            injection hg' with hg'
                            subst hg'
                            exact ⟨Od.out.cell.2.2, bl.block g Od.out.cell.2.2⟩)
                          have Udl := Lib.hid (Ud.out.keep outR_mono (Kept.of_below bl))
                          have SZdl := Lib.hid (Nat.le_trans SZd.out bl.size)
                          have RWdl := Lib.hid rwz2.whole
                          have ELdl : Hid (Each 1 (BsR wvdl fun b => m3 ≤ b ∧ some b ≠ Value.ownBlock (.slice Aw k cw) ∧ b < wvdl.heap.size) [.slice B m d] [y]) := Lib.hid (Each.one rfl ⟨B, m, d, rfl, hmd, by omega, (BBd.out.weak (Q := fun b => m3 ≤ b ∧ some b ≠ Value.ownBlock (.slice Aw k cw) ∧ b < wvdl.heap.size) fun b hb hl => ⟨hb.1, hb.2, by omega⟩).keep (Kept.of_below bl)⟩)
                          clear rwz rwz2 sl bl hwdl
                          refine wpAny_ready (rs := [11]) (by kernel_rfl) (by simp) ?_
                          refine AllReady.cons rfl (fun K hK => ?_) AllReady.nil
                          refine step_wp rfl (wp_appRw (v := .slice Aw k cw) elemB bsR_mono rfl (.tmp 77) (.tmp 79) rfl rfl Ndl.out.own rfl (k := [y]) (N := k + 1) rfl (fun _ => ⟨_, _, rfl, RWdl.out⟩) ELdl.out (fun u hu => by simp at hu; subst hu; rfl) rfl (by omega) (by omega) ?_)
                          intro A9 c9 wvdla hc9 O9 g9 e9
                          show K (Act.put _ (some 80) _) _
                          have hidla : ∀ b, Value.ownBlock (.slice Aw k cw) = some b → m3 ≤ b := fun b hb => Ndl.out.hi b hb
                          have Ndla := Lib.hid (Ndl.out.grown O9 SZdl.out e9)
                          have Idla := Lib.hid (Idl.out.grown rw1 rq g9 (fun b hb => by have := hidla b hb; omega))
                          have Odla := Lib.hid (Odl.out.keep (Kept.of_grown g9 fun b hb e => by have := hidla b e.symm; omega))
                          have Zdla := Lib.hid (Zdl.out.keep (w2 := wvdla) fun g' hg' => by
                            injection hg' with hg'
                            injection hg' with hg'
                            subst hg'
                            exact ⟨Odl.out.cell.2.2, g9.block g Odl.out.cell.2.2 (fun e => by have := hidla g e.symm; omega)⟩)
                          have Udla := Lib.hid (Udl.out.keep outR_mono (Kept.of_grown g9 fun b hb e => by have := hidla b e.symm; omega))
                          have SZdla := Lib.hid (Nat.le_trans SZdl.out g9.size)
                          refine hK _ _ ?_
                          clear hK K
                          clear O9 g9 e9 hidla
                          refine wpAny_take (i := 12) (v := ?_) rfl (by kernel_rfl) (by kernel_rfl) (by kernel_rfl) (fun _ _ _ h => h) (Or.inl ⟨by rfl, ?_⟩) ?_
                          rotate_left
                          · intro w
                            go_simp
                            with_reducible rfl
                          refine wpAny_take (i := 13) (v := ?_) rfl (by kernel_rfl) (by kernel_rfl) (by kernel_rfl) (fun _ _ _ h => h) (Or.inl ⟨by rfl, ?_⟩) ?_
                          rotate_left
                          · intro w
                            go_simp
                            with_reducible rfl
                          refine wpAny_ready (rs := [14]) (by kernel_rfl) (by simp) ?_
                          refine AllReady.cons rfl (fun K hK => ?_) AllReady.nil
                          have cz := Odla.out.cell.1
                          have fz := Odla.out.cell.2.1 (j * 36 + 35)
                          go_simp
                          refine hK _ _ ?_
                          clear hK K
                          clear cz fz
                          refine wpAny_done (by kernel_rfl) ?_ _
                          have GZ := gr_set wvdla g (j * 36 + 35) (.slice A9 (k + 1) c9)
                          have IE := Lib.hid (Idla.out.grown rw1 rq GZ (fun b e => by injection e; omega))
                          have NE := Lib.hid (Ndla.out.far bsR_mono GZ gm3 (by omega))
                          have OE := Lib.hid (Odla.out.set A9 (k + 1) c9)
                          have ZE := Lib.hid (Zdla.out.set (v := .slice A9 (k + 1) c9))
                          have UE := Lib.hid (Udla.out.keep outR_mono (Kept.of_grown GZ fun b hb e => by injection e; omega))
                          have SE := Lib.hid (Nat.le_trans SZdla.out GZ.size)
                          clear GZ
                          go_wp2_with fail
                          exact ⟨⟨k + 1, A9, c9, pre ++ [y], L5, b5, by omega, by go_num, hc9, IE, OE, ZE, UE, NE, HX, SE⟩, by simp [intOf]; omega⟩
                        · go_simp
                          refine hK _ _ ?_
                          clear hK K
                          have bl := (Below.refl wvd.heap.size wvd).alloc (Nat.le_refl _) (.cells #[.slice B m d] 29)
                          have rwz := Ro.new wvd 29 [.slice B m d]
                          obtain ⟨wvdl, hwdl⟩ : ∃ x, wvd.alloc (.cells #[.slice B m d] 29) = x := ⟨_, rfl⟩
                          have rwz2 : Ro wvdl wvd.heap.size 29 [.slice B m d] := by rw [← hwdl]; exact rwz
                          have sl : wvdl.heap.size = wvd.heap.size + 1 := by rw [← hwdl, World.size_alloc]
                          rw [hwdl] at bl ⊢
                          have Idl := Lib.hid (Id.out.later bl)
                          have Ndl := Lib.hid (Nd.out.later bsR_mono bl)
                          have Odl := Lib.hid (Od.out.keep (Kept.of_below bl))
                          have Zdl := Lib.hid (Zd.out.keep (w2 := wvdl) fun g' hg' => by
                            injection hg' with hg'
                            injection hg' with hg'
                            subst hg'
                            exact ⟨Od.out.cell.2.2, bl.block g Od.out.cell.2.2⟩)
                          have Udl := Lib.hid (Ud.out.keep outR_mono (Kept.of_below bl))
                          have SZdl := Lib.hid (Nat.le_trans SZd.out bl.size)
                          have RWdl := Lib.hid rwz2.whole
                          have ELdl : Hid (Each 1 (BsR wvdl fun b => m3 ≤ b ∧ some b ≠ Value.ownBlock (.slice Aw k cw) ∧ b < wvdl.heap.size) [.slice B m d] [y]) := Lib.hid (Each.one rfl ⟨B, m, d, rfl, hmd, by omega, (BBd.out.weak (Q := fun b => m3 ≤ b ∧ some b ≠ Value.ownBlock (.slice Aw k cw) ∧ b < wvdl.heap.size) fun b hb hl => ⟨hb.1, hb.2, by omega⟩).keep (Kept.of_below bl)⟩)
                          clear cwd
                          clear rwz rwz2 sl bl hwdl
                          have cwdl := Odl.out.cell.1
                          refine wpAny_ready (rs := [8]) (by kernel_rfl) (by simp) ?_
                          refine AllReady.cons rfl (fun K hK => ?_) AllReady.nil
                          go_simp
                          refine hK _ _ ?_
                          clear hK K
                          refine wpAny_ready (rs := [11]) (by kernel_rfl) (by simp) ?_
                          refine AllReady.cons rfl (fun K hK => ?_) AllReady.nil
                          refine step_wp rfl (wp_appRw (v := .slice Aw k cw) elemB bsR_mono rfl (.tmp 77) (.tmp 79) rfl rfl Ndl.out.own rfl (k := [y]) (N := k + 1) rfl (fun _ => ⟨_, _, rfl, RWdl.out⟩) ELdl.out (fun u hu => by simp at hu; subst hu; rfl) rfl (by omega) (by omega) ?_)
                          intro A9 c9 wvdla hc9 O9 g9 e9
                          show K (Act.put _ (some 80) _) _
                          have hidla : ∀ b, Value.ownBlock (.slice Aw k cw) = some b → m3 ≤ b := fun b hb => Ndl.out.hi b hb
                          have Ndla := Lib.hid (Ndl.out.grown O9 SZdl.out e9)
                          have Idla := Lib.hid (Idl.out.grown rw1 rq g9 (fun b hb => by have := hidla b hb; omega))
                          have Odla := Lib.hid (Odl.out.keep (Kept.of_grown g9 fun b hb e => by have := hidla b e.symm; omega))
                          have Zdla := Lib.hid (Zdl.out.keep (w2 := wvdla) fun g' hg' => by
                            injection hg' with hg'
                            injection hg' with hg'
                            subst hg'
                            exact ⟨Odl.out.cell.2.2, g9.block g Odl.out.cell.2.2 (fun e => by have := hidla g e.symm; omega)⟩)
                          have Udla := Lib.hid (Udl.out.keep outR_mono (Kept.of_grown g9 fun b hb e => by have := hidla b e.symm; omega))
                          have SZdla := Lib.hid (Nat.le_trans SZdl.out g9.size)
                          refine hK _ _ ?_
                          clear hK K
                          clear O9 g9 e9 hidla
                          refine wpAny_take (i := 12) (v := ?_) rfl (by kernel_rfl) (by kernel_rfl) (by kernel_rfl) (fun _ _ _ h => h) (Or.inl ⟨by rfl, ?_⟩) ?_
                          rotate_left
                          · intro w
                            go_simp
                            with_reducible rfl
                          refine wpAny_take (i := 13) (v := ?_) rfl (by kernel_rfl) (by kernel_rfl) (by kernel_rfl) (fun _ _ _ h => h) (Or.inl ⟨by rfl, ?_⟩) ?_
                          rotate_left
                          · intro w
                            go_simp
                            with_reducible rfl
                          refine wpAny_ready (rs := [14]) (by kernel_rfl) (by simp) ?_
                          refine AllReady.cons rfl (fun K hK => ?_) AllReady.nil
                          have cz := Odla.out.cell.1
                          have fz := Odla.out.cell.2.1 (j * 36 + 35)
                          go_simp
                          refine hK _ _ ?_
                          clear hK K
                          clear cz fz
                          refine wpAny_done (by kernel_rfl) ?_ _
                          have GZ := gr_set wvdla g (j * 36 + 35) (.slice A9 (k + 1) c9)
                          have IE := Lib.hid (Idla.out.grown rw1 rq GZ (fun b e => by injection e; omega))
                          have NE := Lib.hid (Ndla.out.far bsR_mono GZ gm3 (by omega))
                          have OE := Lib.hid (Odla.out.set A9 (k + 1) c9)
                          have ZE := Lib.hid (Zdla.out.set (v := .slice A9 (k + 1) c9))
                          have UE := Lib.hid (Udla.out.keep outR_mono (Kept.of_grown GZ fun b hb e => by injection e; omega))
                          have SE := Lib.hid (Nat.le_trans SZdla.out GZ.size)
                          clear GZ
                          go_wp2_with fail
                          exact ⟨⟨k + 1, A9, c9, pre ++ [y], L5, b5, by omega, by go_num, hc9, IE, OE, ZE, UE, NE, HX, SE⟩, by simp [intOf]; omega⟩
                      · go_simp
                        refine hK _ _ ?_
                        clear hK K
                        refine wpAny_ready (rs := [1, 10]) (by kernel_rfl) (by simp) ?_
                        refine AllReady.cons rfl (fun K hK => ?_) (AllReady.cons rfl (fun K hK => ?_) AllReady.nil)
                        · go_simp
                          refine hK _ _ ?_
                          clear hK K
                          refine wpAny_ready (rs := [10]) (by kernel_rfl) (by simp) ?_
                          refine AllReady.cons rfl (fun K hK => ?_) AllReady.nil
                          go_simp
                          refine hK _ _ ?_
                          clear hK K
                          have bl := (Below.refl wvd.heap.size wvd).alloc (Nat.le_refl _) (.cells #[.slice B m d] 29)
                          have rwz := Ro.new wvd 29 [.slice B m d]
                          obtain ⟨wvdl, hwdl⟩ : ∃ x, wvd.alloc (.cells #[.slice B m d] 29) = x := ⟨_, rfl⟩
                          have rwz2 : Ro wvdl wvd.heap.size 29 [.slice B m d] := by rw [← hwdl]; exact rwz
                          have sl : wvdl.heap.size = wvd.heap.size + 1 := by rw [← hwdl, World.size_alloc]
                          rw [hwdl] at bl ⊢
                          have Idl := Lib.hid (Id.out.later bl)
                          have Ndl := Lib.hid (Nd.out.later bsR_mono bl)
                          have Odl := Lib.hid (Od.out.keep (Kept.of_below bl))
                          have Zdl := Lib.hid (Zd.out.keep (w2 := wvdl) fun g' hg' => by
                            injection hg' with hg'
                            injection hg' with hg'
                            subst hg'
                            exact ⟨Od.out.cell.2.2, bl.block g Od.out.cell.2.2⟩)
                          have Udl := Lib.hid (Ud.out.keep outR_mono (Kept.of_below bl))
                          have SZdl := Lib.hid (Nat.le_trans SZd.out bl.size)
                          have RWdl := Lib.hid rwz2.whole
                          have ELdl : Hid (Each 1 (BsR wvdl fun b => m3 ≤ b ∧ some b ≠ Value.ownBlock (.slice Aw k cw) ∧ b < wvdl.heap.size) [.slice B m d] [y]) := Lib.hid (Each.one rfl ⟨B, m, d, rfl, hmd, by omega, (BBd.out.weak (Q := fun b => m3 ≤ b ∧ some b ≠ Value.ownBlock (.slice Aw k cw) ∧ b < wvdl.heap.size) fun b hb hl => ⟨hb.1, hb.2, by omega⟩).keep (Kept.of_below bl)⟩)
                          clear rwz rwz2 sl bl hwdl
                          refine wpAny_ready (rs := [11]) (by kernel_rfl) (by simp) ?_
                          refine AllReady.cons rfl (fun K hK => ?_) AllReady.nil
                          refine step_wp rfl (wp_appRw (v := .slice Aw k cw) elemB bsR_mono rfl (.tmp 77) (.tmp 79) rfl rfl Ndl.out.own rfl (k := [y]) (N := k + 1) rfl (fun _ => ⟨_, _, rfl, RWdl.out⟩) ELdl.out (fun u hu => by simp at hu; subst hu; rfl) rfl (by omega) (by omega) ?_)
                          intro A9 c9 wvdla hc9 O9 g9 e9
                          show K (Act.put _ (some 80) _) _
                          have hidla : ∀ b, Value.ownBlock (.slice Aw k cw) = some b → m3 ≤ b := fun b hb => Ndl.out.hi b hb
                          have Ndla := Lib.hid (Ndl.out.grown O9 SZdl.out e9)
                          have Idla := Lib.hid (Idl.out.grown rw1 rq g9 (fun b hb => by have := hidla b hb; omega))
                          have Odla := Lib.hid (Odl.out.keep (Kept.of_grown g9 fun b hb e => by have := hidla b e.symm; omega))
                          have Zdla := Lib.hid (Zdl.out.keep (w2 := wvdla) fun g' hg' => by
                            injection hg' with hg'
                            injection hg' with hg'
                            subst hg'
                            exact ⟨Odl.out.cell.2.2, g9.block g Odl.out.cell.2.2 (fun e => by have := hidla g e.symm; omega)⟩)
                          have Udla := Lib.hid (Udl.out.keep outR_mono (Kept.of_grown g9 fun b hb e => by have := hidla b e.symm; omega))
                          have SZdla := Lib.hid (Nat.le_trans SZdl.out g9.size)
                          refine hK _ _ ?_
                          clear hK K
                          clear O9 g9 e9 hidla
                          refine wpAny_take (i := 12) (v := ?_) rfl (by kernel_rfl) (by kernel_rfl) (by kernel_rfl) (fun _ _ _ h => h) (Or.inl ⟨by rfl, ?_⟩) ?_
                          rotate_left
                          · intro w
                            go_simp
                            with_reducible rfl
                          refine wpAny_take (i := 13) (v := ?_) rfl (by kernel_rfl) (by kernel_rfl) (by kernel_rfl) (fun _ _ _ h => h) (Or.inl ⟨by rfl, ?_⟩) ?_
                          rotate_left
                          · intro w
                            go_simp
                            with_reducible rfl
                          refine wpAny_ready (rs := [14]) (by kernel_rfl) (by simp) ?_
                          refine AllReady.cons rfl (fun K hK => ?_) AllReady.nil
                          have cz := Odla.out.cell.1
                          have fz := Odla.out.cell.2.1 (j * 36 + 35)
                          go_simp
                          refine hK _ _ ?_
                          clear hK K
                          clear cz fz
                          refine wpAny_done (by kernel_rfl) ?_ _
                          have GZ := gr_set wvdla g (j * 36 + 35) (.slice A9 (k + 1) c9)
                          have IE := Lib.hid (Idla.out.grown rw1 rq GZ (fun b e => by injection e; omega))
                          have NE := Lib.hid (Ndla.out.far bsR_mono GZ gm3 (by omega))
                          have OE := Lib.hid (Odla.out.set A9 (k + 1) c9)
                          have ZE := Lib.hid (Zdla.out.set (v := .slice A9 (k + 1) c9))
                          have UE := Lib.hid (Udla.out.keep outR_mono (Kept.of_grown GZ fun b hb e => by injection e; omega))
                          have SE := Lib.hid (Nat.le_trans SZdla.out GZ.size)
                          clear GZ
                          go_wp2_with fail
                          exact ⟨⟨k + 1, A9, c9, pre ++ [y], L5, b5, by omega, by go_num, hc9, IE, OE, ZE, UE, NE, HX, SE⟩, by simp [intOf]; omega⟩
                        · go_simp
                          refine hK _ _ ?_
                          clear hK K
                          have bl := (Below.refl wvd.heap.size wvd).alloc (Nat.le_refl _) (.cells #[.slice B m d] 29)
                          have rwz := Ro.new wvd 29 [.slice B m d]
                          obtain ⟨wvdl, hwdl⟩ : ∃ x, wvd.alloc (.cells #[.slice B m d] 29) = x := ⟨_, rfl⟩
                          have rwz2 : Ro wvdl wvd.heap.size 29 [.slice B m d] := by rw [← hwdl]; exact rwz
                          have sl : wvdl.heap.size = wvd.heap.size + 1 := by rw [← hwdl, World.size_alloc]
                          rw [hwdl] at bl ⊢
                          have Idl := Lib.hid (Id.out.later bl)
                          have Ndl := Lib.hid (Nd.out.later bsR_mono bl)
                          have Odl := Lib.hid (Od.out.keep (Kept.of_below bl))
                          have Zdl := Lib.hid (Zd.out.keep (w2 := wvdl) fun g' hg' => by
                            injection hg' with hg'
                            injection hg' with hg'
                            subst hg'
                            exact ⟨Od.out.cell.2.2, bl.block g Od.out.cell.2.2⟩)
                          have Udl := Lib.hid (Ud.out.keep outR_mono (Kept.of_below bl))
                          have SZdl := Lib.hid (Nat.le_trans SZd.out bl.size)
                          have RWdl := Lib.hid rwz2.whole
                          have ELdl : Hid (Each 1 (BsR wvdl fun b => m3 ≤ b ∧ some b ≠ Value.ownBlock (.slice Aw k cw) ∧ b < wvdl.heap.size) [.slice B m d] [y]) := Lib.hid (Each.one rfl ⟨B, m, d, rfl, hmd, by omega, (BBd.out.weak (Q := fun b => m3 ≤ b ∧ some b ≠ Value.ownBlock (.slice Aw k cw) ∧ b < wvdl.heap.size) fun b hb hl => ⟨hb.1, hb.2, by omega⟩).keep (Kept.of_below bl)⟩)
                          clear cqd
                          clear rwz rwz2 sl bl hwdl
                          have cqdl := Idl.out.q.cell (k := 1) (v := .slice (some ⟨g, 0, none⟩) ni ci) rfl
                          refine wpAny_ready (rs := [1, 11]) (by kernel_rfl) (by simp) ?_
                          refine AllReady.cons rfl (fun K hK => ?_) (AllReady.cons rfl (fun K hK => ?_) AllReady.nil)
                          · go_simp
                            refine hK _ _ ?_
                            clear hK K
                            refine wpAny_ready (rs := [11]) (by kernel_rfl) (by simp) ?_
                            refine AllReady.cons rfl (fun K hK => ?_) AllReady.nil
                            refine step_wp rfl (wp_appRw (v := .slice Aw k cw) elemB bsR_mono rfl (.tmp 77) (.tmp 79) rfl rfl Ndl.out.own rfl (k := [y]) (N := k + 1) rfl (fun _ => ⟨_, _, rfl, RWdl.out⟩) ELdl.out (fun u hu => by simp at hu; subst hu; rfl) rfl (by omega) (by omega) ?_)
                            intro A9 c9 wvdla hc9 O9 g9 e9
                            show K (Act.put _ (some 80) _) _
                            have hidla : ∀ b, Value.ownBlock (.slice Aw k cw) = some b → m3 ≤ b := fun b hb => Ndl.out.hi b hb
                            have Ndla := Lib.hid (Ndl.out.grown O9 SZdl.out e9)
                            have Idla := Lib.hid (Idl.out.grown rw1 rq g9 (fun b hb => by have := hidla b hb; omega))
                            have Odla := Lib.hid (Odl.out.keep (Kept.of_grown g9 fun b hb e => by have := hidla b e.symm; omega))
                            have Zdla := Lib.hid (Zdl.out.keep (w2 := wvdla) fun g' hg' => by
                              injection hg' with hg'
                              injection hg' with hg'
                              subst hg'
                              exact ⟨Odl.out.cell.2.2, g9.block g Odl.out.cell.2.2 (fun e => by have := hidla g e.symm; omega)⟩)
                            have Udla := Lib.hid (Udl.out.keep outR_mono (Kept.of_grown g9 fun b hb e => by have := hidla b e.symm; omega))
                            have SZdla := Lib.hid (Nat.le_trans SZdl.out g9.size)
                            refine hK _ _ ?_
                            clear hK K
                            clear O9 g9 e9 hidla
                            refine wpAny_take (i := 12) (v := ?_) rfl (by kernel_rfl) (by kernel_rfl) (by kernel_rfl) (fun _ _ _ h => h) (Or.inl ⟨by rfl, ?_⟩) ?_
                            rotate_left
                            · intro w
                              go_simp
                              with_reducible rfl
                            refine wpAny_take (i := 13) (v := ?_) rfl (by kernel_rfl) (by kernel_rfl) (by kernel_rfl) (fun _ _ _ h => h) (Or.inl ⟨by rfl, ?_⟩) ?_
                            rotate_left
                            · intro w
                              go_simp
                              with_reducible rfl
                            refine wpAny_ready (rs := [14]) (by kernel_rfl) (by simp) ?_
                            refine AllReady.cons rfl (fun K hK => ?_) AllReady.nil
                            have cz := Odla.out.cell.1
                            have fz := Odla.out.cell.2.1 (j * 36 + 35)
                            go_simp
                            refine hK _ _ ?_
                            clear hK K
                            clear cz fz
                            refine wpAny_done (by kernel_rfl) ?_ _
                            have GZ := gr_set wvdla g (j * 36 + 35) (.slice A9 (k + 1) c9)
                            have IE := Lib.hid (Idla.out.grown rw1 rq GZ (fun b e => by injection e; omega))
                            have NE := Lib.hid (Ndla.out.far bsR_mono GZ gm3 (by omega))
                            have OE := Lib.hid (Odla.out.set A9 (k + 1) c9)
                            have ZE := Lib.hid (Zdla.out.set (v := .slice A9 (k + 1) c9))
                            have UE := Lib.hid (Udla.out.keep outR_mono (Kept.of_grown GZ fun b hb e => by injection e; omega))
                            have SE := Lib.hid (Nat.le_trans SZdla.out GZ.size)
                            clear GZ
                            go_wp2_with fail
                            exact ⟨⟨k + 1, A9, c9, pre ++ [y], L5, b5, by omega, by go_num, hc9, IE, OE, ZE, UE, NE, HX, SE⟩, by simp [intOf]; omega⟩
                          · refine step_wp rfl (wp_appRw (v := .slice Aw k cw) elemB bsR_mono rfl (.tmp 77) (.tmp 79) rfl rfl Ndl.out.own rfl (k := [y]) (N := k + 1) rfl (fun _ => ⟨_, _, rfl, RWdl.out⟩) ELdl.out (fun u hu => by simp at hu; subst hu; rfl) rfl (by omega) (by omega) ?_)
                            intro A9 c9 wvdla hc9 O9 g9 e9
                            show K (Act.put _ (some 80) _) _
                            have hidla : ∀ b, Value.ownBlock (.slice Aw k cw) = some b → m3 ≤ b := fun b hb => Ndl.out.hi b hb
                            have Ndla := Lib.hid (Ndl.out.grown O9 SZdl.out e9)
                            have Idla := Lib.hid (Idl.out.grown rw1 rq g9 (fun b hb => by have := hidla b hb; omega))
                            have Odla := Lib.hid (Odl.out.keep (Kept.of_grown g9 fun b hb e => by have := hidla b e.symm; omega))
                            have Zdla := Lib.hid (Zdl.out.keep (w2 := wvdla) fun g' hg' => by
                              injection hg' with hg'
                              injection hg' with hg'
                              subst hg'
                              exact ⟨Odl.out.cell.2.2, g9.block g Odl.out.cell.2.2 (fun e => by have := hidla g e.symm; omega)⟩)
                            have Udla := Lib.hid (Udl.out.keep outR_mono (Kept.of_grown g9 fun b hb e => by have := hidla b e.symm; omega))
                            have SZdla := Lib.hid (Nat.le_trans SZdl.out g9.size)
                            refine hK _ _ ?_
                            clear hK K
                            clear cqdl
                            clear O9 g9 e9 hidla
                            have cqdla := Idla.out.q.cell (k := 1) (v := .slice (some ⟨g, 0, none⟩) ni ci) rfl
                            refine wpAny_ready (rs := [1]) (by kernel_rfl) (by simp) ?_
                            refine AllReady.cons rfl (fun K hK => ?_) AllReady.nil
                            go_simp
                            refine hK _ _ ?_
                            clear hK K
                            refine wpAny_take (i := 12) (v := ?_) rfl (by kernel_rfl) (by kernel_rfl) (by kernel_rfl) (fun _ _ _ h => h) (Or.inl ⟨by rfl, ?_⟩) ?_
                            rotate_left
                            · intro w
                              go_simp
                              with_reducible rfl
                            refine wpAny_take (i := 13) (v := ?_) rfl (by kernel_rfl) (by kernel_rfl) (by kernel_rfl) (fun _ _ _ h => h) (Or.inl ⟨by rfl, ?_⟩) ?_
                            rotate_left
                            · intro w
                              go_simp
                              with_reducible rfl
                            refine wpAny_ready (rs := [14]) (by kernel_rfl) (by simp) ?_
                            refine AllReady.cons rfl (fun K hK => ?_) AllReady.nil
                            have cz := Odla.out.cell.1
                            have fz := Odla.out.cell.2.1 (j * 36 + 35)
                            go_simp
                            refine hK _ _ ?_
                            clear hK K
                            clear cz fz
                            refine wpAny_done (by kernel_rfl) ?_ _
                            have GZ := gr_set wvdla g (j * 36 + 35) (.slice A9 (k + 1) c9)
                            have IE := Lib.hid (Idla.out.grown rw1 rq GZ (fun b e => by injection e; omega))
                            have NE := Lib.hid (Ndla.out.far bsR_mono GZ gm3 (by omega))
                            have OE := Lib.hid (Odla.out.set A9 (k + 1) c9)
                            have ZE := Lib.hid (Zdla.out.set (v := .slice A9 (k + 1) c9))
                            have UE := Lib.hid (Udla.out.keep outR_mono (Kept.of_grown GZ fun b hb e => by injection e; omega))
                            have SE := Lib.hid (Nat.le_trans SZdla.out GZ.size)
                            clear GZ
                            go_wp2_with fail
                            exact ⟨⟨k + 1, A9, c9, pre ++ [y], L5, b5, by omega, by go_num, hc9, IE, OE, ZE, UE, NE, HX, SE⟩, by simp [intOf]; omega⟩
                      · go_simp
                        refine hK _ _ ?_
                        clear hK K
                        have bl := (Below.refl wvd.heap.size wvd).alloc (Nat.le_refl _) (.cells #[.slice B m d] 29)
                        have rwz := Ro.new wvd 29 [.slice B m d]
                        obtain ⟨wvdl, hwdl⟩ : ∃ x, wvd.alloc (.cells #[.slice B m d] 29) = x := ⟨_, rfl⟩
                        have rwz2 : Ro wvdl wvd.heap.size 29 [.slice B m d] := by rw [← hwdl]; exact rwz
                        have sl : wvdl.heap.size = wvd.heap.size + 1 := by rw [← hwdl, World.size_alloc]
                        rw [hwdl] at bl ⊢
                        have Idl := Lib.hid (Id.out.later bl)
                        have Ndl := Lib.hid (Nd.out.later bsR_mono bl)
                        have Odl := Lib.hid (Od.out.keep (Kept.of_below bl))
                        have Zdl := Lib.hid (Zd.out.keep (w2 := wvdl) fun g' hg' => by
                          injection hg' with hg'
                          injection hg' with hg'
                          subst hg'
                          exact ⟨Od.out.cell.2.2, bl.block g Od.out.cell.2.2⟩)
                        have Udl := Lib.hid (Ud.out.keep outR_mono (Kept.of_below bl))
                        have SZdl := Lib.hid (Nat.le_trans SZd.out bl.size)
                        have RWdl := Lib.hid rwz2.whole
                        have ELdl : Hid (Each 1 (BsR wvdl fun b => m3 ≤ b ∧ some b ≠ Value.ownBlock (.slice Aw k cw) ∧ b < wvdl.heap.size) [.slice B m d] [y]) := Lib.hid (Each.one rfl ⟨B, m, d, rfl, hmd, by omega, (BBd.out.weak (Q := fun b => m3 ≤ b ∧ some b ≠ Value.ownBlock (.slice Aw k cw) ∧ b < wvdl.heap.size) fun b hb hl => ⟨hb.1, hb.2, by omega⟩).keep (Kept.of_below bl)⟩)
                        clear cqd cwd
                        clear rwz rwz2 sl bl hwdl
                        have cqdl := Idl.out.q.cell (k := 1) (v := .slice (some ⟨g, 0, none⟩) ni ci) rfl
                        have cwdl := Odl.out.cell.1
                        refine wpAny_ready (rs := [1, 8]) (by kernel_rfl) (by simp) ?_
                        refine AllReady.cons rfl (fun K hK => ?_) (AllReady.cons rfl (fun K hK => ?_) AllReady.nil)
                        · go_simp
                          refine hK _ _ ?_
                          clear hK K
                          refine wpAny_ready (rs := [8]) (by kernel_rfl) (by simp) ?_
                          refine AllReady.cons rfl (fun K hK => ?_) AllReady.nil
                          go_simp
                          refine hK _ _ ?_
                          clear hK K
                          refine wpAny_ready (rs := [11]) (by kernel_rfl) (by simp) ?_
                          refine AllReady.cons rfl (fun K hK => ?_) AllReady.nil
                          refine step_wp rfl (wp_appRw (v := .slice Aw k cw) elemB bsR_mono rfl (.tmp 77) (.tmp 79) rfl rfl Ndl.out.own rfl (k := [y]) (N := k + 1) rfl (fun _ => ⟨_, _, rfl, RWdl.out⟩) ELdl.out (fun u hu => by simp at hu; subst hu; rfl) rfl (by omega) (by omega) ?_)
                          intro A9 c9 wvdla hc9 O9 g9 e9
                          show K (Act.put _ (some 80) _) _
                          have hidla : ∀ b, Value.ownBlock (.slice Aw k cw) = some b → m3 ≤ b := fun b hb => Ndl.out.hi b hb
                          have Ndla := Lib.hid (Ndl.out.grown O9 SZdl.out e9)
                          have Idla := Lib.hid (Idl.out.grown rw1 rq g9 (fun b hb => by have := hidla b hb; omega))
                          have Odla := Lib.hid (Odl.out.keep (Kept.of_grown g9 fun b hb e => by have := hidla b e.symm; omega))
                          have Zdla := Lib.hid (Zdl.out.keep (w2 := wvdla) fun g' hg' => by
                            injection hg' with hg'
                            injection hg' with hg'
                            subst hg'
                            exact ⟨Odl.out.cell.2.2, g9.block g Odl.out.cell.2.2 (fun e => by have := hidla g e.symm; omega)⟩)
                          have Udla := Lib.hid (Udl.out.keep outR_mono (Kept.of_grown g9 fun b hb e => by have := hidla b e.symm; omega))
                          have SZdla := Lib.hid (Nat.le_trans SZdl.out g9.size)
                          refine hK _ _ ?_
                          clear hK K
                          clear O9 g9 e9 hidla
                          refine wpAny_take (i := 12) (v := ?_) rfl (by kernel_rfl) (by kernel_rfl) (by kernel_rfl) (fun _ _ _ h => h) (Or.inl ⟨by rfl, ?_⟩) ?_
                          rotate_left
                          · intro w
                            go_simp
                            with_reducible rfl
                          refine wpAny_take (i := 13) (v := ?_) rfl (by kernel_rfl) (by kernel_rfl) (by kernel_rfl) (fun _ _ _ h => h) (Or.inl ⟨by rfl, ?_⟩) ?_
                          rotate_left
                          · intro w
                            go_simp
                            with_reducible rfl
                          refine wpAny_ready (rs := [14]) (by kernel_rfl) (by simp) ?_
                          refine AllReady.cons rfl (fun K hK => ?_) AllReady.nil
                          have cz := Odla.out.cell.1
                          have fz := Odla.out.cell.2.1 (j * 36 + 35)
                          go_simp
                          refine hK _ _ ?_
                          clear hK K
                          clear cz fz
                          refine wpAny_done (by kernel_rfl) ?_ _
                          have GZ := gr_set wvdla g (j * 36 + 35) (.slice A9 (k + 1) c9)
                          have IE := Lib.hid (Idla.out.grown rw1 rq GZ (fun b e => by injection e; omega))
                          have NE := Lib.hid (Ndla.out.far bsR_mono GZ gm3 (by omega))
                          have OE := Lib.hid (Odla.out.set A9 (k + 1) c9)
                          have ZE := Lib.hid (Zdla.out.set (v := .slice A9 (k + 1) c9))
                          have UE := Lib.hid (Udla.out.keep outR_mono (Kept.of_grown GZ fun b hb e => by injection e; omega))
                          have SE := Lib.hid (Nat.le_trans SZdla.out GZ.size)
                          clear GZ
                          go_wp2_with fail
                          exact ⟨⟨k + 1, A9, c9, pre ++ [y], L5, b5, by omega, by go_num, hc9, IE, OE, ZE, UE, NE, HX, SE⟩, by simp [intOf]; omega⟩
                        · go_simp
                          refine hK _ _ ?_
                          clear hK K
                          refine wpAny_ready (rs := [1, 11]) (by kernel_rfl) (by simp) ?_
                          refine AllReady.cons rfl (fun K hK => ?_) (AllReady.cons rfl (fun K hK => ?_) AllReady.nil)
                          · go_simp
                            refine hK _ _ ?_
                            clear hK K
                            refine wpAny_ready (rs := [11]) (by kernel_rfl) (by simp) ?_
                            refine AllReady.cons rfl (fun K hK => ?_) AllReady.nil
                            refine step_wp rfl (wp_appRw (v := .slice Aw k cw) elemB bsR_mono rfl (.tmp 77) (.tmp 79) rfl rfl Ndl.out.own rfl (k := [y]) (N := k + 1) rfl (fun _ => ⟨_, _, rfl, RWdl.out⟩) ELdl.out (fun u hu => by simp at hu; subst hu; rfl) rfl (by omega) (by omega) ?_)
                            intro A9 c9 wvdla hc9 O9 g9 e9
                            show K (Act.put _ (some 80) _) _
                            have hidla : ∀ b, Value.ownBlock (.slice Aw k cw) = some b → m3 ≤ b := fun b hb => Ndl.out.hi b hb
                            have Ndla := Lib.hid (Ndl.out.grown O9 SZdl.out e9)
                            have Idla := Lib.hid (Idl.out.grown rw1 rq g9 (fun b hb => by have := hidla b hb; omega))
                            have Odla := Lib.hid (Odl.out.keep (Kept.of_grown g9 fun b hb e => by have := hidla b e.symm; omega))
                            have Zdla := Lib.hid (Zdl.out.keep (w2 := wvdla) fun g' hg' => by
                              injection hg' with hg'
                              injection hg' with hg'
                              subst hg'
                              exact ⟨Odl.out.cell.2.2, g9.block g Odl.out.cell.2.2 (fun e => by have := hidla g e.symm; omega)⟩)
                            have Udla := Lib.hid (Udl.out.keep outR_mono (Kept.of_grown g9 fun b hb e => by have := hidla b e.symm; omega))
                            have SZdla := Lib.hid (Nat.le_trans SZdl.out g9.size)
                            refine hK _ _ ?_
                            clear hK K
                            clear O9 g9 e9 hidla
                            refine wpAny_take (i := 12) (v := ?_) rfl (by kernel_rfl) (by kernel_rfl) (by kernel_rfl) (fun _ _ _ h => h) (Or.inl ⟨by rfl, ?_⟩) ?_
                            rotate_left
                            · intro w
                              go_simp
                              with_reducible rfl
                            refine wpAny_take (i := 13) (v := ?_) rfl (by kernel_rfl) (by kernel_rfl) (by kernel_rfl) (fun _ _ _ h => h) (Or.inl ⟨by rfl, ?_⟩) ?_
                            rotate_left
                            · intro w
                              go_simp
                              with_reducible rfl
                            refine wpAny_ready (rs := [14]) (by kernel_rfl) (by simp) ?_
                            refine AllReady.cons rfl (fun K hK => ?_) AllReady.nil
                            have cz := Odla.out.cell.1
                            have fz := Odla.out.cell.2.1 (j * 36 + 35)
                            go_simp
                            refine hK _ _ ?_
                            clear hK K
                            clear cz fz
                            refine wpAny_done (by kernel_rfl) ?_ _
                            have GZ := gr_set wvdla g (j * 36 + 35) (.slice A9 (k + 1) c9)
                            have IE := Lib.hid (Idla.out.grown rw1 rq GZ (fun b e => by injection e; omega))
                            have NE := Lib.hid (Ndla.out.far bsR_mono GZ gm3 (by omega))
                            have OE := Lib.hid (Odla.out.set A9 (k + 1) c9)
                            have ZE := Lib.hid (Zdla.out.set (v := .slice A9 (k + 1) c9))
                            have UE := Lib.hid (Udla.out.keep outR_mono (Kept.of_grown GZ fun b hb e => by injection e; omega))
                            have SE := Lib.hid (Nat.le_trans SZdla.out GZ.size)
                            clear GZ
                            go_wp2_with fail
                            exact ⟨⟨k + 1, A9, c9, pre ++ [y], L5, b5, by omega, by go_num, hc9, IE, OE, ZE, UE, NE, HX, SE⟩, by simp [intOf]; omega⟩
                          · refine step_wp rfl (wp_appRw (v := .slice Aw k cw) elemB bsR_mono rfl (.tmp 77) (.tmp 79) rfl rfl Ndl.out.own rfl (k := [y]) (N := k + 1) rfl (fun _ => ⟨_, _, rfl, RWdl.out⟩) ELdl.out (fun u hu => by simp at hu; subst hu; rfl) rfl (by omega) (by omega) ?_)
                            intro A9 c9 wvdla hc9 O9 g9 e9
                            show K (Act.put _ (some 80) _) _
                            have hidla : ∀ b, Value.ownBlock (.slice Aw k cw) = some b → m3 ≤ b := fun b hb => Ndl.out.hi b hb
                            have Ndla := Lib.hid (Ndl.out.grown O9 SZdl.out e9)
                            have Idla := Lib.hid (Idl.out.grown rw1 rq g9 (fun b hb => by have := hidla b hb; omega))
                            have Odla := Lib.hid (Odl.out.keep (Kept.of_grown g9 fun b hb e => by have := hidla b e.symm; omega))
                            have Zdla := Lib.hid (Zdl.out.keep (w2 := wvdla) fun g' hg' => by
                              injection hg' with hg'
                              injection hg' with hg'
                              subst hg'
                              exact ⟨Odl.out.cell.2.2, g9.block g Odl.out.cell.2.2 (fun e => by have := hidla g e.symm; omega)⟩)
                            have Udla := Lib.hid (Udl.out.keep outR_mono (Kept.of_grown g9 fun b hb e => by have := hidla b e.symm; omega))
                            have SZdla := Lib.hid (Nat.le_trans SZdl.out g9.size)
                            refine hK _ _ ?_
                            clear hK K
                            clear cqdl
                            clear O9 g9 e9 hidla
                            have cqdla := Idla.out.q.cell (k := 1) (v := .slice (some ⟨g, 0, none⟩) ni ci) rfl
                            refine wpAny_ready (rs := [1]) (by kernel_rfl) (by simp) ?_
                            refine AllReady.cons rfl (fun K hK => ?_) AllReady.nil
                            go_simp
                            refine hK _ _ ?_
                            clear hK K
                            refine wpAny_take (i := 12) (v := ?_) rfl (by kernel_rfl) (by kernel_rfl) (by kernel_rfl) (fun _ _ _ h => h) (Or.inl ⟨by rfl, ?_⟩) ?_
                            rotate_left
                            · intro w
                              go_simp
                              with_reducible rfl
                            refine wpAny_take (i := 13) (v := ?_) rfl (by kernel_rfl) (by kernel_rfl) (by kernel_rfl) (fun _ _ _ h => h) (Or.inl ⟨by rfl, ?_⟩) ?_
                            rotate_left
                            · intro w
                              go_simp
                              with_reducible rfl
                            refine wpAny_ready (rs := [14]) (by kernel_rfl) (by simp) ?_
                            refine AllReady.cons rfl (fun K hK => ?_) AllReady.nil
                            have cz := Odla.out.cell.1
                            have fz := Odla.out.cell.2.1 (j * 36 + 35)
                            go_simp
                            refine hK _ _ ?_
                            clear hK K
                            clear cz fz
                            refine wpAny_done (by kernel_rfl) ?_ _
                            have GZ := gr_set wvdla g (j * 36 + 35) (.slice A9 (k + 1) c9)
                            have IE := Lib.hid (Idla.out.grown rw1 rq GZ (fun b e => by injection e; omega))
                            have NE := Lib.hid (Ndla.out.far bsR_mono GZ gm3 (by omega))
                            have OE := Lib.hid (Odla.out.set A9 (k + 1) c9)
                            have ZE := Lib.hid (Zdla.out.set (v := .slice A9 (k + 1) c9))
                            have UE := Lib.hid (Udla.out.keep outR_mono (Kept.of_grown GZ fun b hb e => by injection e; omega))
                            have SE := Lib.hid (Nat.le_trans SZdla.out GZ.size)
                            clear GZ
                            go_wp2_with fail
                            exact ⟨⟨k + 1, A9, c9, pre ++ [y], L5, b5, by omega, by go_num, hc9, IE, OE, ZE, UE, NE, HX, SE⟩, by simp [intOf]; omega⟩
                    · go_simp
                      refine hK _ _ ?_
                      clear hK K
                      have bl := (Below.refl wvd.heap.size wvd).alloc (Nat.le_refl _) (.cells #[.slice B m d] 29)
                      have rwz := Ro.new wvd 29 [.slice B m d]
                      obtain ⟨wvdl, hwdl⟩ : ∃ x, wvd.alloc (.cells #[.slice B m d] 29) = x := ⟨_, rfl⟩
                      have rwz2 : Ro wvdl wvd.heap.size 29 [.slice B m d] := by rw [← hwdl]; exact rwz
                      have sl : wvdl.heap.size = wvd.heap.size + 1 := by rw [← hwdl, World.size_alloc]
                      rw [hwdl] at bl ⊢
                      have Idl := Lib.hid (Id.out.later bl)
                      have Ndl := Lib.hid (Nd.out.later bsR_mono bl)
                      have Odl := Lib.hid (Od.out.keep (Kept.of_below bl))
                      have Zdl := Lib.hid (Zd.out.keep (w2 := wvdl) fun g' hg' => by
                        injection hg' with hg'
                        injection hg' with hg'
                        subst hg'
                        exact ⟨Od.out.cell.2.2, bl.block g Od.out.cell.2.2⟩)
                      have Udl := Lib.hid (Ud.out.keep outR_mono (Kept.of_below bl))
                      have SZdl := Lib.hid (Nat.le_trans SZd.out bl.size)
                      have RWdl := Lib.hid rwz2.whole
                      have ELdl : Hid (Each 1 (BsR wvdl fun b => m3 ≤ b ∧ some b ≠ Value.ownBlock (.slice Aw k cw) ∧ b < wvdl.heap.size) [.slice B m d] [y]) := Lib.hid (Each.one rfl ⟨B, m, d, rfl, hmd, by omega, (BBd.out.weak (Q := fun b => m3 ≤ b ∧ some b ≠ Value.ownBlock (.slice Aw k cw) ∧ b < wvdl.heap.size) fun b hb hl => ⟨hb.1, hb.2, by omega⟩).keep (Kept.of_below bl)⟩)
                      clear cqd cwd
                      clear rwz rwz2 sl bl hwdl
                      have cqdl := Idl.out.q.cell (k := 1) (v := .slice (some ⟨g, 0, none⟩) ni ci) rfl
                      have cwdl := Odl.out.cell.1
                      refine wpAny_ready (rs := [1, 4]) (by kernel_rfl) (by simp) ?_
                      refine AllReady.cons rfl (fun K hK => ?_) (AllReady.cons rfl (fun K hK => ?_) AllReady.nil)
                      · go_simp
                        refine hK _ _ ?_
                        clear hK K
                        refine wpAny_ready (rs := [4]) (by kernel_rfl) (by simp) ?_
                        refine AllReady.cons rfl (fun K hK => ?_) AllReady.nil
                        go_simp
                        refine hK _ _ ?_
                        clear hK K
                        refine wpAny_take (i := 6) (v := ?_) rfl (by kernel_rfl) (by kernel_rfl) (by kernel_rfl) (fun _ _ _ h => h) (Or.inl ⟨by rfl, ?_⟩) ?_
                        rotate_left
                        · intro w
                          go_simp
                          with_reducible rfl
                        refine wpAny_take (i := 7) (v := ?_) rfl (by kernel_rfl) (by kernel_rfl) (by kernel_rfl) (fun _ _ _ h => h) (Or.inl ⟨by rfl, ?_⟩) ?_
                        rotate_left
                        · intro w
                          go_simp
                          with_reducible rfl
                        refine wpAny_ready (rs := [8]) (by kernel_rfl) (by simp) ?_
                        refine AllReady.cons rfl (fun K hK => ?_) AllReady.nil
                        go_simp
                        refine hK _ _ ?_
                        clear hK K
                        refine wpAny_ready (rs := [11]) (by kernel_rfl) (by simp) ?_
                        refine AllReady.cons rfl (fun K hK => ?_) AllReady.nil
                        refine step_wp rfl (wp_appRw (v := .slice Aw k cw) elemB bsR_mono rfl (.tmp 77) (.tmp 79) rfl rfl Ndl.out.own rfl (k := [y]) (N := k + 1) rfl (fun _ => ⟨_, _, rfl, RWdl.out⟩) ELdl.out (fun u hu => by simp at hu; subst hu; rfl) rfl (by omega) (by omega) ?_)
                        intro A9 c9 wvdla hc9 O9 g9 e9
                        show K (Act.put _ (some 80) _) _
                        have hidla : ∀ b, Value.ownBlock (.slice Aw k cw) = some b → m3 ≤ b := fun b hb => Ndl.out.hi b hb
                        have Ndla := Lib.hid (Ndl.out.grown O9 SZdl.out e9)
                        have Idla := Lib.hid (Idl.out.grown rw1 rq g9 (fun b hb => by have := hidla b hb; omega))
                        have Odla := Lib.hid (Odl.out.keep (Kept.of_grown g9 fun b hb e => by have := hidla b e.symm; omega))
                        have Zdla := Lib.hid (Zdl.out.keep (w2 := wvdla) fun g' hg' => by
                          injection hg' with hg'
                          injection hg' with hg'
                          subst hg'
                          exact ⟨Odl.out.cell.2.2, g9.block g Odl.out.cell.2.2 (fun e => by have := hidla g e.symm; omega)⟩)
                        have Udla := Lib.hid (Udl.out.keep outR_mono (Kept.of_grown g9 fun b hb e => by have := hidla b e.symm; omega))
                        have SZdla := Lib.hid (Nat.le_trans SZdl.out g9.size)
                        refine hK _ _ ?_
                        clear hK K
                        clear O9 g9 e9 hidla
                        refine wpAny_take (i := 12) (v := ?_) rfl (by kernel_rfl) (by kernel_rfl) (by kernel_rfl) (fun _ _ _ h => h) (Or.inl ⟨by rfl, ?_⟩) ?_
                        rotate_left
                        · intro w
                          go_simp
                          with_reducible rfl
                        refine wpAny_take (i := 13) (v := ?_) rfl (by kernel_rfl) (by kernel_rfl) (by kernel_rfl) (fun _ _ _ h => h) (Or.inl ⟨by rfl, ?_⟩) ?_
                        rotate_left
                        · intro w
                          go_simp
                          with_reducible rfl
                        refine wpAny_ready (rs := [14]) (by kernel_rfl) (by simp) ?_
                        refine AllReady.cons rfl (fun K hK => ?_) AllReady.nil
                        have cz := Odla.out.cell.1
                        have fz := Odla.out.cell.2.1 (j * 36 + 35)
                        go_simp
                        refine hK _ _ ?_
                        clear hK K
                        clear cz fz
                        refine wpAny_done (by kernel_rfl) ?_ _
                        have GZ := gr_set wvdla g (j * 36 + 35) (.slice A9 (k + 1) c9)
                        have IE := Lib.hid (Idla.out.grown rw1 rq GZ (fun b e => by injection e; omega))
                        have NE := Lib.hid (Ndla.out.far bsR_mono GZ gm3 (by omega))
                        have OE := Lib.hid (Odla.out.set A9 (k + 1) c9)
                        have ZE := Lib.hid (Zdla.out.set (v := .slice A9 (k + 1) c9))
                        have UE := Lib.hid (Udla.out.keep outR_mono (Kept.of_grown GZ fun b hb e => by injection e; omega))
                        have SE := Lib.hid (Nat.le_trans SZdla.out GZ.size)
                        clear GZ
                        go_wp2_with fail
                        exact ⟨⟨k + 1, A9, c9, pre ++ [y], L5, b5, by omega, by go_num, hc9, IE, OE, ZE, UE, NE, HX, SE⟩, by simp [intOf]; omega⟩
                      · go_simp
                        refine hK _ _ ?_
                        clear hK K
                        refine wpAny_take (i := 6) (v := ?_) rfl (by kernel_rfl) (by kernel_rfl) (by kernel_rfl) (fun _ _ _ h => h) (Or.inl ⟨by rfl, ?_⟩) ?_
                        rotate_left
                        · intro w
                          go_simp
                          with_reducible rfl
                        refine wpAny_take (i := 7) (v := ?_) rfl (by kernel_rfl) (by kernel_rfl) (by kernel_rfl) (fun _ _ _ h => h) (Or.inl ⟨by rfl, ?_⟩) ?_
                        rotate_left
                        · intro w
                          go_simp
                          with_reducible rfl
                        refine wpAny_ready (rs := [1, 8]) (by kernel_rfl) (by simp) ?_
                        refine AllReady.cons rfl (fun K hK => ?_) (AllReady.cons rfl (fun K hK => ?_) AllReady.nil)
                        · go_simp
                          refine hK _ _ ?_
                          clear hK K
                          refine wpAny_ready (rs := [8]) (by kernel_rfl) (by simp) ?_
                          refine AllReady.cons rfl (fun K hK => ?_) AllReady.nil
                          go_simp
                          refine hK _ _ ?_
                          clear hK K
                          refine wpAny_ready (rs := [11]) (by kernel_rfl) (by simp) ?_
                          refine AllReady.cons rfl (fun K hK => ?_) AllReady.nil
                          refine step_wp rfl (wp_appRw (v := .slice Aw k cw) elemB bsR_mono rfl (.tmp 77) (.tmp 79) rfl rfl Ndl.out.own rfl (k := [y]) (N := k + 1) rfl (fun _ => ⟨_, _, rfl, RWdl.out⟩) ELdl.out (fun u hu => by simp at hu; subst hu; rfl) rfl (by omega) (by omega) ?_)
                          intro A9 c9 wvdla hc9 O9 g9 e9
                          show K (Act.put _ (some 80) _) _
                          have hidla : ∀ b, Value.ownBlock (.slice Aw k cw) = some b → m3 ≤ b := fun b hb => Ndl.out.hi b hb
                          have Ndla := Lib.hid (Ndl.out.grown O9 SZdl.out e9)
                          have Idla := Lib.hid (Idl.out.grown rw1 rq g9 (fun b hb => by have := hidla b hb; omega))
                          have Odla := Lib.hid (Odl.out.keep (Kept.of_grown g9 fun b hb e => by have := hidla b e.symm; omega))
                          have Zdla := Lib.hid (Zdl.out.keep (w2 := wvdla) fun g' hg' => by
                            injection hg' with hg'
                            injection hg' with hg'
                            subst hg'
                            exact ⟨Odl.out.cell.2.2, g9.block g Odl.out.cell.2.2 (fun e => by have := hidla g e.symm; omega)⟩)
                          have Udla := Lib.hid (Udl.out.keep outR_mono (Kept.of_grown g9 fun b hb e => by have := hidla b e.symm; omega))
                          have SZdla := Lib.hid (Nat.le_trans SZdl.out g9.size)
                          refine hK _ _ ?_
                          clear hK K
                          clear O9 g9 e9 hidla
                          refine wpAny_take (i := 12) (v := ?_) rfl (by kernel_rfl) (by kernel_rfl) (by kernel_rfl) (fun _ _ _ h => h) (Or.inl ⟨by rfl, ?_⟩) ?_
                          rotate_left
                          · intro w
                            go_simp
                            with_reducible rfl
                          refine wpAny_take (i := 13) (v := ?_) rfl (by kernel_rfl) (by kernel_rfl) (by kernel_rfl) (fun _ _ _ h => h) (Or.inl ⟨by rfl, ?_⟩) ?_
                          rotate_left
                          · intro w
                            go_simp
                            with_reducible rfl
                          refine wpAny_ready (rs := [14]) (by kernel_rfl) (by simp) ?_
                          refine AllReady.cons rfl (fun K hK => ?_) AllReady.nil
                          have cz := Odla.out.cell.1
                          have fz := Odla.out.cell.2.1 (j * 36 + 35)
                          go_simp
                          refine hK _ _ ?_
                          clear hK K
                          clear cz fz
                          refine wpAny_done (by kernel_rfl) ?_ _
                          have GZ := gr_set wvdla g (j * 36 + 35) (.slice A9 (k + 1) c9)
                          have IE := Lib.hid (Idla.out.grown rw1 rq GZ (fun b e => by injection e; omega))
                          have NE := Lib.hid (Ndla.out.far bsR_mono GZ gm3 (by omega))
                          have OE := Lib.hid (Odla.out.set A9 (k + 1) c9)
                          have ZE := Lib.hid (Zdla.out.set (v := .slice A9 (k + 1) c9))
                          have UE := Lib.hid (Udla.out.keep outR_mono (Kept.of_grown GZ fun b hb e => by injection e; omega))
                          have SE := Lib.hid (Nat.le_trans SZdla.out GZ.size)
                          clear GZ
                          go_wp2_with fail
                          exact ⟨⟨k + 1, A9, c9, pre ++ [y], L5, b5, by omega, by go_num, hc9, IE, OE, ZE, UE, NE, HX, SE⟩, by simp [intOf]; omega⟩
                        · go_simp
                          refine hK _ _ ?_
                          clear hK K
                          refine wpAny_ready (rs := [1, 11]) (by kernel_rfl) (by simp) ?_
                          refine AllReady.cons rfl (fun K hK => ?_) (AllReady.cons rfl (fun K hK => ?_) AllReady.nil)
                          · go_simp
                            refine hK _ _ ?_
                            clear hK K
                            refine wpAny_ready (rs := [11]) (by kernel_rfl) (by simp) ?_
                            refine AllReady.cons rfl (fun K hK => ?_) AllReady.nil
                            refine step_wp rfl (wp_appRw (v := .slice Aw k cw) elemB bsR_mono rfl (.tmp 77) (.tmp 79) rfl rfl Ndl.out.own rfl (k := [y]) (N := k + 1) rfl (fun _ => ⟨_, _, rfl, RWdl.out⟩) ELdl.out (fun u hu => by simp at hu; subst hu; rfl) rfl (by omega) (by omega) ?_)
                            intro A9 c9 wvdla hc9 O9 g9 e9
                            show K (Act.put _ (some 80) _) _
                            have hidla : ∀ b, Value.ownBlock (.slice Aw k cw) = some b → m3 ≤ b := fun b hb => Ndl.out.hi b hb
                            have Ndla := Lib.hid (Ndl.out.grown O9 SZdl.out e9)
                            have Idla := Lib.hid (Idl.out.grown rw1 rq g9 (fun b hb => by have := hidla b hb; omega))
                            have Odla := Lib.hid (Odl.out.keep (Kept.of_grown g9 fun b hb e => by have := hidla b e.symm; omega))
                            have Zdla := Lib.hid (Zdl.out.keep (w2 := wvdla) fun g' hg' => by
                              injection hg' with hg'
                              injection hg' with hg'
                              subst hg'
                              exact ⟨Odl.out.cell.2.2, g9.block g Odl.out.cell.2.2 (fun e => by have := hidla g e.symm; omega)⟩)
                            have Udla := Lib.hid (Udl.out.keep outR_mono (Kept.of_grown g9 fun b hb e => by have := hidla b e.symm; omega))
                            have SZdla := Lib.hid (Nat.le_trans SZdl.out g9.size)
                            refine hK _ _ ?_
                            clear hK K
                            clear O9 g9 e9 hidla
                            refine wpAny_take (i := 12) (v := ?_) rfl (by kernel_rfl) (by kernel_rfl) (by kernel_rfl) (fun _ _ _ h => h) (Or.inl ⟨by rfl, ?_⟩) ?_
                            rotate_left
                            · intro w
                              go_simp
                              with_reducible rfl
                            refine wpAny_take (i := 13) (v := ?_) rfl (by kernel_rfl) (by kernel_rfl) (by kernel_rfl) (fun _ _ _ h => h) (Or.inl ⟨by rfl, ?_⟩) ?_
                            rotate_left
                            · intro w
                              go_simp
                              with_reducible rfl
                            refine wpAny_ready (rs := [14]) (by kernel_rfl) (by simp) ?_
                            refine AllReady.cons rfl (fun K hK => ?_) AllReady.nil
                            have cz := Odla.out.cell.1
                            have fz := Odla.out.cell.2.1 (j * 36 + 35)
                            go_simp
                            refine hK _ _ ?_
                            clear hK K
                            clear cz fz
                            refine wpAny_done (by kernel_rfl) ?_ _
                            have GZ := gr_set wvdla g (j * 36 + 35) (.slice A9 (k + 1) c9)
                            have IE := Lib.hid (Idla.out.grown rw1 rq GZ (fun b e => by injection e; omega))
                            have NE := Lib.hid (Ndla.out.far bsR_mono GZ gm3 (by omega))
                            have OE := Lib.hid (Odla.out.set A9 (k + 1) c9)
                            have ZE := Lib.hid (Zdla.out.set (v := .slice A9 (k + 1) c9))
                            have UE := Lib.hid (Udla.out.keep outR_mono (Kept.of_grown GZ fun b hb e => by injection e; omega))
                            have SE := Lib.hid (Nat.le_trans SZdla.out GZ.size)
                            clear GZ
                            go_wp2_with fail
                            exact ⟨⟨k + 1, A9, c9, pre ++ [y], L5, b5, by omega, by go_num, hc9, IE, OE, ZE, UE, NE, HX, SE⟩, by simp [intOf]; omega⟩
                          · refine step_wp rfl (wp_appRw (v := .slice Aw k cw) elemB bsR_mono rfl (.tmp 77) (.tmp 79) rfl rfl Ndl.out.own rfl (k := [y]) (N := k + 1) rfl (fun _ => ⟨_, _, rfl, RWdl.out⟩) ELdl.out (fun u hu => by simp at hu; subst hu; rfl) rfl (by omega) (by omega) ?_)
                            intro A9 c9 wvdla hc9 O9 g9 e9
                            show K (Act.put _ (some 80) _) _
                            have hidla : ∀ b, Value.ownBlock (.slice Aw k cw) = some b → m3 ≤ b := fun b hb => Ndl.out.hi b hb
                            have Ndla := Lib.hid (Ndl.out.grown O9 SZdl.out e9)
                            have Idla := Lib.hid (Idl.out.grown rw1 rq g9 (fun b hb => by have := hidla b hb; omega))
                            have Odla := Lib.hid (Odl.out.keep (Kept.of_grown g9 fun b hb e => by have := hidla b e.symm; omega))
                            have Zdla := Lib.hid (Zdl.out.keep (w2 := wvdla) fun g' hg' => by
                              injection hg' with hg'
                              injection hg' with hg'
                              subst hg'
                              exact ⟨Odl.out.cell.2.2, g9.block g Odl.out.cell.2.2 (fun e => by have := hidla g e.symm; omega)⟩)
                            have Udla := Lib.hid (Udl.out.keep outR_mono (Kept.of_grown g9 fun b hb e => by have := hidla b e.symm; omega))
                            have SZdla := Lib.hid (Nat.le_trans SZdl.out g9.size)
                            refine hK _ _ ?_
                            clear hK K
                            clear cqdl
                            clear O9 g9 e9 hidla
                            have cqdla := Idla.out.q.cell (k := 1) (v := .slice (some ⟨g, 0, none⟩) ni ci) rfl
                            refine wpAny_ready (rs := [1]) (by kernel_rfl) (by simp) ?_
                            refine AllReady.cons rfl (fun K hK => ?_) AllReady.nil
                            go_simp
                            refine hK _ _ ?_
                            clear hK K
                            refine wpAny_take (i := 12) (v := ?_) rfl (by kernel_rfl) (by kernel_rfl) (by kernel_rfl) (fun _ _ _ h => h) (Or.inl ⟨by rfl, ?_⟩) ?_
                            rotate_left
                            · intro w
                              go_simp
                              with_reducible rfl
                            refine wpAny_take (i := 13) (v := ?_) rfl (by kernel_rfl) (by kernel_rfl) (by kernel_rfl) (fun _ _ _ h => h) (Or.inl ⟨by rfl, ?_⟩) ?_
                            rotate_left
                            · intro w
                              go_simp
                              with_reducible rfl
                            refine wpAny_ready (rs := [14]) (by kernel_rfl) (by simp) ?_
                            refine AllReady.cons rfl (fun K hK => ?_) AllReady.nil
                            have cz := Odla.out.cell.1
                            have fz := Odla.out.cell.2.1 (j * 36 + 35)
                            go_simp
                            refine hK _ _ ?_
                            clear hK K
                            clear cz fz
                            refine wpAny_done (by kernel_rfl) ?_ _
                            have GZ := gr_set wvdla g (j * 36 + 35) (.slice A9 (k + 1) c9)
                            have IE := Lib.hid (Idla.out.grown rw1 rq GZ (fun b e => by injection e; omega))
                            have NE := Lib.hid (Ndla.out.far bsR_mono GZ gm3 (by omega))
                            have OE := Lib.hid (Odla.out.set A9 (k + 1) c9)
                            have ZE := Lib.hid (Zdla.out.set (v := .slice A9 (k + 1) c9))
                            have UE := Lib.hid (Udla.out.keep outR_mono (Kept.of_grown GZ fun b hb e => by injection e; omega))
                            have SE := Lib.hid (Nat.le_trans SZdla.out GZ.size)
                            clear GZ
                            go_wp2_with fail
                            exact ⟨⟨k + 1, A9, c9, pre ++ [y], L5, b5, by omega, by go_num, hc9, IE, OE, ZE, UE, NE, HX, SE⟩, by simp [intOf]; omega⟩
                  · have tx : (decide (k < nj) && !bk) = false := by
                      by_cases hkt : k < nj
                      · have : bk = true := by
                          cases bk with
                          | true => rfl
                          | false => exact absurd ⟨hkt, rfl⟩ hx
                        rw [this, Bool.not_true, Bool.and_false]
                      · rw [decide_eq_false hkt, Bool.false_and]
                    have hkn : bk = false → k = nj := fun h => by
                      by_cases hkt : k < nj
                      · exact absurd ⟨hkt, h⟩ hx
                      · omega
                    have SW : St witP bj Lj pre Lk bk := st_cl (fun b x r h k => ⟨(itemP_eats b x r h k).1, (itemP_eats b x r h k).2.1⟩) HB4.out HS4.out (HS.out.done hkn)
                    have HSL := Lib.hid ((HP.out trivial).step hlt SW)
                    have yb : AllBB pre := (HN.out.rows bsR_mono).all fun V x ⟨_, _, _, _, _, _, b⟩ => b.bs.byt
                    have CL := HO.out.close hkc (by omega) yb ((HN.out.rows bsR_mono).weak bsR_mono fun b hb _ => ⟨by omega, by omega⟩)
                    have wn := witTo_next pre HAT.out
                    rw [hws] at wn
                    rw [← wn] at CL
                    have M12 : Hid (GM lo hi h8 is os (some ⟨g, 0, none⟩) ni Ao no (j + 1) (ws ++ [pre]) wr) := Lib.hid ⟨CL, HZ.out, HOU.out, Nat.le_trans hm38 HSZ.out⟩
                    rw [tx]
                    clear tx hkn hx SW yb CL wn HO HZ HOU HN HS HSZ
                    go_wp2_with fail
                    exact ⟨⟨j + 1, ws ++ [pre], Lk, bk, by omega, by go_num, by rw [List.length_append, hws]; rfl, HI, M12, Lib.hid (fun _ => HSL.out), Lib.hid (fun h => by cases h)⟩, by simp [intOf]; omega⟩
            · have tx : (decide (j < ni) && mk) = false := by
                by_cases hlt : j < ni
                · have : mk = false := by
                    cases mk with
                    | false => rfl
                    | true => exact absurd ⟨hlt, rfl⟩ hx
                  rw [this, Bool.and_false]
                · rw [decide_eq_false hlt, Bool.false_and]
              rw [tx]
              clear tx
              have SW : St (witsQ mk is.length) b3 L3 ws Lj bj := by
                cases mk with
                | true =>
                  have e : j = ni := by
                    by_cases hlt : j < ni
                    · exact absurd ⟨hlt, rfl⟩ hx
                    · omega
                  have h := (HP.out rfl).done (fun _ => e)
                  rw [← LI.out] at h
                  exact st_eq h (by unfold witsQ; rw [if_pos rfl])
                | false =>
                  obtain ⟨e1, e2, e3⟩ := HQ.out rfl
                  subst e2 e3
                  have e4 : ws = [] := List.eq_nil_of_length_eq_zero (by omega)
                  rw [e4]
                  exact st_eq st_pure rfl
              have HSW := Lib.hid SW
              have C4 : Hid (Calls Tryd.prog 39 #[.pointer (some ⟨r, 0, none⟩), .int .i64 4] wr (NumE w r wr 4 Lj bj)) := Lib.hid (rnumber_any (k := 4) HI.out.rd (by decide))
              clear SW hx HP HQ
              go_wp2_with (go_at_call 39; refine C4.out.mono ?_)
              rintro e w12 ⟨lock, L5, b5, rfl, hlk, R12, G12, S12⟩
              have lk32 : lock < 4294967296 := hlk
              have W2 : IntKind.u32.wrap (lock : Int) = (lock : Int) := by rw [IntKind.wrap_u32]; omega
              have SR := st_rest HS2.out HS3.out HSW.out S12
              have HX : Hid ((b5 = false → txP L = some (⟨ver, witTo is ws, os, lock⟩, L5)) ∧ (b5 = true → txP L = none)) := Lib.hid (by
                constructor
                · intro h5
                  rcases SR with ⟨a1, _, a3⟩ | ⟨a1, _⟩
                  · rcases HS1.out with ⟨_, _, c3⟩ | ⟨c1, _⟩
                    · rw [txP_rest c3, HMK.out, a3]; rfl
                    · rw [a1] at c1; cases c1
                  · rw [h5] at a1; cases a1
                · intro h5
                  rcases HS1.out with ⟨_, c2, c3⟩ | ⟨_, c2⟩
                  · rcases SR with ⟨_, a2, _⟩ | ⟨_, a2⟩
                    · rw [h5] at a2; cases a2
                    · rw [txP_rest c3, HMK.out, a2 c2]; rfl
                  · unfold txP; rw [c2 rfl]; rfl)
              have I12 := Lib.hid (HI.out.call rw1 rq R12 G12)
              have M12 := HM.out.far G12 (by omega) l12
              have i13 := I12.out.set rw1 rq 3 (.int .u32 (lock : Int))
              change GC w r q L5 b5 (txV ver Ai ni ci Ao no co lock) _ at i13
              have M13 := M12.far (gr_set w12 q 3 (.int .u32 (lock : Int))) ql l12
              have c3 := I12.out.q.cell (k := 3) (v := .int .u32 0) rfl
              have f3 := I12.out.q.free 3
              obtain ⟨w13, hw13⟩ : ∃ w13, w12.setCell ⟨q, 3, none⟩ (.int .u32 (lock : Int)) = w13 := ⟨_, rfl⟩
              rw [hw13] at i13 M13
              have HW13 := Lib.hid hw13
              obtain ⟨T, hT⟩ : ∃ T, (⟨ver, witTo is ws, os, lock⟩ : TxD) = T := ⟨_, rfl⟩
              have TG : Hid (TxG w13 (fun b => lo ≤ b) T Ai ni ci Ao no co) := Lib.hid (by rw [← hT]; exact ⟨v32, lk32, NC.out, by omega, M13.r.rows, OC.out, by omega, M13.o.weak outR_mono fun b hb _ => by omega⟩)
              have TR := Lib.hid TG.out.r
              have I13 := Lib.hid i13
              rw [hT] at HX
              have HTV : Hid (T.ver = ver ∧ T.lock = lock) := Lib.hid (by rw [← hT]; exact ⟨rfl, rfl⟩)
              clear C4 R12 G12 S12 SR HSW HS1 HS2 HS3 HMK M12 M13 i13 hw13 hT HI HM hlk I12
              go_upto_region 19 with fail
              rw [HW13.out]
              clear c3 f3
              obtain ⟨A0, n0, c0, hbx, hnc0, hn30, hbs0⟩ := I13.out.rd.box
              have HBX := Lib.hid hbx
              have hl0 := hbs0.len
              clear hbx hbs0
              subst hl0
              go_cut [111] from 87 to 111 (fun v wx => v = .bool (decide (getE L ≠ 0)) ∧ Below w13.heap.size w13 wx)
              case first =>
                have c0' := HBX.out.cell (k := 0) (v := .slice A0 L5.length c0) rfl
                have c1' := HBX.out.cell (k := 1) (v := .bool b5) rfl
                cases b5 with
                | true =>
                  have he := (get_none HLL.out (HX.out.2 rfl)).1
                  have HE := Lib.hid (show decide (getE L ≠ 0) = true by rw [he]; rfl)
                  go_quiet (fail)
                  go_wp2_with fail
                  go_meet
                  exact ⟨congrArg Value.bool HE.out.symm, ⟨rfl, rfl, rfl, Nat.le_refl _, fun _ _ => rfl⟩⟩
                | false =>
                  by_cases h5 : 0 < L5.length
                  · have he := (get_rest HLL.out (HX.out.1 rfl) h5).1
                    have HE := Lib.hid (show decide (getE L ≠ 0) = true by rw [he]; rfl)
                    have t1 : decide ((0 : Int) < (L5.length : Int)) = true := decide_eq_true (by omega)
                    have t1n : decide (0 < L5.length) = true := decide_eq_true h5
                    go_quiet (fail)
                    go_wp2_with fail
                    go_meet
                    exact ⟨congrArg Value.bool HE.out.symm, ⟨rfl, rfl, rfl, Nat.le_refl _, fun _ _ => rfl⟩⟩
                  · have e5 : L5 = [] := List.eq_nil_of_length_eq_zero (by omega)
                    subst e5
                    have hx := HX.out.1 rfl
                    have WT : Hid (weigh T ≤ 100000000) := Lib.hid (by have := txP_weigh hx HL0.out.byt; have := HLL.out; omega)
                    have HC0 := Lib.hid c0'
                    have HC1 := Lib.hid c1'
                    clear c0' c1' h5
                    by_cases hmy : May T
                    · have HMY := Lib.hid (decide_eq_true hmy)
                      have EQB := str_dec (putS_byt TR.out.ok) HL0.out.byt
                      obtain ⟨S, hS⟩ : ∃ S, strB (putS T) = S := ⟨_, rfl⟩
                      have HS := Lib.hid hS
                      obtain ⟨Y, hY⟩ : ∃ Y, strB L = Y := ⟨_, rfl⟩
                      have HY := Lib.hid hY
                      rw [hS, hY] at EQB
                      obtain ⟨e, he⟩ : ∃ e, decide (putS T = L) = e := ⟨_, rfl⟩
                      rw [he] at EQB
                      have HE : Hid (decide (getE L ≠ 0) = !e) := Lib.hid (by
                        by_cases hp : putS T = L
                        · have := (get_yes HLL.out hx ⟨hmy, hp⟩).1
                          rw [this, ← he, decide_eq_true hp]
                          rfl
                        · have := (get_not HLL.out hx (fun k => hp k.2)).1
                          rw [this, ← he, decide_eq_false hp]
                          rfl)
                      have HEB := Lib.hid EQB
                      have HLA := Lib.hid (HL0.out.later I13.out.rd.bel)
                      clear hS hY he EQB hx
                      refine wp_region_seg (W := w13) (by kernel_rfl) fun wa ga => ?_
                      refine wpK_seg 0 19 (f := 6) (by kernel_rfl) (fun _ _ _ _ _ h => h) (by kernel_rfl) (by kernel_rfl) (by kernel_rfl) ga ?_
                      apply Exists.intro
                      refine ⟨?_, ?_⟩
                      · intro wg hg
                        simp only [List.drop_succ_cons, List.drop_zero, List.take_succ_cons, List.take_zero]
                        have c0g : ∀ u : After wg, u.w.cell? ⟨r, 0, none⟩ = some (.slice A0 0 c0) := fun u => u.cell (cell_later hg HC0.out)
                        have c1g : ∀ u : After wg, u.w.cell? ⟨r, 1, none⟩ = some (.bool false) := fun u => u.cell (cell_later hg HC1.out)
                        have Pg := Lib.hid (I13.out.q.later hg)
                        have TA : Hid (∀ u : After wg, TxR u.w T Ai ni ci Ao no co) := Lib.hid (fun u => (TR.out.later hg).later u.below)
                        have C1 : Hid (∀ u : After wg, Calls Tryd.prog 20 #[.agg (txV ver Ai ni ci Ao no co lock).toArray] u.w fun e w' => e = .returned (.bool true) ∧ Below u.w.heap.size u.w w') := Lib.hid (fun u => by
                          have h := refMay_any u.w WT.out (TA.out u)
                          rw [HTV.out.1, HTV.out.2, HMY.out] at h
                          exact h)
                        repeat (go_big_quiet_step (fail))
                        go_big_quiet_want
                        refine quiet_load_part (.tmp 5) rfl rfl rowTx (fun w9 h9 => by obtain ⟨u, rfl⟩ := h9; exact (Pg.out.later u.below).whole) rfl ?_
                        simp only [Act.put, List.setIfInBounds_toArray, List.set_cons_succ, List.set_cons_zero]
                        go_big_quiet_on
                        go_big_quiet_step (exact after_call (C1.out _))
                        repeat (go_big_quiet_step (fail))
                        go_big_quiet_want
                        refine quiet_load_part (.tmp 5) rfl rfl rowTx (fun w9 h9 => by obtain ⟨u, rfl⟩ := h9; exact (Pg.out.later u.below).whole) rfl ?_
                        simp only [Act.put, List.setIfInBounds_toArray, List.set_cons_succ, List.set_cons_zero]
                        go_big_quiet_on
                        refine wpQuiet_nil ?_
                        exact rfl
                      refine wpK_seg 21 2 (f := 4) (by kernel_rfl) (fun _ _ _ _ _ h => h) (by kernel_rfl) (by kernel_rfl) (by kernel_rfl) ga ?_
                      apply Exists.intro
                      refine ⟨?_, ?_⟩
                      · intro wg hg
                        simp only [List.drop_succ_cons, List.drop_zero, List.take_succ_cons, List.take_zero]
                        have cvs : ∀ u : After wg, (convert 29 9 (.slice A L.length c)).run Tryd.prog u.w = .ok (.string Y) u.w := fun u => by rw [← HY.out]; exact run_str ((HLA.out.later hg).later u.below)
                        repeat (go_big_quiet_step (fail))
                        refine wpQuiet_nil ?_
                        exact rfl
                      refine wpK_call_want (f := 3) (i := 19) (by kernel_rfl) rfl rfl ga ?_
                      intro wz gb K hK
                      have Cz : Calls Tryd.prog 14 #[.agg (txV ver Ai ni ci Ao no co lock).toArray] wz (GivesB wz (putS T)) := by
                        have h := refPut_any wz WT.out (TR.out.later gb)
                        rw [HTV.out.1, HTV.out.2] at h
                        exact h
                      go_simp
                      with_reducible refine Cz.mono ?_
                      clear Cz
                      rintro e' wb ⟨Ab, nb, cb, rfl, _, Ob⟩
                      refine hK _ _ Ob.bel ?_
                      have Xb := Lib.hid Ob.reads
                      have Yb := Lib.hid (Grows.trans gb Ob.bel)
                      clear hK K Ob gb ga
                      refine wpK_from Yb.out _ _ _ _ ?_
                      refine wpK_seg 20 1 (f := 2) (by kernel_rfl) (fun _ _ _ _ _ h => h) (by kernel_rfl) (by kernel_rfl) (by kernel_rfl) (Grows.refl wb) ?_
                      apply Exists.intro
                      refine ⟨?_, ?_⟩
                      · intro wg hg
                        simp only [List.drop_succ_cons, List.drop_zero, List.take_succ_cons, List.take_zero]
                        have cvb : ∀ u : After wg, (convert 29 9 (.slice Ab nb cb)).run Tryd.prog u.w = .ok (.string S) u.w := fun u => by rw [← HS.out]; exact run_str ((Xb.out.later hg).later u.below)
                        go_big_quiet_step (fail)
                        refine wpQuiet_nil ?_
                        exact rfl
                      refine wpK_seg 23 2 (f := 0) (by kernel_rfl) (fun _ _ _ _ _ h => h) (by kernel_rfl) (by kernel_rfl) (by kernel_rfl) (Grows.refl wb) ?_
                      apply Exists.intro
                      refine ⟨?_, ?_⟩
                      · intro wg hg
                        simp only [List.drop_succ_cons, List.drop_zero, List.take_succ_cons, List.take_zero]
                        have q1 := HEB.out
                        have q2 : (S.toList != Y.toList) = !e := by rw [bne, HEB.out]
                        repeat (go_big_quiet_step (fail))
                        refine wpQuiet_nil ?_
                        exact rfl
                      refine wpK_end (by kernel_rfl) fun we ge => ?_
                      have GE := Grows.trans Yb.out ge
                      go_wp2_with fail
                      go_meet
                      exact ⟨congrArg Value.bool HE.out.symm, GE⟩
                    · have HMY := Lib.hid (decide_eq_false hmy)
                      have he := (get_not HLL.out hx (fun k => hmy k.1)).1
                      have HE := Lib.hid (show decide (getE L ≠ 0) = true by rw [he]; rfl)
                      clear hx he
                      refine wp_region_seg (W := w13) (by kernel_rfl) fun wa ga => ?_
                      refine wpK_seg 0 25 (f := 0) (by kernel_rfl) (fun _ _ _ _ _ h => h) (by kernel_rfl) (by kernel_rfl) (by kernel_rfl) ga ?_
                      apply Exists.intro
                      refine ⟨?_, ?_⟩
                      · intro wg hg
                        simp only [List.drop_succ_cons, List.drop_zero, List.take_succ_cons, List.take_zero]
                        have c0g : ∀ u : After wg, u.w.cell? ⟨r, 0, none⟩ = some (.slice A0 0 c0) := fun u => u.cell (cell_later hg HC0.out)
                        have c1g : ∀ u : After wg, u.w.cell? ⟨r, 1, none⟩ = some (.bool false) := fun u => u.cell (cell_later hg HC1.out)
                        have Pg := Lib.hid (I13.out.q.later hg)
                        have TA : Hid (∀ u : After wg, TxR u.w T Ai ni ci Ao no co) := Lib.hid (fun u => (TR.out.later hg).later u.below)
                        have C1 : Hid (∀ u : After wg, Calls Tryd.prog 20 #[.agg (txV ver Ai ni ci Ao no co lock).toArray] u.w fun e w' => e = .returned (.bool false) ∧ Below u.w.heap.size u.w w') := Lib.hid (fun u => by
                          have h := refMay_any u.w WT.out (TA.out u)
                          rw [HTV.out.1, HTV.out.2, HMY.out] at h
                          exact h)
                        repeat (go_big_quiet_step (fail))
                        go_big_quiet_want
                        refine quiet_load_part (.tmp 5) rfl rfl rowTx (fun w9 h9 => by obtain ⟨u, rfl⟩ := h9; exact (Pg.out.later u.below).whole) rfl ?_
                        simp only [Act.put, List.setIfInBounds_toArray, List.set_cons_succ, List.set_cons_zero]
                        go_big_quiet_on
                        go_big_quiet_step (exact after_call (C1.out _))
                        repeat (go_big_quiet_step (fail))
                        refine wpQuiet_nil ?_
                        exact rfl
                      refine wpK_end (by kernel_rfl) fun we ge => ?_
                      have GE := Grows.trans ga ge
                      go_wp2_with fail
                      go_meet
                      exact ⟨congrArg Value.bool HE.out.symm, GE⟩
              case rest =>
                obtain ⟨rfl, hB⟩ := hcut
                have IX := Lib.hid (I13.out.later hB)
                have TX := Lib.hid (TG.out.keep (Kept.of_below hB))
                clear hB I13 TR TG HBX
                by_cases he : getE L = 0
                · have td : decide (getE L ≠ 0) = false := decide_eq_false (fun h => h he)
                  have hs := get_some he
                  have hT : T = getT L := by
                    cases b5 with
                    | true =>
                      rw [HX.out.2 rfl] at hs
                      cases hs
                    | false =>
                      rw [HX.out.1 rfl] at hs
                      injection hs with hs
                      injection hs with h1 h2
                  have HE := Lib.hid he
                  have HT := Lib.hid hT
                  rw [td]
                  clear td he hs hT HX
                  go_wp2_with (first
                    | (refine wpList_load_part rfl (.tmp 5) rfl rfl rowTx IX.out.q.whole rfl ?_)
                    | (refine wpList_store_ro rfl (.tmp 2) (.tmp 113) rfl (vs := txV ver Ai ni ci Ao no co lock) rfl rfl rowTx IX.out.p rfl rfl (txV_one _ _ _ _ _ _ _ _) ?_))
                  intro w20 R20 g20
                  have HR20 := Lib.hid R20
                  have B20 := Lib.hid (IX.out.rd.bel.grown g20 IX.out.rd.bel.size (fun b e => by injection e; omega))
                  have T20 := Lib.hid ((TX.out.keep (Kept.of_grown g20 fun b hb e => by injection e; omega)).weak (Q := fun b => w.heap.size ≤ b) fun b hb _ => by omega)
                  clear R20 g20
                  go_wp2_with fail
                  rw [HE.out, ← HT.out]
                  exact bodyPost_ret (results_ro2 Tryd.results24 _ rfl rowTx HR20.out rfl rfl) rfl ⟨Ai, ni, ci, Ao, no, co, by rw [HTV.out.1, HTV.out.2]; rfl, T20.out, B20.out⟩
                · have td : decide (getE L ≠ 0) = true := decide_eq_true he
                  have hz := get_five HLL.out he
                  have HZ := Lib.hid hz
                  rw [td]
                  clear td he hz HX
                  go_wp2_with (first
                    | (refine wpList_plain rfl fun _ hK => wp_buildR rfl 26 #[] rfl (us := #[]) (by simp) (BT0.out _) (hK _ _ ?_))
                    | (refine wpList_store_ro rfl (.tmp 2) (.tmp 112) rfl (vs := zTx) rfl rfl rowTx IX.out.p rfl rfl (txV_one _ _ _ _ _ _ _ _) ?_))
                  intro w20 R20 g20
                  have HR20 := Lib.hid R20
                  have B20 := Lib.hid (IX.out.rd.bel.grown g20 IX.out.rd.bel.size (fun b e => by injection e; omega))
                  clear R20 g20
                  go_wp2_with fail
                  rw [HZ.out.1, HZ.out.2]
                  exact bodyPost_ret (results_ro2 Tryd.results24 _ rfl rowTx HR20.out rfl rfl) rfl ⟨none, 0, 0, none, 0, 0, rfl, zeroR _ _, B20.out⟩
end Go.Proofs.YtbdjcbdnhaddoaaDoor
