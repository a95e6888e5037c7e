/- FramePlays: any bytes, fed in any parts: the lines of each, whether it is over, and how many bytes are held. No condition. -/
import Derived.Test.YtfmfooocfcdalaaPx
import Derived.Test.YtfmfooocfcdalaaAfter
namespace Go.Proofs.Ytfmfooocfcdalaa
open Go.RowKit
attribute [local go_sem ↓] appL_mark

set_option maxRecDepth 100000 in
set_option maxHeartbeats 8000000 in
theorem plays_law {B : Option Addr} {m d : Nat} {w : World} (hB : PsIn w B m) :
    Calls Try.prog 3 #[.slice B m d] w (Yes w) := by
  have HB := Lib.hid hB
  clear hB
  by_cases hv : 40 < m
  · have t1 : decide ((40 : Int) < (m : Int)) = true := decide_eq_true (by omega)
    go_enter Try.func3, Try.ntmps3
    go_wp2_with fail
    refine (works_any _).mono ?_
    rintro e w1 ⟨rfl, hb⟩
    have HB := Lib.hid hb
    clear hb
    go_wp2_with fail
    go_ret
    exact ⟨rfl, HB.out⟩
  have t1 : decide ((40 : Int) < (m : Int)) = false := decide_eq_false (by omega)
  have hm : m ≤ 40 := by omega
  clear hv
  go_enter Try.func3, Try.ntmps3
  go_wp2_with fail
  refine (new_any _).mono ?_
  rintro e w1 ⟨rfl, rfl⟩
  go_wp2_with fail
  obtain ⟨W1, hW1⟩ : ∃ W1, W1 = (w.alloc (.cells #[.slice none 0 0, .bool false] 48)).alloc (.cells #[.slice none 0 0, .bool false] 29) := ⟨_, rfl⟩
  have P1 : Hid (PX w w.heap.size (w.heap.size + 1) 0 (.slice none 0 0) (.slice none 0 0) W1) := Lib.hid (by
    rw [hW1]
    refine PX.start (((Below.refl _ _).alloc (Nat.le_refl _) _).alloc (by simp only [World.size_alloc]; omega) _) ((new_frB w).alloc _) ?_ (by omega) (by omega) (by omega)
    have := World.alloc_heap_new (w.alloc (.cells #[.slice none 0 0, .bool false] 48)) (.cells #[.slice none 0 0, .bool false] 29)
    rwa [World.size_alloc] at this)
  rw [← hW1]
  clear hW1
  go_loopw [5, 6, 7, 8] (fun lf tv wv i wr => ∃ k tot left : Nat, lf = .int .i64 (left : Nat) ∧ i = .int .i64 (k : Nat) ∧ k ≤ m ∧ left + tot = 200000 ∧ PX w w.heap.size (w.heap.size + 1) tot tv wv wr) (fun _ _ _ i _ => m - (intOf i).toNat)
  case atStart => exact ⟨0, 0, 200000, rfl, rfl, by omega, by omega, P1.out⟩
  case round =>
    obtain ⟨k, tot, left, rfl, rfl, hk, htot, px⟩ := hrel
    have PX0 := Lib.hid px
    have BB := Lib.hid px.bel
    clear px
    by_cases hlt : k < m
    · have t2 : decide ((k : Int) < (m : Int)) = true := decide_eq_true (by omega)
      obtain ⟨b, A, n, c, t, L, rfl, hb, c0, c1, ht, hnc, hc, bs⟩ := (HB.out.later BB.out) k hlt
      have HBS := Lib.hid bs
      have c1' : wr.cell? ⟨(b.add (k * 2)).block, (b.add (k * 2)).off + 1, none⟩ = some (.int .u16 (t : Nat)) := by
        rw [← add_add'] at c1
        rw [← c1]
        unfold Addr.add
        simp
      clear bs c1
      -- ROUND
      go_wp2_with fail
      obtain ⟨v0, All, Ls, M, ov, us, ws, AA, an, ac, P⟩ := PX0.out
      refine (part_any wr HBS.out ht (by omega) (by omega)).mono ?_
      rintro e w2 ⟨XA, xn, xc, X, rfl, hxc, hxn, XO⟩
      have XO := Lib.hid XO
      have hv0 : Hid (∀ k, v0.ownBlock = some k → k < wr.heap.size) := Lib.hid fun k e => (P.held.new k e).2
      have hfr : w.heap.size + 1 < wr.heap.size := P.rb.lt
      have P2 := Lib.hid (P.later XO.out.bel)
      have z2 : wr.heap.size ≤ w2.heap.size := XO.out.bel.size
      have hxl : Hid (X.length = xn) := Lib.hid XO.out.len
      clear P c0 c1'
      go_wp2_with fail
      refine (copied_any _ (by omega) XO.out.reads).mono ?_
      rintro e w3 ⟨A3, n3, c3, rfl, hc3, O⟩
      obtain rfl : n3 = xn := by rw [← O.len, hxl.out]
      have O3 := Lib.hid O
      clear O
      have z3 : w2.heap.size ≤ w3.heap.size := O3.out.bel.size
      cases ov with
      | false =>
        obtain ⟨ks, N, ov', hks⟩ : ∃ ks N ov', feedS ([], M, false) X = (ks, N, ov') := ⟨_, _, _, rfl⟩
        have HKS := Lib.hid hks
        have HALL : Hid (feedS ([], [], false) (All ++ X) = (Ls ++ ks, N, ov')) := Lib.hid (by
          have h1 := feedS_shift Ls X [] M false
          rw [List.append_nil] at h1
          rw [feedS_app, P2.out.fed, h1, hks])
        clear hks
        go_wp2_with fail
        have P3 := Lib.hid (P2.out.later O3.out.bel)
        refine (fed_told (w0 := w) w3 P3.out.fr P3.out.held (Nat.le_refl _) (fun e => (P3.out.vf _ e).1 rfl) P3.out.m2 O3.out.reads hc3 O3.out.cap (by omega) (fun _ a e => by
          have h1 := (O3.out.new a.block (by rw [e]; rfl)).1
          exact ⟨by omega, fun e2 => by have := hv0.out _ e2; omega⟩) HKS.out).mono ?_
        rintro e w4 ⟨v1, lv, vs, rfl, hN2, J, F⟩
        obtain ⟨lA, lc, rfl, _⟩ := row_shape J.row
        have hvl : vs.length = ks.length := J.lines.len
        have J4 := Lib.hid J
        have F4 := Lib.hid F
        have z4 : w3.heap.size + 4 ≤ w4.heap.size := J.size
        have RB4 : Hid (RB w4 (w.heap.size + 1) (.slice AA an ac) false) := Lib.hid (P3.out.rb.same (J.old _ (by omega) (by omega) (fun e => (P3.out.vf _ e).2 rfl)))
        have AL4 : Hid (Bs w4 AA an All) := Lib.hid (P3.out.all.kept fun h0 a e => by
          have h1 := P3.out.allA a e h0
          obtain ⟨a2, e2, hb2, _⟩ := P3.out.all.cel h0
          rw [e] at e2
          injection e2 with e2
          subst e2
          exact J.old _ hb2 h1.1 h1.2.2.1)
        have XB4 : Hid (Bs w4 XA n3 X) := Lib.hid ((XO.out.reads.later O3.out.bel).kept fun h0 a e => by
          have h1 := XO.out.new a.block (by rw [e]; rfl)
          exact J.old _ (by omega) (by omega) (fun e2 => by have := hv0.out _ e2; omega))
        rw [hvl]
        rw [hvl] at J4
        have HVL := Lib.hid hvl
        clear J F hvl
        cases ov' with
        | false =>
          go_wp2_with fail
          refine (rfeed_any w4 RB4.out AL4.out P2.out.nc (by have h1 := P2.out.all.len; have h2 := P2.out.tt; omega) XB4.out (by omega) P2.out.fed HALL.out).mono ?_
          rintro e W5 ⟨yA, ym, yc, rfl, R⟩
          have hym : ym = ks.length := by
            obtain ⟨ys, _, _, _, y1, _, _, y4, _⟩ := R.ex
            rw [← y1]; exact y4.len
          subst hym
          have R5 := Lib.hid R
          have XG0 : Hid (XG w w2.heap.size w3.heap.size W5 A3 n3 0 W5) := Lib.hid (XG.start O3.out fun g e => by
            have h1 := O3.out.new g (by rw [e]; rfl)
            exact (R.old g (by omega) (by omega)).trans (J4.out.old g (by omega) (by omega) (fun e2 => by have := hv0.out _ e2; omega)))
          clear R RB4 AL4 XB4
          go_wp2_with fail
          go_loopw [15] (fun i wq => ∃ j : Nat, j ≤ n3 ∧ i = .int .i64 (j : Nat) ∧ XG w w2.heap.size w3.heap.size W5 A3 n3 j wq) (fun i _ => n3 - (intOf i).toNat)
          case atStart => exact ⟨0, by omega, rfl, XG0.out⟩
          case round =>
            obtain ⟨j, hj, rfl, xg⟩ := hrel
            have XG1 := Lib.hid xg
            clear xg
            by_cases hj2 : j < n3
            · obtain ⟨g, x, rfl, hx, hcell, hfree⟩ := XG1.out.at_ hj2
              have XG2 : Hid (∀ v, XG w w2.heap.size w3.heap.size W5 (some ⟨g, 0, none⟩) n3 (j + 1) (wr.setCell ⟨g, j, none⟩ v)) := Lib.hid fun v => XG1.out.set rfl hj2 v
              go_wp2_with fail
              refine ⟨⟨j + 1, by omega, by go_num, XG2.out _⟩, by simp [intOf]; omega⟩
            · have t4 : decide ((j : Int) < (n3 : Int)) = false := decide_eq_false (by omega)
              obtain ⟨ys, A', n', c', pm⟩ := plays_mid (tot' := tot + n3) P2.out O3.out.bel J4.out F4.out hN2 HALL.out (by rw [hxl.out]; have := P2.out.tt; omega) (by omega) R5.out XG1.out.dk
              obtain ⟨tv', W5', a1, wv', W6, a2, pn⟩ := pm.add lc yc 30
              rw [appL_mark] at a1 a2
              obtain ⟨ML, hML⟩ : ∃ ML, N.length = ML := ⟨_, rfl⟩
              have HML := Lib.hid hML
              clear pm hML XG1 J4 F4 R5
              go_wp2_with fail
              have PN := Lib.hid pn
              clear pn
              have D1 : Hid (∀ u : After W6, Calls Try.prog 13 #[.pointer (some ⟨w.heap.size, 0, none⟩)] u.w fun e w' => e = .returned (.int .i64 (ML : Nat)) ∧ Below u.w.heap.size u.w w') := Lib.hid fun u => by
                obtain ⟨vA, vc, hv, _⟩ := PN.out.held.shape
                have F := frB_later PN.out.fr u.below
                rw [hv, HML.out] at F
                exact (held_any F).mono fun e w' h => ⟨h.1, h.2 ▸ Below.refl _ _⟩
              have D2 : Hid (∀ u : After W6, Calls Try.prog 14 #[.pointer (some ⟨w.heap.size + 1, 0, none⟩)] u.w fun e w' => e = .returned (.int .i64 (ML : Nat)) ∧ Below u.w.heap.size u.w w') := Lib.hid fun u => by
                have h := rheld_any u.w (PN.out.rb.later u.below) (PN.out.all.later u.below) PN.out.nc (by have h1 := PN.out.all.len; have h2 := PN.out.tt; have h3 := PN.out.t2; omega) PN.out.fed
                rw [HML.out] at h
                exact h
              have D3 : Hid (∀ u : After W6, Calls Try.prog 15 #[.pointer (some ⟨w.heap.size, 0, none⟩)] u.w fun e w' => e = .returned (.bool false) ∧ Below u.w.heap.size u.w w') := Lib.hid fun u => (over_any (frB_later PN.out.fr u.below)).mono fun e w' h => ⟨h.1, h.2 ▸ Below.refl _ _⟩
              have u1 : ∀ u : After W6, u.w.cell? ⟨w.heap.size + 1, 1, none⟩ = some (.bool false) := fun u => u.cell PN.out.rb.c1
              refine wp_region_after (by kernel_rfl) (by kernel_rfl) ?_
              repeat (go_big_quiet_step ((first | (go_at_call 13; exact after_call (D1.out _)) | (go_at_call 14; exact after_call (D2.out _)) | (go_at_call 15; exact after_call (D3.out _)))))
              refine wpQuiet_nil ?_
              rintro _ ⟨u, rfl⟩
              have PZ : Hid (PX w w.heap.size (w.heap.size + 1) (tot + n3) tv' wv' u.w) := Lib.hid ⟨_, _, _, _, _, _, _, _, _, _, PN.out.later u.below⟩
              clear D1 D2 D3 u1 PN
              go_wp2_with fail
              refine ⟨⟨k + 1, tot + n3, left - n3, by rw [Int.natCast_sub (by omega)], by go_num, by omega, by omega, PZ.out⟩, by simp [intOf]; omega⟩
        | true =>
          go_wp2_with fail
          refine (rfeed_any w4 RB4.out AL4.out P2.out.nc (by have h1 := P2.out.all.len; have h2 := P2.out.tt; omega) XB4.out (by omega) P2.out.fed HALL.out).mono ?_
          rintro e W5 ⟨yA, ym, yc, rfl, R⟩
          have hym : ym = ks.length := by
            obtain ⟨ys, _, _, _, y1, _, _, y4, _⟩ := R.ex
            rw [← y1]; exact y4.len
          subst hym
          have R5 := Lib.hid R
          have XG0 : Hid (XG w w2.heap.size w3.heap.size W5 A3 n3 0 W5) := Lib.hid (XG.start O3.out fun g e => by
            have h1 := O3.out.new g (by rw [e]; rfl)
            exact (R.old g (by omega) (by omega)).trans (J4.out.old g (by omega) (by omega) (fun e2 => by have := hv0.out _ e2; omega)))
          clear R RB4 AL4 XB4
          go_wp2_with fail
          go_loopw [15] (fun i wq => ∃ j : Nat, j ≤ n3 ∧ i = .int .i64 (j : Nat) ∧ XG w w2.heap.size w3.heap.size W5 A3 n3 j wq) (fun i _ => n3 - (intOf i).toNat)
          case atStart => exact ⟨0, by omega, rfl, XG0.out⟩
          case round =>
            obtain ⟨j, hj, rfl, xg⟩ := hrel
            have XG1 := Lib.hid xg
            clear xg
            by_cases hj2 : j < n3
            · obtain ⟨g, x, rfl, hx, hcell, hfree⟩ := XG1.out.at_ hj2
              have XG2 : Hid (∀ v, XG w w2.heap.size w3.heap.size W5 (some ⟨g, 0, none⟩) n3 (j + 1) (wr.setCell ⟨g, j, none⟩ v)) := Lib.hid fun v => XG1.out.set rfl hj2 v
              go_wp2_with fail
              refine ⟨⟨j + 1, by omega, by go_num, XG2.out _⟩, by simp [intOf]; omega⟩
            · have t4 : decide ((j : Int) < (n3 : Int)) = false := decide_eq_false (by omega)
              obtain ⟨ys, A', n', c', pm⟩ := plays_mid (tot' := tot + n3) P2.out O3.out.bel J4.out F4.out hN2 HALL.out (by rw [hxl.out]; have := P2.out.tt; omega) (by omega) R5.out XG1.out.dk
              obtain ⟨tv', W5', a1, wv', W6, a2, pn⟩ := pm.add lc yc 30
              rw [appL_mark] at a1 a2
              obtain ⟨ML, hML⟩ : ∃ ML, N.length = ML := ⟨_, rfl⟩
              have HML := Lib.hid hML
              clear pm hML XG1 J4 F4 R5
              go_wp2_with fail
              have PN := Lib.hid pn
              clear pn
              have D1 : Hid (∀ u : After W6, Calls Try.prog 13 #[.pointer (some ⟨w.heap.size, 0, none⟩)] u.w fun e w' => e = .returned (.int .i64 (ML : Nat)) ∧ Below u.w.heap.size u.w w') := Lib.hid fun u => by
                obtain ⟨vA, vc, hv, _⟩ := PN.out.held.shape
                have F := frB_later PN.out.fr u.below
                rw [hv, HML.out] at F
                exact (held_any F).mono fun e w' h => ⟨h.1, h.2 ▸ Below.refl _ _⟩
              have D2 : Hid (∀ u : After W6, Calls Try.prog 14 #[.pointer (some ⟨w.heap.size + 1, 0, none⟩)] u.w fun e w' => e = .returned (.int .i64 (ML : Nat)) ∧ Below u.w.heap.size u.w w') := Lib.hid fun u => by
                have h := rheld_any u.w (PN.out.rb.later u.below) (PN.out.all.later u.below) PN.out.nc (by have h1 := PN.out.all.len; have h2 := PN.out.tt; have h3 := PN.out.t2; omega) PN.out.fed
                rw [HML.out] at h
                exact h
              have D3 : Hid (∀ u : After W6, Calls Try.prog 15 #[.pointer (some ⟨w.heap.size, 0, none⟩)] u.w fun e w' => e = .returned (.bool true) ∧ Below u.w.heap.size u.w w') := Lib.hid fun u => (over_any (frB_later PN.out.fr u.below)).mono fun e w' h => ⟨h.1, h.2 ▸ Below.refl _ _⟩
              have u1 : ∀ u : After W6, u.w.cell? ⟨w.heap.size + 1, 1, none⟩ = some (.bool true) := fun u => u.cell PN.out.rb.c1
              refine wp_region_after (by kernel_rfl) (by kernel_rfl) ?_
              repeat (go_big_quiet_step ((first | (go_at_call 13; exact after_call (D1.out _)) | (go_at_call 14; exact after_call (D2.out _)) | (go_at_call 15; exact after_call (D3.out _)))))
              refine wpQuiet_nil ?_
              rintro _ ⟨u, rfl⟩
              have PZ : Hid (PX w w.heap.size (w.heap.size + 1) (tot + n3) tv' wv' u.w) := Lib.hid ⟨_, _, _, _, _, _, _, _, _, _, PN.out.later u.below⟩
              clear D1 D2 D3 u1 PN
              go_wp2_with fail
              refine ⟨⟨k + 1, tot + n3, left - n3, by rw [Int.natCast_sub (by omega)], by go_num, by omega, by omega, PZ.out⟩, by simp [intOf]; omega⟩
      | true =>
        go_wp2_with fail
        have P3 := Lib.hid (P2.out.later O3.out.bel)
        refine (feed_over _ P3.out.fr).mono ?_
        rintro e w4 ⟨rfl, hb4⟩
        have P4 := Lib.hid (P3.out.later hb4)
        go_wp2_with fail
        refine (rfeed_over _ P4.out.rb).mono ?_
        rintro e W5 ⟨rfl, rfl⟩
        have XG0 : Hid (XG w w2.heap.size w3.heap.size W5 A3 n3 0 W5) := Lib.hid (XG.start O3.out fun g e => hb4.block g (by have := (O3.out.new g (by rw [e]; rfl)).2; omega))
        have B25 : Hid (Below w2.heap.size w2 W5) := Lib.hid (O3.out.bel.trans (hb4.mono O3.out.bel.size))
        clear hb4
        go_wp2_with fail
        go_loopw [15] (fun i wq => ∃ j : Nat, j ≤ n3 ∧ i = .int .i64 (j : Nat) ∧ XG w w2.heap.size w3.heap.size W5 A3 n3 j wq) (fun i _ => n3 - (intOf i).toNat)
        case atStart => exact ⟨0, by omega, rfl, XG0.out⟩
        case round =>
          obtain ⟨j, hj, rfl, xg⟩ := hrel
          have XG1 := Lib.hid xg
          clear xg
          by_cases hj2 : j < n3
          · obtain ⟨g, x, rfl, hx, hcell, hfree⟩ := XG1.out.at_ hj2
            have XG2 : Hid (∀ v, XG w w2.heap.size w3.heap.size W5 (some ⟨g, 0, none⟩) n3 (j + 1) (wr.setCell ⟨g, j, none⟩ v)) := Lib.hid fun v => XG1.out.set rfl hj2 v
            go_wp2_with fail
            refine ⟨⟨j + 1, by omega, by go_num, XG2.out _⟩, by simp [intOf]; omega⟩
          · have t4 : decide ((j : Int) < (n3 : Int)) = false := decide_eq_false (by omega)
            have D := XG1.out.dk
            have hb : Below w2.heap.size w2 wr := B25.out.trans (D.bel (Nat.le_refl _) B25.out.size)
            have pm := plays_mid_over (tot' := tot + n3) P2.out hb (by omega) (by omega)
            obtain ⟨tv', W5', a1, wv', W6, a2, pn⟩ := pm.add 0 0 30
            rw [appL_mark] at a1 a2
            obtain ⟨ML, hML⟩ : ∃ ML, M.length = ML := ⟨_, rfl⟩
            have HML := Lib.hid hML
            clear pm hML XG1 D hb
            go_wp2_with fail
            have PN := Lib.hid pn
            clear pn
            have D1 : Hid (∀ u : After W6, Calls Try.prog 13 #[.pointer (some ⟨w.heap.size, 0, none⟩)] u.w fun e w' => e = .returned (.int .i64 (ML : Nat)) ∧ Below u.w.heap.size u.w w') := Lib.hid fun u => by
              obtain ⟨vA, vc, hv, _⟩ := PN.out.held.shape
              have F := frB_later PN.out.fr u.below
              rw [hv, HML.out] at F
              exact (held_any F).mono fun e w' h => ⟨h.1, h.2 ▸ Below.refl _ _⟩
            have D2 : Hid (∀ u : After W6, Calls Try.prog 14 #[.pointer (some ⟨w.heap.size + 1, 0, none⟩)] u.w fun e w' => e = .returned (.int .i64 (ML : Nat)) ∧ Below u.w.heap.size u.w w') := Lib.hid fun u => by
              have h := rheld_any u.w (PN.out.rb.later u.below) (PN.out.all.later u.below) PN.out.nc (by have h1 := PN.out.all.len; have h2 := PN.out.tt; have h3 := PN.out.t2; omega) PN.out.fed
              rw [HML.out] at h
              exact h
            have D3 : Hid (∀ u : After W6, Calls Try.prog 15 #[.pointer (some ⟨w.heap.size, 0, none⟩)] u.w fun e w' => e = .returned (.bool true) ∧ Below u.w.heap.size u.w w') := Lib.hid fun u => (over_any (frB_later PN.out.fr u.below)).mono fun e w' h => ⟨h.1, h.2 ▸ Below.refl _ _⟩
            have u1 : ∀ u : After W6, u.w.cell? ⟨w.heap.size + 1, 1, none⟩ = some (.bool true) := fun u => u.cell PN.out.rb.c1
            refine wp_region_after (by kernel_rfl) (by kernel_rfl) ?_
            repeat (go_big_quiet_step ((first | (go_at_call 13; exact after_call (D1.out _)) | (go_at_call 14; exact after_call (D2.out _)) | (go_at_call 15; exact after_call (D3.out _)))))
            refine wpQuiet_nil ?_
            rintro _ ⟨u, rfl⟩
            have PZ : Hid (PX w w.heap.size (w.heap.size + 1) (tot + n3) tv' wv' u.w) := Lib.hid ⟨_, _, _, _, _, _, _, _, _, _, PN.out.later u.below⟩
            clear D1 D2 D3 u1 PN
            go_wp2_with fail
            refine ⟨⟨k + 1, tot + n3, left - n3, by rw [Int.natCast_sub (by omega)], by go_num, by omega, by omega, PZ.out⟩, by simp [intOf]; omega⟩
    · obtain rfl : k = m := by omega
      have t4 : decide ((k : Int) < (k : Int)) = false := decide_eq_false (by omega)
      obtain ⟨v0, All, Ls, M, ov, us, ws, AA, an, ac, P⟩ := PX0.out
      have few := P.few
      obtain ⟨B1, e1, rfl, l1⟩ := P.td.ll few.1
      obtain ⟨B2, e2, rfl, l2⟩ := P.wt.ll few.1
      have SA := Lib.hid (sames_any (c := e1) (d := e2) wr (by omega) (by omega) l1 l2)
      clear few l1 l2 P
      go_wp2_with fail
      refine SA.out.mono ?_
      rintro e w6 ⟨rfl, hb⟩
      rw [show decide True = true from rfl]
      have B6 := Lib.hid (BB.out.trans (hb.mono BB.out.size))
      clear hb SA
      go_wp2_with fail
      refine (works_any _).mono ?_
      rintro e w7 ⟨rfl, hb⟩
      have B7 := Lib.hid (B6.out.trans (hb.mono B6.out.size))
      clear hb
      go_wp2_with fail
      go_ret
      exact ⟨rfl, B7.out⟩
end Go.Proofs.Ytfmfooocfcdalaa
