/- FrameOver: the common beginning. -/
import Derived.Test.YtfmfooocfcdalaaOverM
import Derived.Test.YtfmfooocfcdalaaFWorks
namespace Go.Proofs.Ytfmfooocfcdalaa
open Go.RowKit

theorem run_make_bytes (n : Nat) (h : n ≤ 281474976710656) (w : World) : (Instr.makeSlice 27 (.int .i64 (n : Int)) (.int .i64 (n : Int))).run Try.prog w = .ok (.slice (some ⟨w.heap.size, 0, none⟩) n n) (w.alloc (.cells (madeCells #[.int .u8 0] n) 5)) := by
  obtain ⟨i0, hi, hz0, hz1, hz2⟩ := info_parts Try.infoByte
  exact Go.run_make_row (P := Try.prog) 27 5 i0 (.int .u8 0) Try.underlying27 hi hz0 hz1 rfl .i64 .i64 n (by rw [hz2]; omega) (by omega) w

abbrev Yes (w : World) (e : Ending) (w' : World) : Prop := e = .returned (.bool true) ∧ Below w.heap.size w w'

theorem Own.cap {w0 wr : World} {A : Option Addr} {n c : Nat} {L : List Nat} (h : Own w0 (.slice A n c) n L wr) : c ≤ 9223372036854775807 := by
  rcases h.row.2 with ⟨e, _⟩ | ⟨g, cap, cur, e, _, _, _, hm, _⟩
  · injection e with _ _ e; omega
  · injection e with _ _ e; unfold maxLen at hm; omega
/-- Feed, in general, and what it leaves for the next one. -/
theorem fed_next {w0 : World} {A : Option Addr} {n c f : Nat} {v0 : Value} {M0 L : List Nat} (w : World) (h : FrB w f v0 false) (hO : Own w0 v0 M0.length M0 w) (hfw : w0.heap.size ≤ f) (hvf : v0.ownBlock ≠ some f) (hM0 : M0.length ≤ 65536)
    (hL : Bs w A n L) (hnc : n ≤ c) (hc : c ≤ 9223372036854775807) (hn : n ≤ 549755813888) (hA : 0 < n → ∀ a, A = some a → a.block ≠ f ∧ v0.ownBlock ≠ some a.block) {ls : List (List Nat)} {M : List Nat} {ov : Bool} (hr : feedS ([], M0, false) L = (ls, M, ov)) :
    Calls Try.prog 11 #[.pointer (some ⟨f, 0, none⟩), .slice A n c] w fun e W =>
      ∃ v B c, e = .returned (.tuple #[.slice B ls.length c, .int .i64 (if ov then 6 else 0)]) ∧ Ll W B ls.length ls ∧ Own w0 v M.length M W ∧ v.ownBlock ≠ some f ∧ FrB W f v ov ∧ w.heap.size ≤ W.heap.size
        ∧ ∀ k, k < w.heap.size → k ≠ f → v0.ownBlock ≠ some k → W.heap[k]? = w.heap[k]? := by
  refine (callsIn_wide.1 (feed_in (w0 := w0) w h hO hfw hvf hM0 hL hnc hc hn hA)).mono ?_
  rintro e W ⟨ls', M', ov', v, lv, vs, h1, rfl, h2, J, F⟩
  rw [hr] at h1
  simp only [Prod.mk.injEq] at h1
  obtain ⟨rfl, rfl, rfl⟩ := h1
  have hs := feedS_small L ([], M0, false) (by simp) hM0
  rw [hr] at hs
  obtain ⟨B, c', rfl, hl⟩ := J.ll hs.1
  exact ⟨v, B, c', rfl, hl, J.held, fun e => (J.hb _ e).2.1 rfl, F, by have := J.size; omega, fun k a1 a2 a3 => J.old k a1 a2 a3⟩

set_option maxRecDepth 100000 in
set_option maxHeartbeats 8000000 in
theorem over_law {A B : Option Addr} {n c m d : Nat} {L : List Nat} {w : World} (mo : Int) (m1 : -128 ≤ mo) (m2 : mo ≤ 127) (pt : Nat) (p1 : pt < 65536) (hn63 : n ≤ 9223372036854775807) (hm63 : m ≤ 9223372036854775807) (hL : Bs w A n L) :
    Calls Try.prog 5 #[.slice A n c, .int .i8 mo, .slice B m d, .int .u16 (pt : Nat)] w (Yes w) := by
  have HL := Lib.hid hL
  clear hL
  by_cases hv : 4096 < n
  · have t1 : decide ((4096 : Int) < (n : Int)) = true := decide_eq_true (by omega)
    go_enter Try.func5, Try.ntmps5
    go_wp2_with fail
    refine (works_any _).mono ?_
    rintro e w1 ⟨rfl, hb⟩
    have HB := Lib.hid hb
    clear hb
    go_wp2_with fail
    go_ret
    exact ⟨rfl, HB.out⟩
  · have t1 : decide ((4096 : Int) < (n : Int)) = false := decide_eq_false (by omega)
    by_cases hu : 4096 < m
    · have t2 : decide ((4096 : Int) < (m : Int)) = true := decide_eq_true (by omega)
      go_enter Try.func5, Try.ntmps5
      go_wp2_with fail
      refine (works_any _).mono ?_
      rintro e w1 ⟨rfl, hb⟩
      have HB := Lib.hid hb
      clear hb
      go_wp2_with fail
      go_ret
      exact ⟨rfl, HB.out⟩
    · have t2 : decide ((4096 : Int) < (m : Int)) = false := decide_eq_false (by omega)
      have hn : n ≤ 4096 := by omega
      have hm : m ≤ 4096 := by omega
      obtain ⟨N, hN⟩ : ∃ N : Nat, (65536 : Int) + mo = (N : Int) := ⟨(65536 + mo).toNat, by omega⟩
      have N1 : 65408 ≤ N := by omega
      have N2 : N ≤ 65663 := by omega
      clear hv hu
      go_enter Try.func5, Try.ntmps5
      go_wp2_with fail
      refine (new_any _).mono ?_
      rintro e w1 ⟨rfl, rfl⟩
      obtain ⟨W1, hW1⟩ : ∃ W1, W1 = w.alloc (.cells #[.slice none 0 0, .bool false] 48) := ⟨_, rfl⟩
      have F1 : Hid (FrB W1 w.heap.size (.slice none 0 0) false) := Lib.hid (by rw [hW1]; exact new_frB w)
      have B1 : Hid (Below w.heap.size w W1) := Lib.hid (by rw [hW1]; exact (Below.refl _ _).alloc (Nat.le_refl _) _)
      have z1 : W1.heap.size = w.heap.size + 1 := by rw [hW1]; simp
      rw [← hW1]
      clear hW1
      go_wp2_with fail
      refine (copied_any _ (by omega) (HL.out.later B1.out)).mono ?_
      rintro e w2 ⟨A2, n2, c2, rfl, hc2, O⟩
      have O2 := Lib.hid O
      have e2 : n2 = n := by rw [← O.len, HL.out.len]
      clear O
      subst e2
      go_wp2_with (at_builtin; refine wpList_app rfl _ _ rfl rfl (O2.out.later ((Below.refl _ _).alloc (Nat.le_refl _) _)) rfl (Bs.lit1 _ (by decide)) ?c3 ?_)
      case c3 => omega
      intro A3 c3 w3 hc3 O3 g3
      have B3 := Lib.hid (B1.out.trans (O3.bel.mono (by omega)))
      have F3 : Hid (FrB w3 w.heap.size (.slice none 0 0) false) := Lib.hid (frB_later F1.out O3.bel)
      have R3 := Lib.hid O3.reads
      have X3 : Hid (∀ a, A3 = some a → w.heap.size < a.block) := Lib.hid fun a e => by
        have := (O3.new a.block (by rw [e]; rfl)).1
        omega
      have C3 := Lib.hid O3.cap
      clear O3 g3
      go_wp2_with fail
      obtain ⟨ls, hls, lpos⟩ := feedS_head (L := L) (by rw [HL.out.len]; exact hn)
      refine (fed_next (w0 := w) (v0 := .slice none 0 0) (M0 := []) _ F3.out ⟨World.ownsRow_nil _ _ _ _, allB_nil, B3.out⟩ (Nat.le_refl _) (by simp [Value.ownBlock]) (by simp) R3.out hc3 C3.out (by omega) (fun _ a e => ⟨by have := X3.out a e; omega, by simp [Value.ownBlock]⟩) hls).mono ?_
      rintro e w4 ⟨v4, lB, lc, rfl, _, O4, hv4, F4, _, _⟩
      obtain ⟨vA, vc, rfl, _⟩ := O4.shape
      have O4 := Lib.hid O4
      have V4 := Lib.hid hv4
      have F4 := Lib.hid F4
      have hmk := run_make_bytes N (by omega) w4
      have q1 : IntKind.i64.wrap mo = mo := by unfold IntKind.wrap; simp [IntKind.bits, IntKind.signed]; omega
      have L4 : Hid (0 < ls.length) := Lib.hid lpos
      clear hls lpos hv4
      go_wp2_with fail
      clear hmk
      have hB4 : Below w.heap.size w w4 := O4.out.bel
      have hs4 := hB4.size
      have HB4 := Lib.hid hB4
      go_loopw [14] (fun i wr => ∃ k : Nat, k ≤ N ∧ i = .int .i64 (k : Nat) ∧ Fill w w4.heap.size N k wr ∧ Below w4.heap.size w4 wr) (fun i _ => N - (intOf i).toNat)
      case atStart => exact ⟨0, by omega, rfl, by
        have := Fill.made HB4.out (madeCells #[.int .u8 0] N)
        rwa [show (madeCells #[.int .u8 0] N).size = N by simp [madeCells]] at this, (Below.refl _ _).alloc (Nat.le_refl _) _⟩
      case round =>
        obtain ⟨k, hk, rfl, FI, bel⟩ := hrel
        by_cases hlt : k < N
        · obtain ⟨u, hcell⟩ := FI.cell hlt
          have hfree := FI.free k
          have FI2 := Lib.hid (FI.set hlt)
          have BE2 : Hid (Below w4.heap.size w4 (wr.setCell ⟨w4.heap.size, k, none⟩ (.int .u8 120))) := Lib.hid (bel.setCell (Nat.le_refl _) _)
          clear FI bel
          go_wp2_with fail
          go_roundw
          case rel => exact ⟨k + 1, by omega, by go_num, FI2.out, BE2.out⟩
          case measure => simp [intOf]; omega
        · obtain rfl : k = N := by omega
          have X5 := Lib.hid FI.reads
          have B5 := Lib.hid FI.bel
          have G5 := Lib.hid bel
          have O5 := Lib.hid (O4.out.later bel)
          have F5 := Lib.hid (frB_later F4.out bel)
          obtain ⟨q, hq⟩ : ∃ q, q = pt % (k + 1) := ⟨_, rfl⟩
          have hq1 : q ≤ k := by rw [hq]; have := Nat.mod_lt pt (show 0 < k + 1 by omega); omega
          have hr : Int.tmod (pt : Int) ((k : Int) + 1) = (q : Int) := by rw [hq]; exact (Int.ofNat_tmod pt (k + 1)).symm ▸ rfl
          have w1 : IntKind.i64.wrap (pt : Int) = (pt : Int) := by unfold IntKind.wrap; simp [IntKind.bits, IntKind.signed]; omega
          clear FI bel hq
          have zr : w4.heap.size < wr.heap.size := by
            obtain ⟨b, e, hb, _⟩ := X5.out.cel (by omega)
            injection e with e
            subst e
            exact hb
          have vlt : ∀ j, Value.ownBlock (.slice vA 0 vc) = some j → j < w4.heap.size := fun j e => (O4.out.new j e).2
          have VLT := Lib.hid vlt
          have f4 := F4.out.lt
          clear vlt
          go_wp2_with fail
          refine (copied_any (n := q) (L := xs q) _ (by omega) ((show Bs wr (some ⟨w4.heap.size, 0, none⟩) k (xs q ++ xs (k - q)) from by rw [xs_app, show q + (k - q) = k by omega]; exact X5.out).head (xs_len q))).mono ?_
          rintro e w5 ⟨A5, n5, c5, rfl, hc5, O⟩
          obtain rfl : n5 = q := by have := O.len; rw [xs_len] at this; omega
          have F6 := Lib.hid (frB_later F5.out O.bel)
          have O6 := Lib.hid (O5.out.later O.bel)
          have X6 := Lib.hid (X5.out.later O.bel)
          have R6 := Lib.hid O.reads
          have C6 := Lib.hid O.cap
          have N6 : Hid (∀ a, A5 = some a → wr.heap.size ≤ a.block) := Lib.hid fun a e => (O.new a.block (by rw [e]; rfl)).1
          have z6 : wr.heap.size ≤ w5.heap.size := O.bel.size
          clear O
          go_wp2_with fail
          have hA6 : 0 < n5 → ∀ a, A5 = some a → a.block ≠ w.heap.size ∧ Value.ownBlock (.slice vA 0 vc) ≠ some a.block := fun _ a e => ⟨by have := N6.out a e; omega, fun e2 => by have := VLT.out _ e2; have := N6.out a e; omega⟩
          have HA6 := Lib.hid hA6
          clear hA6
          by_cases hq2 : n5 ≤ 65536
          · refine (fed_next (w0 := w) (v0 := .slice vA 0 vc) (M0 := []) (L := xs n5) w5 F6.out O6.out (Nat.le_refl _) V4.out (by simp) R6.out hc5 C6.out (by omega) HA6.out (feed_xs_room hq2)).mono ?_
            rintro e w6 ⟨v6, B6, c6, rfl, _, O7, hv7, F7, z7, old7⟩
            have X7 : Hid (Bs w6 (some ⟨w4.heap.size, 0, none⟩) k (xs k)) := Lib.hid (X6.out.kept fun _ a e => by
              injection e with e
              subst e
              exact old7 _ (by show w4.heap.size < w5.heap.size; omega) (by show w4.heap.size ≠ w.heap.size; omega) (fun e2 => by have := VLT.out _ e2; simp at this))
            obtain ⟨vB, vd, rfl, _⟩ := O7.shape
            have O7 := Lib.hid O7
            have F7 := Lib.hid F7
            have V7 := Lib.hid hv7
            clear hv7 old7
            by_cases hqk : k = n5
            · have Y7 : Hid (Bs w6 (some ⟨w4.heap.size, 0, none⟩) (0) (xs (0))) := Lib.hid (Bs.nil _ _)
              go_wp2_with fail
              refine (copied_any (n := 0) (L := xs (0)) _ (by omega) Y7.out).mono ?_
              rintro e w7 ⟨A8, n8, c8, rfl, hc8, O8⟩
              obtain rfl : n8 = 0 := by have := O8.len; rw [xs_len] at this; omega
              have O8 := Lib.hid O8
              go_wp2_with (at_builtin; refine wpList_app rfl _ _ rfl rfl (O8.out.later ((Below.refl _ _).alloc (Nat.le_refl _) _)) rfl (Bs.lit1 _ (by decide)) ?c4 ?_)
              case c4 => omega
              intro A9 c9 w8 hc9 O9 g9
              have F8 := Lib.hid (frB_later F7.out O9.bel)
              have O7b := Lib.hid (O7.out.later O9.bel)
              have R8 := Lib.hid O9.reads
              have C8 := Lib.hid O9.cap
              have HA8 : Hid (0 < 0 + 1 → ∀ a, A9 = some a → a.block ≠ w.heap.size ∧ Value.ownBlock (.slice vB (xs n5).length vd) ≠ some a.block) := Lib.hid fun _ a e => by
                have h1 := (O9.new a.block (by rw [e]; rfl)).1
                have h2 := F7.out.lt
                exact ⟨by omega, fun e2 => by have h3 := (O7.out.new _ e2).2; omega⟩
              clear O9 g9
              go_wp2_with fail
              by_cases hk2 : k ≤ 65536
              · have HR9 : feedS ([], xs n5, false) (xs (0) ++ [10]) = ([xs k], [], false) := by
                  have h := feed_xs_line (k := n5) (n := k) (by omega) hk2
                  rw [show k - n5 = 0 by omega] at h; exact h
                refine (fed_next (w0 := w) (v0 := .slice vB (xs n5).length vd) (M0 := xs n5) (L := xs (0) ++ [10]) w8 F8.out O7b.out (Nat.le_refl _) V7.out (by rw [xs_len]; exact hq2) R8.out hc9 C8.out (by omega) HA8.out HR9).mono ?_
                rintro e w9 ⟨v9, B9, cc9, rfl, ll9, O10, _, F10, _, _⟩
                obtain ⟨vC, ve, rfl, _⟩ := O10.shape
                have BY := Lib.hid O10.bel
                have F10 := Lib.hid F10
                obtain ⟨b9, rfl, _, hc10⟩ := ll9.row (by simp)
                obtain ⟨A10, n10, c10, ce10, _, rd10⟩ := hc10 0 (by simp)
                have hn10 : n10 = k := by have := rd10.len; simpa [xs] using this.symm
                subst hn10
                have ce11 : w9.cell? b9 = some (.slice A10 n10 c10) := by simpa [Addr.add] using ce10
                have t5 : decide (mo ≤ 0) = true := decide_eq_true (by omega)
                have t6 : (ls.length : Int) ≠ 0 := by have := L4.out; omega
                have t7 : ((ls.length : Int) == 0) = false := by rw [beq_eq_false_iff_ne]; exact t6
                clear O10 ll9 hc10 rd10
                go_wp2_with fail
                refine (held_any (n := 0) F10.out).mono ?_
                rintro e wx ⟨rfl, rfl⟩
                go_wp2_with fail
                refine (over_any F10.out).mono ?_
                rintro e wx ⟨rfl, rfl⟩
                go_wp2_with fail
                refine (works_any _).mono ?_
                rintro e wz ⟨rfl, hbz⟩
                have BZ := Lib.hid (BY.out.trans (hbz.mono BY.out.size))
                clear hbz
                go_wp2_with fail
                go_ret
                exact ⟨rfl, BZ.out⟩
              · have HR9 : feedS ([], xs n5, false) (xs (0) ++ [10]) = ([], [], true) := by
                  have h := feed_xs_over (k := n5) (n := k) hq2 (by omega)
                  rw [show k - n5 = 0 by omega] at h; exact h
                refine (fed_next (w0 := w) (v0 := .slice vB (xs n5).length vd) (M0 := xs n5) (L := xs (0) ++ [10]) w8 F8.out O7b.out (Nat.le_refl _) V7.out (by rw [xs_len]; exact hq2) R8.out hc9 C8.out (by omega) HA8.out HR9).mono ?_
                rintro e w9 ⟨v9, B9, cc9, rfl, ll9, O10, _, F10, _, _⟩
                obtain ⟨vC, ve, rfl, _⟩ := O10.shape
                have BY := Lib.hid O10.bel
                have F10 := Lib.hid F10
                have t5 : decide (mo ≤ 0) = false := decide_eq_false (by omega)
                have t6 : (ls.length : Int) ≠ 0 := by have := L4.out; omega
                have t7 : ((ls.length : Int) == 0) = false := by rw [beq_eq_false_iff_ne]; exact t6
                have t8 : decide ((65536 : Int) < (n5 : Int)) = false := decide_eq_false (by omega)
                clear O10 ll9
                go_wp2_with fail
                refine (feed_over _ F10.out).mono ?_
                rintro e wx ⟨rfl, hbx⟩
                have F11 := Lib.hid (frB_later F10.out hbx)
                have BX := Lib.hid (BY.out.trans (hbx.mono BY.out.size))
                clear hbx BY
                have BY := BX
                clear BX
                go_wp2_with fail
                refine (over_any F11.out).mono ?_
                rintro e wy ⟨rfl, rfl⟩
                go_wp2_with fail
                refine (held_any (n := 0) F11.out).mono ?_
                rintro e wy ⟨rfl, rfl⟩
                go_wp2_with fail
                refine (works_any _).mono ?_
                rintro e wz ⟨rfl, hbz⟩
                have BZ := Lib.hid (BY.out.trans (hbz.mono BY.out.size))
                clear hbz
                go_wp2_with fail
                go_ret
                exact ⟨rfl, BZ.out⟩
            · have Y7 : Hid (Bs w6 (some ⟨w4.heap.size, n5, none⟩) (k - n5) (xs (k - n5))) := Lib.hid (by
                have h := X7.out.cut (k := n5) (m := k - n5) (by omega) (Nat.le_refl _)
                rw [if_neg hqk, xs_drop, List.take_of_length_le (by rw [xs_len]; exact Nat.le_refl _), Option.map_some, show (⟨w4.heap.size, 0, none⟩ : Addr).add n5 = ⟨w4.heap.size, n5, none⟩ by unfold Addr.add; split <;> simp_all] at h
                exact h)
              go_wp2_with fail
              refine (copied_any (n := k - n5) (L := xs (k - n5)) _ (by omega) Y7.out).mono ?_
              rintro e w7 ⟨A8, n8, c8, rfl, hc8, O8⟩
              obtain rfl : n8 = k - n5 := by have := O8.len; rw [xs_len] at this; omega
              have O8 := Lib.hid O8
              go_wp2_with (at_builtin; refine wpList_app rfl _ _ rfl rfl (O8.out.later ((Below.refl _ _).alloc (Nat.le_refl _) _)) rfl (Bs.lit1 _ (by decide)) ?c4 ?_)
              case c4 => omega
              intro A9 c9 w8 hc9 O9 g9
              have F8 := Lib.hid (frB_later F7.out O9.bel)
              have O7b := Lib.hid (O7.out.later O9.bel)
              have R8 := Lib.hid O9.reads
              have C8 := Lib.hid O9.cap
              have HA8 : Hid (0 < k - n5 + 1 → ∀ a, A9 = some a → a.block ≠ w.heap.size ∧ Value.ownBlock (.slice vB (xs n5).length vd) ≠ some a.block) := Lib.hid fun _ a e => by
                have h1 := (O9.new a.block (by rw [e]; rfl)).1
                have h2 := F7.out.lt
                exact ⟨by omega, fun e2 => by have h3 := (O7.out.new _ e2).2; omega⟩
              clear O9 g9
              go_wp2_with fail
              by_cases hk2 : k ≤ 65536
              · have HR9 : feedS ([], xs n5, false) (xs (k - n5) ++ [10]) = ([xs k], [], false) := by
                  have h := feed_xs_line (k := n5) (n := k) (by omega) hk2
                  exact h
                refine (fed_next (w0 := w) (v0 := .slice vB (xs n5).length vd) (M0 := xs n5) (L := xs (k - n5) ++ [10]) w8 F8.out O7b.out (Nat.le_refl _) V7.out (by rw [xs_len]; exact hq2) R8.out hc9 C8.out (by omega) HA8.out HR9).mono ?_
                rintro e w9 ⟨v9, B9, cc9, rfl, ll9, O10, _, F10, _, _⟩
                obtain ⟨vC, ve, rfl, _⟩ := O10.shape
                have BY := Lib.hid O10.bel
                have F10 := Lib.hid F10
                obtain ⟨b9, rfl, _, hc10⟩ := ll9.row (by simp)
                obtain ⟨A10, n10, c10, ce10, _, rd10⟩ := hc10 0 (by simp)
                have hn10 : n10 = k := by have := rd10.len; simpa [xs] using this.symm
                subst hn10
                have ce11 : w9.cell? b9 = some (.slice A10 n10 c10) := by simpa [Addr.add] using ce10
                have t5 : decide (mo ≤ 0) = true := decide_eq_true (by omega)
                have t6 : (ls.length : Int) ≠ 0 := by have := L4.out; omega
                have t7 : ((ls.length : Int) == 0) = false := by rw [beq_eq_false_iff_ne]; exact t6
                clear O10 ll9 hc10 rd10
                go_wp2_with fail
                refine (held_any (n := 0) F10.out).mono ?_
                rintro e wx ⟨rfl, rfl⟩
                go_wp2_with fail
                refine (over_any F10.out).mono ?_
                rintro e wx ⟨rfl, rfl⟩
                go_wp2_with fail
                refine (works_any _).mono ?_
                rintro e wz ⟨rfl, hbz⟩
                have BZ := Lib.hid (BY.out.trans (hbz.mono BY.out.size))
                clear hbz
                go_wp2_with fail
                go_ret
                exact ⟨rfl, BZ.out⟩
              · have HR9 : feedS ([], xs n5, false) (xs (k - n5) ++ [10]) = ([], [], true) := by
                  have h := feed_xs_over (k := n5) (n := k) hq2 (by omega)
                  exact h
                refine (fed_next (w0 := w) (v0 := .slice vB (xs n5).length vd) (M0 := xs n5) (L := xs (k - n5) ++ [10]) w8 F8.out O7b.out (Nat.le_refl _) V7.out (by rw [xs_len]; exact hq2) R8.out hc9 C8.out (by omega) HA8.out HR9).mono ?_
                rintro e w9 ⟨v9, B9, cc9, rfl, ll9, O10, _, F10, _, _⟩
                obtain ⟨vC, ve, rfl, _⟩ := O10.shape
                have BY := Lib.hid O10.bel
                have F10 := Lib.hid F10
                have t5 : decide (mo ≤ 0) = false := decide_eq_false (by omega)
                have t6 : (ls.length : Int) ≠ 0 := by have := L4.out; omega
                have t7 : ((ls.length : Int) == 0) = false := by rw [beq_eq_false_iff_ne]; exact t6
                have t8 : decide ((65536 : Int) < (n5 : Int)) = false := decide_eq_false (by omega)
                clear O10 ll9
                go_wp2_with fail
                refine (feed_over _ F10.out).mono ?_
                rintro e wx ⟨rfl, hbx⟩
                have F11 := Lib.hid (frB_later F10.out hbx)
                have BX := Lib.hid (BY.out.trans (hbx.mono BY.out.size))
                clear hbx BY
                have BY := BX
                clear BX
                go_wp2_with fail
                refine (over_any F11.out).mono ?_
                rintro e wy ⟨rfl, rfl⟩
                go_wp2_with fail
                refine (held_any (n := 0) F11.out).mono ?_
                rintro e wy ⟨rfl, rfl⟩
                go_wp2_with fail
                refine (works_any _).mono ?_
                rintro e wz ⟨rfl, hbz⟩
                have BZ := Lib.hid (BY.out.trans (hbz.mono BY.out.size))
                clear hbz
                go_wp2_with fail
                go_ret
                exact ⟨rfl, BZ.out⟩
          · refine (fed_next (w0 := w) (v0 := .slice vA 0 vc) (M0 := []) (L := xs n5) w5 F6.out O6.out (Nat.le_refl _) V4.out (by simp) R6.out hc5 C6.out (by omega) HA6.out (feed_xs_full (by omega))).mono ?_
            rintro e w6 ⟨v6, B6, c6, rfl, _, O7, hv7, F7, z7, old7⟩
            have X7 : Hid (Bs w6 (some ⟨w4.heap.size, 0, none⟩) k (xs k)) := Lib.hid (X6.out.kept fun _ a e => by
              injection e with e
              subst e
              exact old7 _ (by show w4.heap.size < w5.heap.size; omega) (by show w4.heap.size ≠ w.heap.size; omega) (fun e2 => by have := VLT.out _ e2; simp at this))
            obtain ⟨vB, vd, rfl, _⟩ := O7.shape
            have B7 := Lib.hid O7.bel
            have F7 := Lib.hid F7
            clear hv7 old7 O7
            by_cases hqk : k = n5
            · have Y7 : Hid (Bs w6 (some ⟨w4.heap.size, 0, none⟩) (0) (xs (0))) := Lib.hid (Bs.nil _ _)
              go_wp2_with fail
              refine (copied_any (n := 0) (L := xs (0)) _ (by omega) Y7.out).mono ?_
              rintro e w7 ⟨A8, n8, c8, rfl, hc8, O8⟩
              obtain rfl : n8 = 0 := by have := O8.len; rw [xs_len] at this; omega
              have O8 := Lib.hid O8
              go_wp2_with (at_builtin; refine wpList_app rfl _ _ rfl rfl (O8.out.later ((Below.refl _ _).alloc (Nat.le_refl _) _)) rfl (Bs.lit1 _ (by decide)) ?c4 ?_)
              case c4 => omega
              intro A9 c9 w8 hc9 O9 g9
              have F8 := Lib.hid (frB_later F7.out O9.bel)
              have B8 := Lib.hid (B7.out.trans (O9.bel.mono B7.out.size))
              clear O9 g9
              have t5 : decide (mo ≤ 0) = false := decide_eq_false (by omega)
              have t6 : (ls.length : Int) ≠ 0 := by have := L4.out; omega
              have t7 : ((ls.length : Int) == 0) = false := by rw [beq_eq_false_iff_ne]; exact t6
              have t8 : decide ((65536 : Int) < (n5 : Int)) = true := decide_eq_true (by omega)
              go_wp2_with fail
              refine (feed_over _ F8.out).mono ?_
              rintro e w9 ⟨rfl, hb9⟩
              have F10 := Lib.hid (frB_later F8.out hb9)
              have BY := Lib.hid (B8.out.trans (hb9.mono B8.out.size))
              clear hb9
              go_wp2_with fail
              refine (feed_over _ F10.out).mono ?_
              rintro e wx ⟨rfl, hbx⟩
              have F11 := Lib.hid (frB_later F10.out hbx)
              have BX := Lib.hid (BY.out.trans (hbx.mono BY.out.size))
              clear hbx BY
              have BY := BX
              clear BX
              go_wp2_with fail
              refine (over_any F11.out).mono ?_
              rintro e wy ⟨rfl, rfl⟩
              go_wp2_with fail
              refine (held_any (n := 0) F11.out).mono ?_
              rintro e wy ⟨rfl, rfl⟩
              go_wp2_with fail
              refine (works_any _).mono ?_
              rintro e wz ⟨rfl, hbz⟩
              have BZ := Lib.hid (BY.out.trans (hbz.mono BY.out.size))
              clear hbz
              go_wp2_with fail
              go_ret
              exact ⟨rfl, BZ.out⟩
            · have Y7 : Hid (Bs w6 (some ⟨w4.heap.size, n5, none⟩) (k - n5) (xs (k - n5))) := Lib.hid (by
                have h := X7.out.cut (k := n5) (m := k - n5) (by omega) (Nat.le_refl _)
                rw [if_neg hqk, xs_drop, List.take_of_length_le (by rw [xs_len]; exact Nat.le_refl _), Option.map_some, show (⟨w4.heap.size, 0, none⟩ : Addr).add n5 = ⟨w4.heap.size, n5, none⟩ by unfold Addr.add; split <;> simp_all] at h
                exact h)
              go_wp2_with fail
              refine (copied_any (n := k - n5) (L := xs (k - n5)) _ (by omega) Y7.out).mono ?_
              rintro e w7 ⟨A8, n8, c8, rfl, hc8, O8⟩
              obtain rfl : n8 = k - n5 := by have := O8.len; rw [xs_len] at this; omega
              have O8 := Lib.hid O8
              go_wp2_with (at_builtin; refine wpList_app rfl _ _ rfl rfl (O8.out.later ((Below.refl _ _).alloc (Nat.le_refl _) _)) rfl (Bs.lit1 _ (by decide)) ?c4 ?_)
              case c4 => omega
              intro A9 c9 w8 hc9 O9 g9
              have F8 := Lib.hid (frB_later F7.out O9.bel)
              have B8 := Lib.hid (B7.out.trans (O9.bel.mono B7.out.size))
              clear O9 g9
              have t5 : decide (mo ≤ 0) = false := decide_eq_false (by omega)
              have t6 : (ls.length : Int) ≠ 0 := by have := L4.out; omega
              have t7 : ((ls.length : Int) == 0) = false := by rw [beq_eq_false_iff_ne]; exact t6
              have t8 : decide ((65536 : Int) < (n5 : Int)) = true := decide_eq_true (by omega)
              go_wp2_with fail
              refine (feed_over _ F8.out).mono ?_
              rintro e w9 ⟨rfl, hb9⟩
              have F10 := Lib.hid (frB_later F8.out hb9)
              have BY := Lib.hid (B8.out.trans (hb9.mono B8.out.size))
              clear hb9
              go_wp2_with fail
              refine (feed_over _ F10.out).mono ?_
              rintro e wx ⟨rfl, hbx⟩
              have F11 := Lib.hid (frB_later F10.out hbx)
              have BX := Lib.hid (BY.out.trans (hbx.mono BY.out.size))
              clear hbx BY
              have BY := BX
              clear BX
              go_wp2_with fail
              refine (over_any F11.out).mono ?_
              rintro e wy ⟨rfl, rfl⟩
              go_wp2_with fail
              refine (held_any (n := 0) F11.out).mono ?_
              rintro e wy ⟨rfl, rfl⟩
              go_wp2_with fail
              refine (works_any _).mono ?_
              rintro e wz ⟨rfl, hbz⟩
              have BZ := Lib.hid (BY.out.trans (hbz.mono BY.out.size))
              clear hbz
              go_wp2_with fail
              go_ret
              exact ⟨rfl, BZ.out⟩
end Go.Proofs.Ytfmfooocfcdalaa
