/- DiskPlays: what a disk answers, call by call. No condition but the machine's reach. -/
import Derived.Test.YtgnomopiofpknaaDo2
namespace Go.Proofs.Ytgnomopiofpknaa
open Go.RowKit

/-- Behind j steps. -/
def PlAt (w : World) (d r m : Nat) (l : List StepD) (j : Nat) (wr : World) : Prop :=
  ∃ S, Two w d r noP S S wr ∧ S.cnt ≤ wts (l.take j) ∧ S.uses ≤ wts (l.take j)
theorem PlAt.lt {w wr : World} {d r m : Nat} {l : List StepD} {j : Nat} {S : Dk} (h1 : S.cnt ≤ wts (l.take j)) (h2 : S.uses ≤ wts (l.take j)) (hw : wts l ≤ 8192) : Lt S := by
  have := wts_take l j
  exact ⟨by omega, by omega⟩
theorem PlAt.step {w wr : World} {d r m n b o : Nat} {l : List StepD} {j : Nat} (H : PlAt w d r m l j wr) (hL : Rows w anyP 5 StepR (some ⟨b, o, none⟩) n l) (hj : j < l.length) (hw : wts l ≤ 8192) :
    ∃ V, V.length = 5 ∧ wr.rangeAt b (o + j * 5) V ∧ Calls Try.prog 12 #[.pointer (some ⟨d, 0, none⟩), .pointer (some ⟨r, 0, none⟩), .agg V.toArray] wr fun e W => e = .returned (.bool true) ∧ PlAt w d r m l (j + 1) W := by
  obtain ⟨S, T, h1, h2⟩ := H
  obtain ⟨B, cb, Q, cq, hr, ok, c1, c2, c3, c4, c5, c6⟩ := step_whole hL hj
  have hbb := (hL.at_ hj).1
  have oldb : 0 < l[j].b.length → ∀ a, B = some a → a.block < w.heap.size := fun h0 a e => by
    obtain ⟨a', e', hb', _⟩ := c3.cel h0
    rw [e] at e'
    injection e' with e'
    subst e'
    exact hb'
  have oldq : 0 < l[j].p.length → ∀ a, Q = some a → a.block < w.heap.size := fun h0 a e => by
    obtain ⟨a', e', hb', _⟩ := c6.cel 0 h0
    rw [e] at e'
    injection e' with e'
    subst e'
    exact hb'
  refine ⟨_, rfl, fun q v hq => (T.bel.cell (p := ⟨b, o + j * 5 + q, none⟩) hbb).trans (hr q v hq), (do_any T (PlAt.lt (w := w) (wr := wr) (d := d) (r := r) (m := m) h1 h2 hw) ok (c3.later T.bel) oldb c1 c2 (c6.later T.bel) oldq c4 c5).mono fun e W ⟨e1, T'⟩ => ⟨e1, _, T', ?_, ?_⟩⟩
  · rw [wts_next hj]
    have := (step_uses S l[j]).1
    omega
  · rw [wts_next hj]
    have := (step_uses S l[j]).2
    omega
theorem two_new {w w1 w2 : World} {d m : Nat} (D : Dp w d noP (newD m) w1) (b1 : Below w1.heap.size w1 w2) (K : Rsk w w1.heap.size (fun k => k = w1.heap.size) (newD m) w2) : Two w d w1.heap.size noP (newD m) (newD m) w2 := by
  obtain ⟨F, D, _⟩ := D
  refine ⟨F, _, D.later b1, K, fun b hf hg => ?_, fun b hb => hb.elim⟩
  obtain ⟨_, _, _, _, _, _, _, _, hl⟩ := D
  have := (hl b hf).2
  have e : b = w1.heap.size := hg
  omega
set_option maxRecDepth 100000 in
set_option maxHeartbeats 8000000 in
theorem plays_law {z : Int} (hz : -9223372036854775808 ≤ z ∧ z ≤ 9223372036854775807) {A : Option Addr} {n c : Nat} {l : List StepD} {w : World} (hn : n ≤ 140737488351232) (hL : Rows w anyP 5 StepR A n l) :
    Calls Try.prog 3 #[.int .i64 z, .slice A n c] w fun e w' => e = .returned (.bool true) ∧ Below w.heap.size w w' := by
  have HL := Lib.hid hL
  have hln := hL.len
  have CH := Lib.hid (heavy_any (c := c) w hn hL)
  clear hL
  by_cases h1 : 8192 < wts l
  · rw [decide_eq_true h1] at CH
    go_enter Try.func3, Try.ntmps3
    go_wp2_with fail
    refine (CH.out).mono ?_
    rintro e w1 ⟨rfl, hb⟩
    have B1 := Lib.hid hb
    clear hb
    go_wp2_with fail
    refine (works_any _).mono ?_
    rintro e w2 ⟨rfl, hb⟩
    have B2 := Lib.hid (B1.out.trans (hb.mono B1.out.size))
    clear hb
    go_wp2_with fail
    go_ret
    exact ⟨rfl, B2.out⟩
  · rw [decide_eq_false h1] at CH
    have HW : Hid (wts l ≤ 8192) := Lib.hid (by omega)
    clear h1
    by_cases hm : z < 1 ∨ 4194304 < z
    · go_enter Try.func3, Try.ntmps3
      go_wp2_with fail
      refine (CH.out).mono ?_
      rintro e w1 ⟨rfl, hb⟩
      have B1 := Lib.hid hb
      clear hb
      go_wp2_with fail
      refine (new_not hm).mono ?_
      rintro e w2 ⟨rfl, rfl⟩
      go_wp2_with fail
      refine (rnew_not hm).mono ?_
      rintro e w3 ⟨rfl, rfl⟩
      go_wp2_with fail
      refine (works_any _).mono ?_
      rintro e w2 ⟨rfl, hb⟩
      have B2 := Lib.hid (B1.out.trans (hb.mono B1.out.size))
      clear hb
      go_wp2_with fail
      go_ret
      exact ⟨rfl, B2.out⟩
    · obtain ⟨m, rfl⟩ : ∃ m : Nat, z = (m : Int) := ⟨z.toNat, by omega⟩
      have hm1 : 1 ≤ m := by omega
      have hm2 : m ≤ 4194304 := by omega
      clear hm
      go_enter Try.func3, Try.ntmps3
      go_wp2_with fail
      refine (CH.out).mono ?_
      rintro e w1 ⟨rfl, hb⟩
      have B1 := Lib.hid hb
      clear hb
      go_wp2_with fail
      refine (new_p (X := noP) B1.out (fun k hk => hk.elim) hm1 hm2).mono ?_
      rintro e w2 ⟨d, rfl, hd, D', g2⟩
      have D2 := Lib.hid D'
      clear D' g2 hd
      go_wp2_with fail
      refine (rnew_any D2.out.bel hm1 hm2).mono ?_
      rintro e w3 ⟨rfl, K3, b3⟩
      have HT := Lib.hid (two_new D2.out b3 K3)
      clear K3 b3 D2 B1
      obtain ⟨r, hr⟩ : ∃ r, w2.heap.size = r := ⟨_, rfl⟩
      rw [hr] at HT ⊢
      clear hr
      have HP : Hid (PlAt w d r m l 0 w3) := Lib.hid ⟨_, HT.out, Nat.zero_le _, Nat.zero_le _⟩
      clear HT
      go_wp2_with fail
      go_loopw [9] (fun i wr => ∃ j : Nat, j ≤ n ∧ i = .int .i64 (j : Nat) ∧ PlAt w d r m l j wr) (fun i _ => n - (intOf i).toNat)
      case atStart => exact ⟨0, Nat.zero_le _, rfl, HP.out⟩
      case round =>
        obtain ⟨j, hj, rfl, P1⟩ := hrel
        have HP1 := Lib.hid P1
        clear P1 HP
        by_cases hjn : j < n
        · have t2 : decide ((j : Int) < (n : Int)) = true := decide_eq_true (by omega)
          obtain ⟨b, o, rfl⟩ := rows_some HL.out (by omega)
          obtain ⟨V, hV, hr, CC⟩ := HP1.out.step HL.out (by omega) HW.out
          have HR := Lib.hid hr
          have HCC := Lib.hid CC
          clear hr CC
          go_wp2_with (refine wpList_plain rfl fun _ hK => wp_load_part rfl (.tmp 46) rfl rfl rowStep HR.out hV (hK _ _ ?_))
          refine (HCC.out).mono ?_
          rintro e w5 ⟨rfl, P2⟩
          have HP2 := Lib.hid P2
          clear P2
          obtain ⟨S, T, k1, k2⟩ := HP2.out
          have HT := Lib.hid T
          have HLt := Lib.hid (PlAt.lt (w := w) (wr := w5) (d := d) (r := r) (m := m) k1 k2 HW.out)
          have K1 := Lib.hid k1
          have K2 := Lib.hid k2
          clear T k1 k2
          have CR := Lib.hid (room_two HT.out)
          obtain ⟨q, hq⟩ : ∃ q, S.room = q := ⟨_, rfl⟩
          rw [hq] at CR
          have HQ := Lib.hid hq
          clear hq
          go_wp2_with fail
          refine (CR.out).mono ?_
          rintro e w6 ⟨rfl, b6⟩
          have HT6 := Lib.hid (HT.out.later b6)
          clear b6
          have CR2 := rroom_two HT6.out HLt.out
          rw [HQ.out] at CR2
          have HCR2 := Lib.hid CR2
          clear CR2
          go_wp2_with fail
          refine (HCR2.out).mono ?_
          rintro e w7 ⟨rfl, b7⟩
          have HP7 : Hid (PlAt w d r m l (j + 1) w7) := Lib.hid ⟨S, HT6.out.later b7, K1.out, K2.out⟩
          clear b7
          go_wp2_with fail
          go_roundw
          case rel => exact ⟨j + 1, by omega, by go_num, HP7.out⟩
          case measure => simp [intOf]; omega
        · have t2 : decide ((j : Int) < (n : Int)) = false := decide_eq_false (by omega)
          have HB : Hid (Below w.heap.size w wr) := Lib.hid (by obtain ⟨_, T, _⟩ := HP1.out; exact T.bel)
          go_wp2_with fail
          refine (works_any _).mono ?_
          rintro e w4 ⟨rfl, hb⟩
          have HB4 := Lib.hid (HB.out.trans (hb.mono HB.out.size))
          clear hb
          go_wp2_with fail
          go_ret
          exact ⟨rfl, HB4.out⟩
end Go.Proofs.Ytgnomopiofpknaa
