/- The reference's disk: may, burns, Room, Read, New, Fuse, Off. No condition but bounds. -/
import Derived.Test.YtjcphpmlekfhdaaGreatDoorRfM
namespace Go.Proofs.YtjcphpmlekfhdaaGreatDoor
open Go.RowKit

section
variable {w0 w : World} {r : Nat} {F : Nat → Prop} {S : Dk}
theorem rmay_any (h : Rsk w0 r F S w) (f : Int) : Calls Tryz.prog 91 #[.pointer (some ⟨r, 0, none⟩), .int .i64 f] w fun e w' => e = .returned (.int .i64 (S.ask f)) ∧ w' = w := by
  obtain ⟨_, _, q6⟩ := h.cell4
  clear h
  unfold Dk.ask
  cases hs : S.off with
  | true =>
    rw [hs] at q6
    have q6' : w.cell? ⟨r, 6, none⟩ = some (.bool false) := q6
    clear q6
    go_enter Tryz.func91, Tryz.ntmps91
    go_wp2_with fail
    go_ret
    exact ⟨rfl, rfl⟩
  | false =>
    rw [hs] at q6
    have q6' : w.cell? ⟨r, 6, none⟩ = some (.bool true) := q6
    clear q6
    by_cases h1 : f < 0
    · have t1 : decide (f < 0) = true := decide_eq_true h1
      go_enter Tryz.func91, Tryz.ntmps91
      go_wp2_with fail
      go_ret
      exact ⟨by simp [h1], rfl⟩
    · have t1 : decide (f < 0) = false := decide_eq_false h1
      by_cases h2 : 2 ≤ f
      · have t2 : decide (f > 1) = true := decide_eq_true (by omega)
        have t3 : decide (1 < f) = true := decide_eq_true (by omega)
        go_enter Tryz.func91, Tryz.ntmps91
        go_wp2_with fail
        go_ret
        exact ⟨by simp [h1, h2], rfl⟩
      · have t2 : decide (f > 1) = false := decide_eq_false (by omega)
        have t3 : decide (1 < f) = false := decide_eq_false (by omega)
        go_enter Tryz.func91, Tryz.ntmps91
        go_wp2_with fail
        go_ret
        exact ⟨by simp [h1, h2], rfl⟩
/-- Does a counted call find the power gone, and what is left of the fuse? -/
def Dk.burnt (S : Dk) : Dk := if S.fuse = 0 then { S with off := true } else S.less
theorem rburns_any (h : Rsk w0 r F S w) : Calls Tryz.prog 92 #[.pointer (some ⟨r, 0, none⟩)] w fun e W => e = .returned (.bool (decide (S.fuse = 0))) ∧ RDid w0 r F w S.burnt W := by
  have h0 := Lib.hid h
  have hf := h.ok.fuse
  obtain ⟨_, q5, q6⟩ := h.cell4
  obtain ⟨v0, v1, D, hF, hL⟩ := h
  have z5 := D.ro.free 5
  have z6 := D.ro.free 6
  have G1 := Lib.hid (Rsk.setDid (S' := { S with off := true }) D hF hL 6 (.bool false) rfl rfl (D.ok.off true) rfl)
  have G2 : 0 < S.fuse → RDid w0 r F w S.less (w.setCell ⟨r, 5, none⟩ (.int .i64 (S.fuse - 1))) := fun hp => Rsk.setDid (S' := S.less) D hF hL 5 (.int .i64 (S.fuse - 1)) rfl rfl D.ok.less (by unfold rkV Dk.less; rw [if_pos hp]; rfl)
  have G2 := Lib.hid G2
  clear D hF hL
  unfold Dk.burnt
  by_cases e0 : S.fuse = 0
  · have t1 : decide (S.fuse = 0) = true := decide_eq_true e0
    have t2 : (S.fuse == 0) = true := by rw [beq_iff_eq]; exact e0
    rw [if_pos e0, t1]
    have E := Lib.hid e0
    clear e0
    go_enter Tryz.func92, Tryz.ntmps92
    go_wp2_with fail
    go_ret
    exact ⟨rfl, G1.out⟩
  · have t1 : decide (S.fuse = 0) = false := decide_eq_false e0
    have t2 : (S.fuse == 0) = false := by rw [beq_eq_false_iff_ne]; exact e0
    rw [if_neg e0, t1]
    have E := Lib.hid e0
    clear e0
    by_cases e1 : 0 < S.fuse
    · have t3 : decide (S.fuse > 0) = true := decide_eq_true e1
      have t4 : decide (0 < S.fuse) = true := decide_eq_true e1
      have G := Lib.hid (G2.out e1)
      go_enter Tryz.func92, Tryz.ntmps92
      go_wp2_with fail
      go_ret
      exact ⟨rfl, G.out⟩
    · have t3 : decide (S.fuse > 0) = false := decide_eq_false e1
      have t4 : decide (0 < S.fuse) = false := decide_eq_false e1
      have es : S.less = S := by unfold Dk.less; rw [if_neg e1]
      rw [es]
      go_enter Tryz.func92, Tryz.ntmps92
      go_wp2_with fail
      go_ret
      exact ⟨rfl, RDid.refl h0.out⟩
theorem roff_any (h : Rsk w0 r F S w) : Calls Tryz.prog 62 #[.pointer (some ⟨r, 0, none⟩)] w fun e W => e = .returned (.int .i64 S.goOff.1) ∧ RDid w0 r F w S.goOff.2 W := by
  have h0 := Lib.hid h
  obtain ⟨_, _, q6⟩ := h.cell4
  obtain ⟨v0, v1, D, hF, hL⟩ := h
  have z6 := D.ro.free 6
  have G := Lib.hid (Rsk.setDid (S' := { S with off := true }) D hF hL 6 (.bool false) rfl rfl (D.ok.off true) rfl)
  clear D hF hL
  unfold Dk.goOff
  cases hs : S.off with
  | true =>
    rw [hs] at q6
    have q6' : w.cell? ⟨r, 6, none⟩ = some (.bool false) := q6
    clear q6
    go_enter Tryz.func62, Tryz.ntmps62
    go_wp2_with fail
    go_ret
    exact ⟨rfl, RDid.refl h0.out⟩
  | false =>
    rw [hs] at q6
    have q6' : w.cell? ⟨r, 6, none⟩ = some (.bool true) := q6
    clear q6
    go_enter Tryz.func62, Tryz.ntmps62
    go_wp2_with fail
    go_ret
    exact ⟨rfl, G.out⟩
theorem rfuse_any (h : Rsk w0 r F S w) (n : Int) (hn : -9223372036854775808 ≤ n ∧ n ≤ 9223372036854775807) : Calls Tryz.prog 61 #[.pointer (some ⟨r, 0, none⟩), .int .i64 n] w fun e W => e = .returned (.int .i64 (S.setFuse n).1) ∧ RDid w0 r F w (S.setFuse n).2 W := by
  have h0 := Lib.hid h
  obtain ⟨_, q5, q6⟩ := h.cell4
  obtain ⟨v0, v1, D, hF, hL⟩ := h
  have z5 := D.ro.free 5
  have G := Lib.hid (Rsk.setDid (S' := { S with fuse := max n (-1) }) D hF hL 5 (.int .i64 (max n (-1))) rfl rfl { D.ok with fuse := by simp only; omega } rfl)
  clear D hF hL
  unfold Dk.setFuse
  cases hs : S.off with
  | true =>
    rw [hs] at q6
    have q6' : w.cell? ⟨r, 6, none⟩ = some (.bool false) := q6
    clear q6
    go_enter Tryz.func61, Tryz.ntmps61
    go_wp2_with fail
    go_ret
    exact ⟨rfl, RDid.refl h0.out⟩
  | false =>
    rw [hs] at q6 G
    have q6' : w.cell? ⟨r, 6, none⟩ = some (.bool true) := q6
    clear q6
    rcases Int.lt_or_le n (-1) with hlt | hge
    · have em : max n (-1) = -1 := by omega
      rw [em] at G ⊢
      go_enter Tryz.func61, Tryz.ntmps61
      go_wp2_with fail
      go_ret
      exact ⟨rfl, G.out⟩
    · have em : max n (-1) = n := by omega
      have hge2 : ¬ n < -1 := by omega
      rw [em] at G ⊢
      go_enter Tryz.func61, Tryz.ntmps61
      go_wp2_with fail
      go_ret
      exact ⟨rfl, G.out⟩
set_option maxRecDepth 100000 in
set_option maxHeartbeats 4000000 in
theorem rroom_any (h : Rsk w0 r F S w) (hc : S.cnt ≤ 1073741823) (hu : S.uses ≤ 1073741823) :
    Calls Tryz.prog 23 #[.pointer (some ⟨r, 0, none⟩)] w fun e W => e = .returned (.int .i64 (S.room : Nat)) ∧ Below w.heap.size w W := by
  obtain ⟨q4, _, _⟩ := h.cell4
  have hm := h.ok.most
  have l0 := (h.ok.at_ 0).len
  have l1 := (h.ok.at_ 1).len
  have hD := Lib.hid h
  obtain ⟨a, ha⟩ : ∃ a, (S.at 0).at = a := ⟨_, rfl⟩
  obtain ⟨b, hb⟩ : ∃ b, (S.at 1).at = b := ⟨_, rfl⟩
  have hr : S.room = S.most - a.length - b.length := by rw [← ha, ← hb]; rfl
  have CF : Hid (Calls Tryz.prog 54 #[.pointer (some ⟨r, 0, none⟩), .int .i64 0] w.drew fun e w1 => e = .returned (.string (strB a)) ∧ w1.cell? ⟨r, 4, none⟩ = some (.int .i64 (S.most : Nat)) ∧
      Hid (Calls Tryz.prog 54 #[.pointer (some ⟨r, 0, none⟩), .int .i64 1] w1 fun e W => e = .returned (.string (strB b)) ∧ W.cell? ⟨r, 4, none⟩ = some (.int .i64 (S.most : Nat)) ∧ Hid (Below w.heap.size w W))) := Lib.hid (by
    have h1 := hD.out.later (Below.refl _ _).drew
    refine (rstands_any h1 (i := 0) (.inl rfl) hc hu).mono fun e w1 ⟨e1, b1⟩ => ⟨by rw [e1, ha], (h1.later b1).cell4.1, Lib.hid ?_⟩
    refine (rstands_any (h1.later b1) (i := 1) (.inr rfl) hc hu).mono fun e W ⟨e2, b2⟩ => ⟨by rw [e2, hb], ((h1.later b1).later b2).cell4.1, Lib.hid ?_⟩
    have q : Below w.heap.size w w1 := ((Below.refl _ w).drew).trans b1
    exact q.trans (b2.mono q.size))
  have sa := strB_size a
  have sb := strB_size b
  rw [ha] at l0
  rw [hb] at l1
  obtain ⟨m, hm2⟩ : ∃ m, S.most = m := ⟨_, rfl⟩
  rw [hm2] at CF q4 hm hr l0 l1
  obtain ⟨x, hx⟩ : ∃ x, a.length = x := ⟨_, rfl⟩
  obtain ⟨y, hy⟩ : ∃ y, b.length = y := ⟨_, rfl⟩
  rw [hx] at sa l0 hr
  rw [hy] at sb l1 hr
  have e1 : IntKind.i64.wrap ((m : Int) - (x : Int)) = (m : Int) - x := by rw [IntKind.wrap_i64]; omega
  have e2 : IntKind.i64.wrap ((m : Int) - (x : Int) - (y : Int)) = (m : Int) - x - y := by rw [IntKind.wrap_i64]; omega
  rw [hr]
  clear h hD ha hb hm2 hx hy hr
  have q4' : w.drew.cell? ⟨r, 4, none⟩ = some (.int .i64 (m : Nat)) := q4
  clear q4
  go_enter Tryz.func23, Tryz.ntmps23
  go_wp2_with fail
  go_region_law (first | (go_simp; (with_reducible refine (CF.out).mono ?_); rintro e w1 ⟨rfl, c1, C2⟩; go_simp) | (go_simp; (with_reducible refine (C2.out).mono ?_); rintro e w2 ⟨rfl, c2, B2⟩; go_simp))
  all_goals go_wp2_with fail
  all_goals go_returns
  all_goals exact ⟨ret_int (by omega), B2.out⟩
theorem AllB.at_ {S : Dk} (h : S.Ok) (i : Nat) : AllB (S.at i).at := allB_appl (h.at_ i).b.1 (h.at_ i).b.2
end
end Go.Proofs.YtjcphpmlekfhdaaGreatDoor
