/- The reference's disk: a file that is set; Sync, Read, New. No condition but bounds. -/
import Derived.Test.YtjcphpmlekfhdaaGreatDoorRfC
namespace Go.Proofs.YtjcphpmlekfhdaaGreatDoor
open Go.RowKit

section
variable {w0 w : World} {r : Nat} {F : Nat → Prop} {S : Dk}
theorem own_nil {T : TypeId} {w0 w : World} (b : Below w0.heap.size w0 w) : OwnRw T 3 RcR w0 noP (.slice none 0 0) 0 [] w := OwnRw.none_ b
/-- File i set to bytes, with nothing loose. -/
theorem rfile (h : Rsk w0 r F S w) {i : Nat} (hi : i = 0 ∨ i = 1) {L : List Nat} (ok : (S.put i ⟨L, []⟩).Ok) :
    ∃ u v, w.cell? ⟨r, 2 * i, none⟩ = some u ∧ w.cell? ⟨r, 2 * i + 1, none⟩ = some v ∧ (∀ k, w.frozen? ⟨r, k, none⟩ = false) ∧ RDid w0 r F w (S.put i ⟨L, []⟩) ((w.setCell ⟨r, 2 * i, none⟩ (.string (strB L))).setCell ⟨r, 2 * i + 1, none⟩ (.slice none 0 0)) := by
  obtain ⟨v0, v1, D, hF, hL⟩ := h
  have k1 := kept_set w r (2 * i) (.string (strB L)) (P := fun b => b ≠ r) fun h => h rfl
  have k2 := kept_set (w.setCell ⟨r, 2 * i, none⟩ (.string (strB L))) r (2 * i + 1) (.slice none 0 0) (P := fun b => b ≠ r) fun h => h rfl
  have k := k1.trans k2
  have hb : Below w0.heap.size w0 ((w.setCell ⟨r, 2 * i, none⟩ (.string (strB L))).setCell ⟨r, 2 * i + 1, none⟩ (.slice none 0 0)) := (D.bel.setCell (p := ⟨r, 2 * i, none⟩) D.lo _).setCell (p := ⟨r, 2 * i + 1, none⟩) D.lo _
  have sz : ((w.setCell ⟨r, 2 * i, none⟩ (.string (strB L))).setCell ⟨r, 2 * i + 1, none⟩ (.slice none 0 0)).heap.size = w.heap.size := by simp
  have gr : ∀ b, Gr F w ((w.setCell ⟨r, 2 * i, none⟩ (.string (strB L))).setCell ⟨r, 2 * i + 1, none⟩ (.slice none 0 0)) b → w0.heap.size ≤ b ∧ b < ((w.setCell ⟨r, 2 * i, none⟩ (.string (strB L))).setCell ⟨r, 2 * i + 1, none⟩ (.slice none 0 0)).heap.size := fun b h => by
    rcases h with h | h
    · rw [sz]; exact hL b h
    · have := h.1; have := D.bel.size; exact ⟨by omega, h.2⟩
  have l0 := D.l0.kept rcM k.size (fun b h hl => k.blk b (fun e => by rcases h with h | h; exact h.elim; exact D.n0 (e ▸ h)) hl) hb
  have l1 := D.l1.kept rcM k.size (fun b h hl => k.blk b (fun e => by rcases h with h | h; exact h.elim; exact D.n1 (e ▸ h)) hl) hb
  have kk : Kept (fun b => ¬ F b) w ((w.setCell ⟨r, 2 * i, none⟩ (.string (strB L))).setCell ⟨r, 2 * i + 1, none⟩ (.slice none 0 0)) := k.weak fun b h _ e => h (e ▸ hF r (.inr (.inr rfl)))
  rcases hi with rfl | rfl
  · exact ⟨_, _, D.ro.cell rfl, D.ro.cell rfl, D.ro.free, ⟨_, v1, ⟨own_nil hb, l1, fun b e => (by cases e), fun e => (by cases e), D.n1, D.lo, (D.ro.set 0 _).set 1 _, ok⟩, fun b hb2 => by
      rcases hb2 with q | q | q
      · cases q
      · exact .inl (hF b (.inr (.inl q)))
      · exact .inl (hF b (.inr (.inr q))), gr⟩, kk⟩
  · exact ⟨_, _, D.ro.cell rfl, D.ro.cell rfl, D.ro.free, ⟨v0, _, ⟨l0, own_nil hb, fun b _ e => (by cases e), D.n0, fun e => (by cases e), D.lo, (D.ro.set 2 _).set 3 _, ok⟩, fun b hb2 => by
      rcases hb2 with q | q | q
      · exact .inl (hF b (.inl q))
      · cases q
      · exact .inl (hF b (.inr (.inr q))), gr⟩, kk⟩
set_option maxRecDepth 100000 in
set_option maxHeartbeats 8000000 in
theorem rsync_any (h : Rsk w0 r F S w) (hc : S.cnt ≤ 1073741822) (hu : S.uses ≤ 1073741823) (f : Int) :
    Calls Tryz.prog 57 #[.pointer (some ⟨r, 0, none⟩), .int .i64 f] w fun e W => e = .returned (.int .i64 (S.sync f).1) ∧ RDid w0 r F w (S.sync f).2 W := by
  have HD := Lib.hid h
  have CM := Lib.hid (rmay_any h f)
  clear h
  unfold Dk.sync
  by_cases ha : S.ask f = 0
  · rw [ha] at CM
    rw [if_neg (fun q => q ha)]
    obtain ⟨i, rfl, hi⟩ := ask_file ha
    rw [show ((i : Int).toNat) = i from Int.toNat_natCast i]
    clear ha
    rw [Dk.burn_eq]
    by_cases hf : S.fuse = 0
    · rw [if_pos hf]
      have CB := Lib.hid (rburns_any HD.out)
      rw [decide_eq_true hf] at CB
      clear hf
      go_enter Tryz.func57, Tryz.ntmps57
      go_wp2_with fail
      refine (CM.out).mono ?_
      rintro e w1 ⟨rfl, rfl⟩
      go_wp2_with fail
      refine (CB.out).mono ?_
      rintro e w3 ⟨rfl, D3⟩
      have HD3 := Lib.hid D3
      clear D3
      go_wp2_with fail
      go_ret
      exact ⟨rfl, HD3.out⟩
    · rw [if_neg hf]
      have CB := Lib.hid (rburns_any HD.out)
      rw [decide_eq_false hf] at CB
      clear hf
      have hu2 : S.burnt.uses ≤ 1073741823 := by
        have e : S.burnt.uses = S.uses := by
          unfold Dk.burnt Dk.less Dk.uses
          split <;> rfl
        rw [e]; exact hu
      go_enter Tryz.func57, Tryz.ntmps57
      go_wp2_with fail
      refine (CM.out).mono ?_
      rintro e w1 ⟨rfl, rfl⟩
      go_wp2_with fail
      refine (CB.out).mono ?_
      rintro e w3 ⟨rfl, D3⟩
      have HD3 := Lib.hid D3
      clear D3
      go_wp2_with fail
      refine (rstands_any HD3.out.dsk hi (by rw [Dk.burnt_cnt]; omega) hu2).mono ?_
      rintro e w4 ⟨rfl, b4⟩
      rw [Dk.burnt_at]
      have HD4 := Lib.hid (HD3.out.trans (RDid.below HD3.out.dsk b4))
      clear b4
      have ok := HD.out.ok
      obtain ⟨u, v, q0, q1, z, G⟩ := rfile HD4.out.dsk hi (L := (S.at i).at) (by
        refine (Dk.burnt_ok ok).put i ?_
        rw [Dk.burnt_most]
        exact (ok.at_ i).settle)
      have HG := Lib.hid (show RDid w0 r F w1 (S.burnt.put i (S.at i).settle) _ from HD4.out.trans G)
      clear G ok HD4 HD3
      have z0 := z (2 * i)
      have z1 := z (2 * i + 1)
      clear z
      obtain ⟨y, hy⟩ : ∃ y, strB (S.at i).at = y := ⟨_, rfl⟩
      rw [hy] at HG ⊢
      clear hy
      rcases hi with rfl | rfl
      · have q0' : w4.cell? ⟨r, 0, none⟩ = some u := q0
        have q1' : w4.cell? ⟨r, 1, none⟩ = some v := q1
        have z0' : w4.frozen? ⟨r, 0, none⟩ = false := z0
        have z1' : w4.frozen? ⟨r, 1, none⟩ = false := z1
        clear q0 q1 z0 z1
        go_wp2_with fail
        go_ret
        exact ⟨rfl, HG.out⟩
      · have q0' : w4.cell? ⟨r, 2, none⟩ = some u := q0
        have q1' : w4.cell? ⟨r, 3, none⟩ = some v := q1
        have z0' : w4.frozen? ⟨r, 2, none⟩ = false := z0
        have z1' : w4.frozen? ⟨r, 3, none⟩ = false := z1
        clear q0 q1 z0 z1
        go_wp2_with fail
        go_ret
        exact ⟨rfl, HG.out⟩
  · rw [if_pos ha]
    have t1 : decide (S.ask f = 0) = false := decide_eq_false ha
    have t2 : (S.ask f == 0) = false := by rw [beq_eq_false_iff_ne]; exact ha
    obtain ⟨z, hz⟩ : ∃ z, S.ask f = z := ⟨_, rfl⟩
    rw [hz] at CM t1 t2
    have HZ := Lib.hid hz
    clear ha hz
    go_enter Tryz.func57, Tryz.ntmps57
    go_wp2_with fail
    refine (CM.out).mono ?_
    rintro e w1 ⟨rfl, rfl⟩
    go_wp2_with fail
    go_ret
    exact ⟨by rw [HZ.out]; rfl, RDid.refl HD.out⟩
/-- What Read gives. -/
def RRd (w : World) (L : List Nat) (x : Int) (e : Ending) (W : World) : Prop := ∃ A n c, e = .returned (.tuple #[.slice A n c, .int .i64 x]) ∧ Bs W A n L ∧ Below w.heap.size w W
set_option maxRecDepth 100000 in
theorem rread_any (h : Rsk w0 r F S w) (hc : S.cnt ≤ 1073741823) (hu : S.uses ≤ 1073741823) (f : Int) :
    Calls Tryz.prog 25 #[.pointer (some ⟨r, 0, none⟩), .int .i64 f] w (RRd w (S.read f).1 (S.read f).2) := by
  have HD := Lib.hid h
  obtain ⟨_, _, q6⟩ := h.cell4
  clear h
  unfold Dk.read Dk.ask
  cases hs : S.off with
  | true =>
    rw [hs] at q6
    have q6' : w.cell? ⟨r, 6, none⟩ = some (.bool false) := q6
    clear q6
    go_enter Tryz.func25, Tryz.ntmps25
    go_wp2_with fail
    go_returns
    exact ⟨_, _, _, rfl, Bs.nil _ _, Below.refl _ _⟩
  | false =>
    rw [hs] at q6
    have q6' : w.cell? ⟨r, 6, none⟩ = some (.bool true) := q6
    clear q6
    by_cases h1 : f < 0
    · have t1 : decide (f < 0) = true := decide_eq_true h1
      have e : (if f < 0 ∨ 2 ≤ f then (1 : Int) else 0) = 1 := if_pos (.inl h1)
      simp only [Bool.false_eq_true, if_false, e]
      go_enter Tryz.func25, Tryz.ntmps25
      go_wp2_with fail
      go_returns
      exact ⟨_, _, _, rfl, Bs.nil _ _, Below.refl _ _⟩
    · have t1 : decide (f < 0) = false := decide_eq_false h1
      by_cases h2 : 2 ≤ f
      · have t2 : decide (f > 1) = true := decide_eq_true (by omega)
        have t3 : decide (1 < f) = true := decide_eq_true (by omega)
        have e : (if f < 0 ∨ 2 ≤ f then (1 : Int) else 0) = 1 := if_pos (.inr h2)
        simp only [Bool.false_eq_true, if_false, e]
        go_enter Tryz.func25, Tryz.ntmps25
        go_wp2_with fail
        go_returns
        exact ⟨_, _, _, rfl, Bs.nil _ _, Below.refl _ _⟩
      · have t2 : decide (f > 1) = false := decide_eq_false (by omega)
        have t3 : decide (1 < f) = false := decide_eq_false (by omega)
        have e : (if f < 0 ∨ 2 ≤ f then (1 : Int) else 0) = 0 := if_neg (by omega)
        simp only [Bool.false_eq_true, if_false, e]
        obtain ⟨i, rfl, hi⟩ : ∃ i : Nat, f = (i : Int) ∧ (i = 0 ∨ i = 1) := ⟨f.toNat, by omega, by omega⟩
        rw [show ((i : Int).toNat) = i from Int.toNat_natCast i]
        clear e h1 h2
        have CS := Lib.hid (rstands_any HD.out hi hc hu)
        have HB := Lib.hid (AllB.at_ HD.out.ok i)
        obtain ⟨L, hL⟩ : ∃ L, (S.at i).at = L := ⟨_, rfl⟩
        rw [hL] at CS HB
        simp only [ne_eq, not_true_eq_false, if_false, hL]
        clear hL
        go_enter Tryz.func25, Tryz.ntmps25
        go_wp2_with fail
        refine (CS.out).mono ?_
        rintro e w1 ⟨rfl, b1⟩
        obtain ⟨c, w2, rb, hB, b2⟩ := rfbytes HB.out w1
        have B1 := Lib.hid b1
        have B2 := Lib.hid b2
        have HBs := Lib.hid hB
        clear b1 b2 hB
        go_wp2_with fail
        go_returns
        exact ⟨_, _, _, rfl, HBs.out, B1.out.trans (B2.out.mono B1.out.size)⟩
end
end Go.Proofs.YtjcphpmlekfhdaaGreatDoor
