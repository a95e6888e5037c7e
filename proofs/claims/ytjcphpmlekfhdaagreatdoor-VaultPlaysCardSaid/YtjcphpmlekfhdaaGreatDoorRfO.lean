/- The reference's disk: On, New. No condition but bounds. -/
import Derived.Test.YtjcphpmlekfhdaaGreatDoorRfB
namespace Go.Proofs.YtjcphpmlekfhdaaGreatDoor
open Go.RowKit

section
variable {w0 w : World} {r : Nat} {F : Nat → Prop} {S : Dk}
/-- Behind i files that lost. -/
def LoAt (S : Dk) (p : List Int) : Nat → Dk
  | 0 => S
  | i + 1 => (LoAt S p i).put i ((S.at i).lose (pick p i))
theorem lo_most (S : Dk) (p : List Int) : ∀ i, (LoAt S p i).most = S.most
  | 0 => rfl
  | i + 1 => by rw [LoAt, rfput_most, lo_most S p i]
theorem lo_ok {S : Dk} (h : S.Ok) (p : List Int) : ∀ i, i ≤ 2 → (LoAt S p i).Ok
  | 0, _ => h
  | i + 1, hi => (lo_ok h p i (by omega)).put i (by rw [lo_most]; exact (h.at_ i).lose _)
set_option maxRecDepth 100000 in
set_option maxHeartbeats 8000000 in
theorem ron_any (h : Rsk w0 r F S w) (hc : S.cnt ≤ 1073741822) (hu : S.uses ≤ 1073741823) {A : Option Addr} {n c : Nat} {p : List Int} (hp : Zs w A n p) (hA : 0 < n → ∀ a, A = some a → ¬ F a.block) :
    Calls Tryz.prog 63 #[.pointer (some ⟨r, 0, none⟩), .slice A n c] w fun e W => e = .returned (.int .i64 (S.goOn p).1) ∧ RDid w0 r F w (S.goOn p).2 W := by
  have HD := Lib.hid h
  have HP : Hid (ZsP w (fun b => ¬ F b) A n p) := Lib.hid ⟨hp, hA⟩
  have HO := Lib.hid h.ok
  obtain ⟨_, _, q6⟩ := h.cell4
  clear h hp hA
  unfold Dk.goOn
  cases hs : S.off with
  | false =>
    rw [hs] at q6
    have q6' : w.cell? ⟨r, 6, none⟩ = some (.bool true) := q6
    clear q6
    go_enter Tryz.func63, Tryz.ntmps63
    go_wp2_with fail
    go_ret
    exact ⟨rfl, RDid.refl HD.out⟩
  | true =>
    rw [hs] at q6
    have q6' : w.cell? ⟨r, 6, none⟩ = some (.bool false) := q6
    have HS := Lib.hid hs
    clear q6 hs
    go_enter Tryz.func63, Tryz.ntmps63
    go_wp2_with fail
    go_loopw [5] (fun i wr => ∃ f : Nat, f ≤ 2 ∧ i = .int .i64 (f : Nat) ∧ RDid w0 r F w (LoAt S p f) wr) (fun i _ => 2 - (intOf i).toNat)
    case atStart => exact ⟨0, by omega, rfl, RDid.refl HD.out⟩
    case round =>
      obtain ⟨f, hf, rfl, R⟩ := hrel
      have HR := Lib.hid R
      clear R q6'
      rcases (by omega : f = 0 ∨ f = 1 ∨ f = 2) with rfl | rfl | rfl
      · obtain ⟨Ai, ci, q0, q1, hci, R⟩ := HR.out.dsk.file (i := 0) (.inl rfl)
        have ef : (LoAt S p 0).at 0 = S.at 0 := rfl
        rw [ef] at q0 q1 hci R
        have q0' : wr.cell? ⟨r, 0, none⟩ = some (.string (strB (S.at 0).sure)) := q0
        have q1' : wr.cell? ⟨r, 1, none⟩ = some (.slice Ai (S.at 0).loose.length ci) := q1
        have hr := pick_rng HP.out.zs.rng 0
        have okk := HO.out
        have hdn := done_any (w := wr.drew) (c := ci) (R.later rcM (Below.refl _ _).drew) (u0 := pick p 0) (by have := S.cnt_at 0; omega) hr (s0 := (S.at 0).sure) (by have := sure_len okk 0; have := S.uses_at 0; omega)
        have CF := Lib.hid hdn
        have HQ : Hid (∃ u v, wr.drew.cell? ⟨r, 0, none⟩ = some u ∧ wr.drew.cell? ⟨r, 1, none⟩ = some v ∧ (∀ k, wr.drew.frozen? ⟨r, k, none⟩ = false) ∧ RDid w0 r F w (LoAt S p 1) ((wr.drew.setCell ⟨r, 0, none⟩ (.string (strB (doneS (S.at 0).sure (S.at 0).loose (pick p 0))))).setCell ⟨r, 1, none⟩ (.slice none 0 0))) := Lib.hid (by
          have D1 := HR.out.trans (RDid.below HR.out.dsk (Below.refl _ wr).drew)
          obtain ⟨u, v, a1, a2, a3, G⟩ := rfile D1.dsk (i := 0) (.inl rfl) (L := doneS (S.at 0).sure (S.at 0).loose (pick p 0)) (by
            rw [← appl_lose]
            exact (lo_ok okk p 0 (by omega)).put 0 (by rw [lo_most]; exact (okk.at_ 0).lose (pick p 0)))
          refine ⟨u, v, a1, a2, a3, ?_⟩
          have e : LoAt S p 1 = (LoAt S p 0).put 0 ⟨doneS (S.at 0).sure (S.at 0).loose (pick p 0), []⟩ := by rw [← appl_lose]; rfl
          rw [e]
          exact D1.trans G)
        obtain ⟨Y, hY⟩ : ∃ Y, strB (doneS (S.at 0).sure (S.at 0).loose (pick p 0)) = Y := ⟨_, rfl⟩
        obtain ⟨X, hX⟩ : ∃ X, strB (S.at 0).sure = X := ⟨_, rfl⟩
        obtain ⟨m, hm⟩ : ∃ m, (S.at 0).loose.length = m := ⟨_, rfl⟩
        rw [hY] at CF HQ
        rw [hX] at CF q0'
        rw [hm] at CF q1'
        obtain ⟨v, hv⟩ : ∃ v, pick p 0 = v := ⟨_, rfl⟩
        have HPK := Lib.hid hv
        rw [hv] at CF hr
        obtain ⟨u1, u2, a1, a2, a3, G⟩ := HQ.out
        have HG := Lib.hid G
        have z1 : wr.frozen? ⟨r, 0, none⟩ = false := a3 0
        have z2 : wr.frozen? ⟨r, 1, none⟩ = false := a3 1
        clear q0 q1 hci R ef okk hdn hY hX hm hv HQ a1 a2 a3 G
        by_cases hn : 0 < n
        · have t2 : decide ((0 : Int) < (n : Int)) = true := decide_eq_true (by omega)
          obtain ⟨xa, rfl, hxb, hxc⟩ := (HP.out.keep HR.out.kept).zs.cel 0 hn
          rw [HPK.out] at hxc
          rw [show xa.add 0 = xa from rfl] at hxc
          go_wp2_with fail
          go_region_law (first | (go_simp; (with_reducible refine (CF.out).mono ?_); rintro e w' ⟨rfl, rfl⟩; go_simp))
          all_goals go_wp2_with fail
          all_goals go_roundw
          all_goals first | exact ⟨1, by omega, by go_num, HG.out⟩ | (simp [intOf]) | (simp [intOf]; omega)
        · have t2 : decide ((0 : Int) < (n : Int)) = false := decide_eq_false (by omega)
          have hv0 : v = 0 := by rw [← HPK.out]; exact pick_none (by have := HP.out.zs.len; omega)
          rw [hv0] at CF
          clear hv0
          go_wp2_with fail
          go_region_law (first | (go_simp; (with_reducible refine (CF.out).mono ?_); rintro e w' ⟨rfl, rfl⟩; go_simp))
          all_goals go_wp2_with fail
          all_goals go_roundw
          all_goals first | exact ⟨1, by omega, by go_num, HG.out⟩ | (simp [intOf]) | (simp [intOf]; omega)
      · obtain ⟨Ai, ci, q0, q1, hci, R⟩ := HR.out.dsk.file (i := 1) (.inr rfl)
        have ef : (LoAt S p 1).at 1 = S.at 1 := rfl
        rw [ef] at q0 q1 hci R
        have q0' : wr.cell? ⟨r, 2, none⟩ = some (.string (strB (S.at 1).sure)) := q0
        have q1' : wr.cell? ⟨r, 3, none⟩ = some (.slice Ai (S.at 1).loose.length ci) := q1
        have hr := pick_rng HP.out.zs.rng 1
        have okk := HO.out
        have hdn := done_any (w := wr.drew) (c := ci) (R.later rcM (Below.refl _ _).drew) (u0 := pick p 1) (by have := S.cnt_at 1; omega) hr (s0 := (S.at 1).sure) (by have := sure_len okk 1; have := S.uses_at 1; omega)
        have CF := Lib.hid hdn
        have HQ : Hid (∃ u v, wr.drew.cell? ⟨r, 2, none⟩ = some u ∧ wr.drew.cell? ⟨r, 3, none⟩ = some v ∧ (∀ k, wr.drew.frozen? ⟨r, k, none⟩ = false) ∧ RDid w0 r F w (LoAt S p 2) ((wr.drew.setCell ⟨r, 2, none⟩ (.string (strB (doneS (S.at 1).sure (S.at 1).loose (pick p 1))))).setCell ⟨r, 3, none⟩ (.slice none 0 0))) := Lib.hid (by
          have D1 := HR.out.trans (RDid.below HR.out.dsk (Below.refl _ wr).drew)
          obtain ⟨u, v, a1, a2, a3, G⟩ := rfile D1.dsk (i := 1) (.inr rfl) (L := doneS (S.at 1).sure (S.at 1).loose (pick p 1)) (by
            rw [← appl_lose]
            exact (lo_ok okk p 1 (by omega)).put 1 (by rw [lo_most]; exact (okk.at_ 1).lose (pick p 1)))
          refine ⟨u, v, a1, a2, a3, ?_⟩
          have e : LoAt S p 2 = (LoAt S p 1).put 1 ⟨doneS (S.at 1).sure (S.at 1).loose (pick p 1), []⟩ := by rw [← appl_lose]; rfl
          rw [e]
          exact D1.trans G)
        obtain ⟨Y, hY⟩ : ∃ Y, strB (doneS (S.at 1).sure (S.at 1).loose (pick p 1)) = Y := ⟨_, rfl⟩
        obtain ⟨X, hX⟩ : ∃ X, strB (S.at 1).sure = X := ⟨_, rfl⟩
        obtain ⟨m, hm⟩ : ∃ m, (S.at 1).loose.length = m := ⟨_, rfl⟩
        rw [hY] at CF HQ
        rw [hX] at CF q0'
        rw [hm] at CF q1'
        obtain ⟨v, hv⟩ : ∃ v, pick p 1 = v := ⟨_, rfl⟩
        have HPK := Lib.hid hv
        rw [hv] at CF hr
        obtain ⟨u1, u2, a1, a2, a3, G⟩ := HQ.out
        have HG := Lib.hid G
        have z1 : wr.frozen? ⟨r, 2, none⟩ = false := a3 2
        have z2 : wr.frozen? ⟨r, 3, none⟩ = false := a3 3
        clear q0 q1 hci R ef okk hdn hY hX hm hv HQ a1 a2 a3 G
        by_cases hn : 1 < n
        · have t2 : decide ((1 : Int) < (n : Int)) = true := decide_eq_true (by omega)
          obtain ⟨xa, rfl, hxb, hxc⟩ := (HP.out.keep HR.out.kept).zs.cel 1 hn
          rw [HPK.out] at hxc
          have hxc' : wr.cell? ⟨xa.block, xa.off + 1, none⟩ = some (.int .i64 v) := by have e : xa.add 1 = ⟨xa.block, xa.off + 1, none⟩ := (by unfold Addr.add; simp); rw [← e]; exact hxc
          go_wp2_with fail
          go_region_law (first | (go_simp; (with_reducible refine (CF.out).mono ?_); rintro e w' ⟨rfl, rfl⟩; go_simp))
          all_goals go_wp2_with fail
          all_goals go_roundw
          all_goals first | exact ⟨2, by omega, by go_num, HG.out⟩ | (simp [intOf]) | (simp [intOf]; omega)
        · have t2 : decide ((1 : Int) < (n : Int)) = false := decide_eq_false (by omega)
          have hv0 : v = 0 := by rw [← HPK.out]; exact pick_none (by have := HP.out.zs.len; omega)
          rw [hv0] at CF
          clear hv0
          go_wp2_with fail
          go_region_law (first | (go_simp; (with_reducible refine (CF.out).mono ?_); rintro e w' ⟨rfl, rfl⟩; go_simp))
          all_goals go_wp2_with fail
          all_goals go_roundw
          all_goals first | exact ⟨2, by omega, by go_num, HG.out⟩ | (simp [intOf]) | (simp [intOf]; omega)
      · obtain ⟨v0, v1, D, hF, hL⟩ := HR.out.dsk
        have q6 : wr.cell? ⟨r, 6, none⟩ = some (.bool false) := by
          have := D.ro.cell (k := 6) (v := .bool (!(LoAt S p 2).off)) rfl
          rw [show (LoAt S p 2).off = S.off from rfl, HS.out] at this
          exact this
        have z6 := D.ro.free 6
        have G1 := Rsk.setDid (S' := { LoAt S p 2 with off := false }) D hF hL 6 (.bool true) rfl rfl { D.ok with } rfl
        obtain ⟨u0, u1, D1, hF1, hL1⟩ := G1.dsk
        have q5 := D1.ro.cell (k := 5) (v := .int .i64 (LoAt S p 2).fuse) rfl
        have z5 := D1.ro.free 5
        have G2 := Rsk.setDid (S' := { LoAt S p 2 with off := false, fuse := -1 }) D1 hF1 hL1 5 (.int .i64 (-1)) rfl rfl { D1.ok with fuse := by simp only; omega } rfl
        have HG := Lib.hid (HR.out.trans (G1.trans G2))
        clear D hF hL G1 D1 hF1 hL1 G2
        rw [show ((2 : Nat) : Int) = (2 : Int) from rfl]
        go_wp2_with fail
        go_ret
        exact ⟨rfl, HG.out⟩
theorem rnew_any (b : Below w0.heap.size w0 w) {m : Nat} (h1 : 1 ≤ m) (h2 : m ≤ 4194304) : Calls Tryz.prog 7 #[.int .i64 (m : Nat)] w fun e w' => e = .returned (.tuple #[.pointer (some ⟨w.heap.size, 0, none⟩), .int .i64 0]) ∧ Rsk w0 w.heap.size (fun k => k = w.heap.size) (newD m) w' ∧ Below w.heap.size w w' := by
  have t1 : decide ((m : Int) < 1) = false := decide_eq_false (by omega)
  have t2 : decide ((m : Int) > 4194304) = false := decide_eq_false (by omega)
  have t3 : decide ((4194304 : Int) < (m : Int)) = false := decide_eq_false (by omega)
  have e0 : ({ data := #[] } : ByteArray) = ByteArray.empty := rfl
  have G : Hid (Rsk w0 w.heap.size (fun k => k = w.heap.size) (newD m) (w.alloc (.cells (rkV (newD m) nilS nilS).toArray 70)) ∧ Below w.heap.size w (w.alloc (.cells (rkV (newD m) nilS nilS).toArray 70))) := Lib.hid (by
    have b1 := (Below.refl _ w).alloc (Nat.le_refl _) (.cells (rkV (newD m) nilS nilS).toArray 70)
    have b2 := b.trans (b1.mono b.size)
    refine ⟨⟨nilS, nilS, ⟨own_nil b2, own_nil b2, fun k e => (by cases e), fun e => (by cases e), fun e => (by cases e), b.size, Ro.new w _ _, newD_ok h2⟩, fun k hk => ?_, fun k hk => ?_⟩, b1⟩
    · rcases hk with q | q | q
      · cases q
      · cases q
      · exact q
    · subst hk
      rw [World.size_alloc]
      exact ⟨b.size, by omega⟩)
  go_enter Tryz.func7, Tryz.ntmps7
  go_wp2_with fail
  go_returns
  exact ⟨rfl, G.out.1, G.out.2⟩
theorem rnew_not {m : Int} (h : m < 1 ∨ 4194304 < m) : Calls Tryz.prog 7 #[.int .i64 m] w fun e w' => e = .returned (.tuple #[.pointer none, .int .i64 1]) ∧ w' = w := by
  by_cases h1 : m < 1
  · have t1 : decide (m < 1) = true := decide_eq_true h1
    go_enter Tryz.func7, Tryz.ntmps7
    go_wp2_with fail
    go_returns
    exact ⟨rfl, rfl⟩
  · have h2 : 4194304 < m := by omega
    have t1 : decide (m < 1) = false := decide_eq_false h1
    have t2 : decide (m > 4194304) = true := decide_eq_true h2
    have t3 : decide (4194304 < m) = true := decide_eq_true h2
    go_enter Tryz.func7, Tryz.ntmps7
    go_wp2_with fail
    go_returns
    exact ⟨rfl, rfl⟩
end
end Go.Proofs.YtjcphpmlekfhdaaGreatDoor
