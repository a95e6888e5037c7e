/- Do: a step of both disks; alike. No condition but bounds. -/
import Derived.Test.YtjcphpmlekfhdaaGreatDoorDoS
namespace Go.Proofs.YtjcphpmlekfhdaaGreatDoor
open Go.RowKit

set_option maxRecDepth 100000 in
set_option maxHeartbeats 8000000 in
theorem do_cut {w0 w : World} {d r : Nat} {S : Dk} {X : Nat → Prop} (T : Two w0 d r X S S w) (lt : Lt S) {s : StepD} {B : Option Addr} {nb cb : Nat} {Q : Option Addr} {nq cq : Nat} (ok : s.Ok) (hb : Bs w B nb s.b) (hBb : 0 < nb → ∀ a, B = some a → a.block < w0.heap.size) (hc : nb ≤ cb) (hcm : cb ≤ 9223372036854775807) (hq : Zs w Q nq s.p) (hQb : 0 < nq → ∀ a, Q = some a → a.block < w0.heap.size) (hqc : nq ≤ cq) (hqm : cq ≤ 9223372036854775807) (ht : s.k % 8 = 2) :
    Calls Tryz.prog 26 #[.pointer (some ⟨d, 0, none⟩), .pointer (some ⟨r, 0, none⟩), .agg (stepV s.k s.f s.n B nb cb Q nq cq).toArray] w fun e W => e = .returned (.bool true) ∧ Two w0 d r X (S.step s) (S.step s) W ∧ Kept X w W := by
  obtain ⟨k, f, n, b, p⟩ := s
  have hk := ok.k
  have hn := ok.n
  simp only at hb hq hk hn
  have g1 : Below w.heap.size w (w.alloc (.cells (stepV k f n B nb cb Q nq cq).toArray 43)) := (Below.refl _ _).alloc (Nat.le_refl _) _
  have R1 := Ro.new w 43 (stepV k f n B nb cb Q nq cq)
  have T1 := T.wide g1
  obtain ⟨V, hV⟩ : ∃ V, stepV k f n B nb cb Q nq cq = V := ⟨_, rfl⟩
  rw [hV] at g1 R1 T1
  obtain ⟨g, hg⟩ : ∃ g, w.heap.size = g := ⟨_, rfl⟩
  obtain ⟨w1, hw1⟩ : ∃ w1, w.alloc (.cells V.toArray 43) = w1 := ⟨_, rfl⟩
  have hgs : g < w1.heap.size := by rw [← hw1, World.size_alloc, hg]; omega
  rw [hw1] at R1 T1
  rw [hg] at R1 T1
  have g1' : Below w.heap.size w w1 := by rw [← hw1]; exact g1
  have T2 := T1.less (Y := fun b => X b ∨ b = g) (fun b e => e.elim .inl fun e => .inr (by subst e; exact ⟨Nat.le_refl _, hgs⟩))
  have c0 : w1.cell? ⟨g, 0, none⟩ = some (.int .u8 (k : Int)) := R1.cell (by rw [← hV]; rfl)
  have c1 : w1.cell? ⟨g, 1, none⟩ = some (.int .i64 f) := R1.cell (by rw [← hV]; rfl)
  have c2 : w1.cell? ⟨g, 2, none⟩ = some (.int .i64 n) := R1.cell (by rw [← hV]; rfl)
  have c3 : w1.cell? ⟨g, 3, none⟩ = some (.slice B nb cb) := R1.cell (by rw [← hV]; rfl)
  have c4 : w1.cell? ⟨g, 4, none⟩ = some (.slice Q nq cq) := R1.cell (by rw [← hV]; rfl)
  have HT := Lib.hid T2
  have HBw := Lib.hid (hb.later g1')
  have HQw := Lib.hid (hq.later g1')
  have HB := Lib.hid hBb
  have HQ := Lib.hid hQb
  have t0 : (k : Int) % 8 = 2 := by simp only at ht; omega
  have es : S.step ⟨k, f, n, b, p⟩ = (S.cut f n).2 := by
    simp only at ht
    unfold Dk.step
    simp [ht]
  simp only
  rw [hV, es]
  have HG1 := Lib.hid g1'
  clear T hb hBb hq hQb hV R1 T1 T2 g1 g1' es ht
  have CF : Hid (Calls Tryz.prog 52 #[.pointer (some ⟨d, 0, none⟩), .int .i64 f, .int .i64 n] w1.drew fun e u => e = .returned (.int .i64 (S.cut f n).1) ∧ u.cell? ⟨g, 1, none⟩ = some (.int .i64 f) ∧ u.cell? ⟨g, 2, none⟩ = some (.int .i64 n) ∧
      Hid (Calls Tryz.prog 60 #[.pointer (some ⟨r, 0, none⟩), .int .i64 f, .int .i64 n] u fun e W => e = .returned (.int .i64 (S.cut f n).1) ∧ Hid (Two w0 d r X (S.cut f n).2 (S.cut f n).2 W ∧ Kept X w W))) := Lib.hid (by
    have bd : Below w1.heap.size w1 w1.drew := (Below.refl _ _).drew
    refine (cut_two (HT.out.later bd) lt f n).mono fun e u ⟨e1, T3, K'⟩ => ?_
    have K := (Kept.of_below (P := fun b => X b ∨ b = g) bd).trans K'
    refine ⟨e1, (K.cell (a := ⟨g, 1, none⟩) (.inr rfl) hgs).trans c1, (K.cell (a := ⟨g, 2, none⟩) (.inr rfl) hgs).trans c2, Lib.hid ?_⟩
    exact (rcut_two T3 lt f n).mono fun e W ⟨e2, T4, K4⟩ => ⟨e2, Lib.hid ⟨T4.less fun b hb => .inl hb, (Kept.of_below HG1.out).trans ((K.trans K4).weak fun b hb _ => .inl hb)⟩⟩)
  obtain ⟨x, hx⟩ : ∃ x, (S.cut f n).1 = x := ⟨_, rfl⟩
  obtain ⟨S', hS'⟩ : ∃ S', (S.cut f n).2 = S' := ⟨_, rfl⟩
  rw [hx, hS'] at CF
  rw [hS']
  clear hx hS' HT HBw HQw hgs
  go_enter Tryz.func26, Tryz.ntmps26
  go_wp2_with fail
  go_region_law (first | (go_simp; (with_reducible refine (CF.out).mono ?_); rintro e u ⟨rfl, k1, k2, C2⟩; go_simp) | (go_simp; (with_reducible refine (C2.out).mono ?_); rintro e W ⟨rfl, G⟩; go_simp))
  all_goals go_wp2_with fail
  all_goals go_returns
  all_goals exact ⟨rfl, G.out⟩
set_option maxRecDepth 100000 in
set_option maxHeartbeats 8000000 in
theorem do_sync {w0 w : World} {d r : Nat} {S : Dk} {X : Nat → Prop} (T : Two w0 d r X S S w) (lt : Lt S) {s : StepD} {B : Option Addr} {nb cb : Nat} {Q : Option Addr} {nq cq : Nat} (ok : s.Ok) (hb : Bs w B nb s.b) (hBb : 0 < nb → ∀ a, B = some a → a.block < w0.heap.size) (hc : nb ≤ cb) (hcm : cb ≤ 9223372036854775807) (hq : Zs w Q nq s.p) (hQb : 0 < nq → ∀ a, Q = some a → a.block < w0.heap.size) (hqc : nq ≤ cq) (hqm : cq ≤ 9223372036854775807) (ht : s.k % 8 = 3) :
    Calls Tryz.prog 26 #[.pointer (some ⟨d, 0, none⟩), .pointer (some ⟨r, 0, none⟩), .agg (stepV s.k s.f s.n B nb cb Q nq cq).toArray] w fun e W => e = .returned (.bool true) ∧ Two w0 d r X (S.step s) (S.step s) W ∧ Kept X w W := by
  obtain ⟨k, f, n, b, p⟩ := s
  have hk := ok.k
  have hn := ok.n
  simp only at hb hq hk hn
  have g1 : Below w.heap.size w (w.alloc (.cells (stepV k f n B nb cb Q nq cq).toArray 43)) := (Below.refl _ _).alloc (Nat.le_refl _) _
  have R1 := Ro.new w 43 (stepV k f n B nb cb Q nq cq)
  have T1 := T.wide g1
  obtain ⟨V, hV⟩ : ∃ V, stepV k f n B nb cb Q nq cq = V := ⟨_, rfl⟩
  rw [hV] at g1 R1 T1
  obtain ⟨g, hg⟩ : ∃ g, w.heap.size = g := ⟨_, rfl⟩
  obtain ⟨w1, hw1⟩ : ∃ w1, w.alloc (.cells V.toArray 43) = w1 := ⟨_, rfl⟩
  have hgs : g < w1.heap.size := by rw [← hw1, World.size_alloc, hg]; omega
  rw [hw1] at R1 T1
  rw [hg] at R1 T1
  have g1' : Below w.heap.size w w1 := by rw [← hw1]; exact g1
  have T2 := T1.less (Y := fun b => X b ∨ b = g) (fun b e => e.elim .inl fun e => .inr (by subst e; exact ⟨Nat.le_refl _, hgs⟩))
  have c0 : w1.cell? ⟨g, 0, none⟩ = some (.int .u8 (k : Int)) := R1.cell (by rw [← hV]; rfl)
  have c1 : w1.cell? ⟨g, 1, none⟩ = some (.int .i64 f) := R1.cell (by rw [← hV]; rfl)
  have c2 : w1.cell? ⟨g, 2, none⟩ = some (.int .i64 n) := R1.cell (by rw [← hV]; rfl)
  have c3 : w1.cell? ⟨g, 3, none⟩ = some (.slice B nb cb) := R1.cell (by rw [← hV]; rfl)
  have c4 : w1.cell? ⟨g, 4, none⟩ = some (.slice Q nq cq) := R1.cell (by rw [← hV]; rfl)
  have HT := Lib.hid T2
  have HBw := Lib.hid (hb.later g1')
  have HQw := Lib.hid (hq.later g1')
  have HB := Lib.hid hBb
  have HQ := Lib.hid hQb
  have t0 : (k : Int) % 8 = 3 := by simp only at ht; omega
  have es : S.step ⟨k, f, n, b, p⟩ = (S.sync f).2 := by
    simp only at ht
    unfold Dk.step
    simp [ht]
  simp only
  rw [hV, es]
  have HG1 := Lib.hid g1'
  clear T hb hBb hq hQb hV R1 T1 T2 g1 g1' es ht
  have CF : Hid (Calls Tryz.prog 35 #[.pointer (some ⟨d, 0, none⟩), .int .i64 f] w1.drew fun e u => e = .returned (.int .i64 (S.sync f).1) ∧ u.cell? ⟨g, 1, none⟩ = some (.int .i64 f) ∧
      Hid (Calls Tryz.prog 57 #[.pointer (some ⟨r, 0, none⟩), .int .i64 f] u fun e W => e = .returned (.int .i64 (S.sync f).1) ∧ Hid (Two w0 d r X (S.sync f).2 (S.sync f).2 W ∧ Kept X w W))) := Lib.hid (by
    have bd : Below w1.heap.size w1 w1.drew := (Below.refl _ _).drew
    refine (sync_two (HT.out.later bd) lt f).mono fun e u ⟨e1, T3, K'⟩ => ?_
    have K := (Kept.of_below (P := fun b => X b ∨ b = g) bd).trans K'
    refine ⟨e1, (K.cell (a := ⟨g, 1, none⟩) (.inr rfl) hgs).trans c1, Lib.hid ?_⟩
    exact (rsync_two T3 lt f).mono fun e W ⟨e2, T4, K4⟩ => ⟨e2, Lib.hid ⟨T4.less fun b hb => .inl hb, (Kept.of_below HG1.out).trans ((K.trans K4).weak fun b hb _ => .inl hb)⟩⟩)
  obtain ⟨x, hx⟩ : ∃ x, (S.sync f).1 = x := ⟨_, rfl⟩
  obtain ⟨S', hS'⟩ : ∃ S', (S.sync f).2 = S' := ⟨_, rfl⟩
  rw [hx, hS'] at CF
  rw [hS']
  clear hx hS' HT HBw HQw hgs
  go_enter Tryz.func26, Tryz.ntmps26
  go_wp2_with fail
  go_region_law (first | (go_simp; (with_reducible refine (CF.out).mono ?_); rintro e u ⟨rfl, k1, C2⟩; go_simp) | (go_simp; (with_reducible refine (C2.out).mono ?_); rintro e W ⟨rfl, G⟩; go_simp))
  all_goals go_wp2_with fail
  all_goals go_returns
  all_goals exact ⟨rfl, G.out⟩
set_option maxRecDepth 100000 in
set_option maxHeartbeats 8000000 in
theorem do_fuse {w0 w : World} {d r : Nat} {S : Dk} {X : Nat → Prop} (T : Two w0 d r X S S w) (lt : Lt S) {s : StepD} {B : Option Addr} {nb cb : Nat} {Q : Option Addr} {nq cq : Nat} (ok : s.Ok) (hb : Bs w B nb s.b) (hBb : 0 < nb → ∀ a, B = some a → a.block < w0.heap.size) (hc : nb ≤ cb) (hcm : cb ≤ 9223372036854775807) (hq : Zs w Q nq s.p) (hQb : 0 < nq → ∀ a, Q = some a → a.block < w0.heap.size) (hqc : nq ≤ cq) (hqm : cq ≤ 9223372036854775807) (ht : s.k % 8 = 5) :
    Calls Tryz.prog 26 #[.pointer (some ⟨d, 0, none⟩), .pointer (some ⟨r, 0, none⟩), .agg (stepV s.k s.f s.n B nb cb Q nq cq).toArray] w fun e W => e = .returned (.bool true) ∧ Two w0 d r X (S.step s) (S.step s) W ∧ Kept X w W := by
  obtain ⟨k, f, n, b, p⟩ := s
  have hk := ok.k
  have hn := ok.n
  simp only at hb hq hk hn
  have g1 : Below w.heap.size w (w.alloc (.cells (stepV k f n B nb cb Q nq cq).toArray 43)) := (Below.refl _ _).alloc (Nat.le_refl _) _
  have R1 := Ro.new w 43 (stepV k f n B nb cb Q nq cq)
  have T1 := T.wide g1
  obtain ⟨V, hV⟩ : ∃ V, stepV k f n B nb cb Q nq cq = V := ⟨_, rfl⟩
  rw [hV] at g1 R1 T1
  obtain ⟨g, hg⟩ : ∃ g, w.heap.size = g := ⟨_, rfl⟩
  obtain ⟨w1, hw1⟩ : ∃ w1, w.alloc (.cells V.toArray 43) = w1 := ⟨_, rfl⟩
  have hgs : g < w1.heap.size := by rw [← hw1, World.size_alloc, hg]; omega
  rw [hw1] at R1 T1
  rw [hg] at R1 T1
  have g1' : Below w.heap.size w w1 := by rw [← hw1]; exact g1
  have T2 := T1.less (Y := fun b => X b ∨ b = g) (fun b e => e.elim .inl fun e => .inr (by subst e; exact ⟨Nat.le_refl _, hgs⟩))
  have c0 : w1.cell? ⟨g, 0, none⟩ = some (.int .u8 (k : Int)) := R1.cell (by rw [← hV]; rfl)
  have c1 : w1.cell? ⟨g, 1, none⟩ = some (.int .i64 f) := R1.cell (by rw [← hV]; rfl)
  have c2 : w1.cell? ⟨g, 2, none⟩ = some (.int .i64 n) := R1.cell (by rw [← hV]; rfl)
  have c3 : w1.cell? ⟨g, 3, none⟩ = some (.slice B nb cb) := R1.cell (by rw [← hV]; rfl)
  have c4 : w1.cell? ⟨g, 4, none⟩ = some (.slice Q nq cq) := R1.cell (by rw [← hV]; rfl)
  have HT := Lib.hid T2
  have HBw := Lib.hid (hb.later g1')
  have HQw := Lib.hid (hq.later g1')
  have HB := Lib.hid hBb
  have HQ := Lib.hid hQb
  have t0 : (k : Int) % 8 = 5 := by simp only at ht; omega
  have es : S.step ⟨k, f, n, b, p⟩ = (S.setFuse n).2 := by
    simp only at ht
    unfold Dk.step
    simp [ht]
  simp only
  rw [hV, es]
  have HG1 := Lib.hid g1'
  clear T hb hBb hq hQb hV R1 T1 T2 g1 g1' es ht
  have CF : Hid (Calls Tryz.prog 21 #[.pointer (some ⟨d, 0, none⟩), .int .i64 n] w1.drew fun e u => e = .returned (.int .i64 (S.setFuse n).1) ∧ u.cell? ⟨g, 2, none⟩ = some (.int .i64 n) ∧
      Hid (Calls Tryz.prog 61 #[.pointer (some ⟨r, 0, none⟩), .int .i64 n] u fun e W => e = .returned (.int .i64 (S.setFuse n).1) ∧ Hid (Two w0 d r X (S.setFuse n).2 (S.setFuse n).2 W ∧ Kept X w W))) := Lib.hid (by
    have bd : Below w1.heap.size w1 w1.drew := (Below.refl _ _).drew
    refine (fuse_two (HT.out.later bd) n hn).mono fun e u ⟨e1, T3, K'⟩ => ?_
    have K := (Kept.of_below (P := fun b => X b ∨ b = g) bd).trans K'
    refine ⟨e1, (K.cell (a := ⟨g, 2, none⟩) (.inr rfl) hgs).trans c2, Lib.hid ?_⟩
    exact (rfuse_two T3 n hn).mono fun e W ⟨e2, T4, K4⟩ => ⟨e2, Lib.hid ⟨T4.less fun b hb => .inl hb, (Kept.of_below HG1.out).trans ((K.trans K4).weak fun b hb _ => .inl hb)⟩⟩)
  obtain ⟨x, hx⟩ : ∃ x, (S.setFuse n).1 = x := ⟨_, rfl⟩
  obtain ⟨S', hS'⟩ : ∃ S', (S.setFuse n).2 = S' := ⟨_, rfl⟩
  rw [hx, hS'] at CF
  rw [hS']
  clear hx hS' HT HBw HQw hgs
  go_enter Tryz.func26, Tryz.ntmps26
  go_wp2_with fail
  go_region_law (first | (go_simp; (with_reducible refine (CF.out).mono ?_); rintro e u ⟨rfl, k2, C2⟩; go_simp) | (go_simp; (with_reducible refine (C2.out).mono ?_); rintro e W ⟨rfl, G⟩; go_simp))
  all_goals go_wp2_with fail
  all_goals go_returns
  all_goals exact ⟨rfl, G.out⟩
set_option maxRecDepth 100000 in
set_option maxHeartbeats 8000000 in
theorem do_off {w0 w : World} {d r : Nat} {S : Dk} {X : Nat → Prop} (T : Two w0 d r X S S w) (lt : Lt S) {s : StepD} {B : Option Addr} {nb cb : Nat} {Q : Option Addr} {nq cq : Nat} (ok : s.Ok) (hb : Bs w B nb s.b) (hBb : 0 < nb → ∀ a, B = some a → a.block < w0.heap.size) (hc : nb ≤ cb) (hcm : cb ≤ 9223372036854775807) (hq : Zs w Q nq s.p) (hQb : 0 < nq → ∀ a, Q = some a → a.block < w0.heap.size) (hqc : nq ≤ cq) (hqm : cq ≤ 9223372036854775807) (ht : s.k % 8 = 6) :
    Calls Tryz.prog 26 #[.pointer (some ⟨d, 0, none⟩), .pointer (some ⟨r, 0, none⟩), .agg (stepV s.k s.f s.n B nb cb Q nq cq).toArray] w fun e W => e = .returned (.bool true) ∧ Two w0 d r X (S.step s) (S.step s) W ∧ Kept X w W := by
  obtain ⟨k, f, n, b, p⟩ := s
  have hk := ok.k
  have hn := ok.n
  simp only at hb hq hk hn
  have g1 : Below w.heap.size w (w.alloc (.cells (stepV k f n B nb cb Q nq cq).toArray 43)) := (Below.refl _ _).alloc (Nat.le_refl _) _
  have R1 := Ro.new w 43 (stepV k f n B nb cb Q nq cq)
  have T1 := T.wide g1
  obtain ⟨V, hV⟩ : ∃ V, stepV k f n B nb cb Q nq cq = V := ⟨_, rfl⟩
  rw [hV] at g1 R1 T1
  obtain ⟨g, hg⟩ : ∃ g, w.heap.size = g := ⟨_, rfl⟩
  obtain ⟨w1, hw1⟩ : ∃ w1, w.alloc (.cells V.toArray 43) = w1 := ⟨_, rfl⟩
  have hgs : g < w1.heap.size := by rw [← hw1, World.size_alloc, hg]; omega
  rw [hw1] at R1 T1
  rw [hg] at R1 T1
  have g1' : Below w.heap.size w w1 := by rw [← hw1]; exact g1
  have T2 := T1.less (Y := fun b => X b ∨ b = g) (fun b e => e.elim .inl fun e => .inr (by subst e; exact ⟨Nat.le_refl _, hgs⟩))
  have c0 : w1.cell? ⟨g, 0, none⟩ = some (.int .u8 (k : Int)) := R1.cell (by rw [← hV]; rfl)
  have c1 : w1.cell? ⟨g, 1, none⟩ = some (.int .i64 f) := R1.cell (by rw [← hV]; rfl)
  have c2 : w1.cell? ⟨g, 2, none⟩ = some (.int .i64 n) := R1.cell (by rw [← hV]; rfl)
  have c3 : w1.cell? ⟨g, 3, none⟩ = some (.slice B nb cb) := R1.cell (by rw [← hV]; rfl)
  have c4 : w1.cell? ⟨g, 4, none⟩ = some (.slice Q nq cq) := R1.cell (by rw [← hV]; rfl)
  have HT := Lib.hid T2
  have HBw := Lib.hid (hb.later g1')
  have HQw := Lib.hid (hq.later g1')
  have HB := Lib.hid hBb
  have HQ := Lib.hid hQb
  have t0 : (k : Int) % 8 = 6 := by simp only at ht; omega
  have es : S.step ⟨k, f, n, b, p⟩ = S.goOff.2 := by
    simp only at ht
    unfold Dk.step
    simp [ht]
  simp only
  rw [hV, es]
  have HG1 := Lib.hid g1'
  clear T hb hBb hq hQb hV R1 T1 T2 g1 g1' es ht
  have CF : Hid (Calls Tryz.prog 17 #[.pointer (some ⟨d, 0, none⟩)] w1 fun e u => e = .returned (.int .i64 S.goOff.1) ∧
      Hid (Calls Tryz.prog 62 #[.pointer (some ⟨r, 0, none⟩)] u fun e W => e = .returned (.int .i64 S.goOff.1) ∧ Hid (Two w0 d r X S.goOff.2 S.goOff.2 W ∧ Kept X w W))) := Lib.hid (by
    refine (off_two HT.out).mono fun e u ⟨e1, T3, K'⟩ => ?_
    refine ⟨e1, Lib.hid ?_⟩
    exact (roff_two T3).mono fun e W ⟨e2, T4, K4⟩ => ⟨e2, Lib.hid ⟨T4.less fun b hb => .inl hb, (Kept.of_below HG1.out).trans ((K'.trans K4).weak fun b hb _ => .inl hb)⟩⟩)
  obtain ⟨x, hx⟩ : ∃ x, S.goOff.1 = x := ⟨_, rfl⟩
  obtain ⟨S', hS'⟩ : ∃ S', S.goOff.2 = S' := ⟨_, rfl⟩
  rw [hx, hS'] at CF
  rw [hS']
  clear hx hS' HT HBw HQw hgs
  go_enter Tryz.func26, Tryz.ntmps26
  go_wp2_with fail
  refine (CF.out).mono ?_
  rintro e u ⟨rfl, C2⟩
  go_wp2_with fail
  refine (C2.out).mono ?_
  rintro e W ⟨rfl, G⟩
  go_wp2_with fail
  go_ret
  exact ⟨by simp, G.out⟩
end Go.Proofs.YtjcphpmlekfhdaaGreatDoor
