/- Do: On, Write and Read of both disks; alike. No condition but bounds. -/
import Derived.Test.YtjcphpmlekfhdaaGreatDoorDo1
namespace Go.Proofs.YtjcphpmlekfhdaaGreatDoor
open Go.RowKit

/-- What lies in old memory reads the same in every later world of the law's. -/
theorem bs_old {w0 w1 u : World} {A : Option Addr} {n : Nat} {L : List Nat} (h : Bs w1 A n L) (hA : 0 < n → ∀ a, A = some a → a.block < w0.heap.size) (b1 : Below w0.heap.size w0 w1) (b2 : Below w0.heap.size w0 u) : Bs u A n L :=
  ⟨h.len, h.byt, fun hn => by
    obtain ⟨a, e, hb, hc⟩ := h.cel hn
    have hl := hA hn a e
    refine ⟨a, e, Nat.lt_of_lt_of_le hl b2.size, fun k hk => ?_⟩
    have e1 := b1.cell (p := a.add k) (by rw [add_block]; exact hl)
    have e2 := b2.cell (p := a.add k) (by rw [add_block]; exact hl)
    rw [e2, ← e1]
    exact hc k hk⟩
theorem zs_old {w0 w1 u : World} {A : Option Addr} {n : Nat} {L : List Int} (h : Zs w1 A n L) (hA : 0 < n → ∀ a, A = some a → a.block < w0.heap.size) (b1 : Below w0.heap.size w0 w1) (b2 : Below w0.heap.size w0 u) : Zs u A n L :=
  ⟨h.len, h.rng, fun k hk => by
    obtain ⟨a, e, hb, hc⟩ := h.cel k hk
    have hl := hA (by omega) a e
    refine ⟨a, e, Nat.lt_of_lt_of_le hl b2.size, ?_⟩
    have e1 := b1.cell (p := a.add k) (by rw [add_block]; exact hl)
    have e2 := b2.cell (p := a.add k) (by rw [add_block]; exact hl)
    rw [e2, ← e1]
    exact hc⟩
set_option maxRecDepth 100000 in
set_option maxHeartbeats 8000000 in
theorem do_on {w0 w : World} {d r : Nat} {S : Dk} {X : Nat → Prop} (T : Two w0 d r X S S w) (lt : Lt S) {s : StepD} {B : Option Addr} {nb cb : Nat} {Q : Option Addr} {nq cq : Nat} (ok : s.Ok) (hb : Bs w B nb s.b) (hBb : 0 < nb → ∀ a, B = some a → a.block < w0.heap.size) (hc : nb ≤ cb) (hcm : cb ≤ 9223372036854775807) (hq : Zs w Q nq s.p) (hQb : 0 < nq → ∀ a, Q = some a → a.block < w0.heap.size) (hqc : nq ≤ cq) (hqm : cq ≤ 9223372036854775807) (ht : s.k % 8 = 7) :
    Calls Tryz.prog 26 #[.pointer (some ⟨d, 0, none⟩), .pointer (some ⟨r, 0, none⟩), .agg (stepV s.k s.f s.n B nb cb Q nq cq).toArray] w fun e W => e = .returned (.bool true) ∧ Two w0 d r X (S.step s) (S.step s) W ∧ Kept X w W := by
  obtain ⟨k, f, n, b, p⟩ := s
  have hk := ok.k
  have hn := ok.n
  simp only at hb hq hk hn
  have g1 : Below w.heap.size w (w.alloc (.cells (stepV k f n B nb cb Q nq cq).toArray 43)) := (Below.refl _ _).alloc (Nat.le_refl _) _
  have R1 := Ro.new w 43 (stepV k f n B nb cb Q nq cq)
  have T1 := T.wide g1
  obtain ⟨V, hV⟩ : ∃ V, stepV k f n B nb cb Q nq cq = V := ⟨_, rfl⟩
  rw [hV] at g1 R1 T1
  obtain ⟨g, hg⟩ : ∃ g, w.heap.size = g := ⟨_, rfl⟩
  obtain ⟨w1, hw1⟩ : ∃ w1, w.alloc (.cells V.toArray 43) = w1 := ⟨_, rfl⟩
  have hgs : g < w1.heap.size := by rw [← hw1, World.size_alloc, hg]; omega
  rw [hw1] at R1 T1
  rw [hg] at R1 T1
  have g1' : Below w.heap.size w w1 := by rw [← hw1]; exact g1
  have T2 := T1.less (Y := fun b => X b ∨ b = g) (fun b e => e.elim .inl fun e => .inr (by subst e; exact ⟨Nat.le_refl _, hgs⟩))
  have c0 : w1.cell? ⟨g, 0, none⟩ = some (.int .u8 (k : Int)) := R1.cell (by rw [← hV]; rfl)
  have c1 : w1.cell? ⟨g, 1, none⟩ = some (.int .i64 f) := R1.cell (by rw [← hV]; rfl)
  have c2 : w1.cell? ⟨g, 2, none⟩ = some (.int .i64 n) := R1.cell (by rw [← hV]; rfl)
  have c3 : w1.cell? ⟨g, 3, none⟩ = some (.slice B nb cb) := R1.cell (by rw [← hV]; rfl)
  have c4 : w1.cell? ⟨g, 4, none⟩ = some (.slice Q nq cq) := R1.cell (by rw [← hV]; rfl)
  have HT := Lib.hid T2
  have HBw := Lib.hid (hb.later g1')
  have HQw := Lib.hid (hq.later g1')
  have HB := Lib.hid hBb
  have HQ := Lib.hid hQb
  have t0 : (k : Int) % 8 = 7 := by simp only at ht; omega
  have es : S.step ⟨k, f, n, b, p⟩ = (S.goOn p).2 := by
    simp only at ht
    unfold Dk.step
    simp [ht]
  simp only
  rw [hV, es]
  have HG1 := Lib.hid g1'
  clear T hb hBb hq hQb hV R1 T1 T2 g1 g1' es ht
  have CF : Hid (Calls Tryz.prog 18 #[.pointer (some ⟨d, 0, none⟩), .slice Q nq cq] w1.drew fun e u => e = .returned (.int .i64 (S.goOn p).1) ∧ u.cell? ⟨g, 4, none⟩ = some (.slice Q nq cq) ∧
      Hid (Calls Tryz.prog 63 #[.pointer (some ⟨r, 0, none⟩), .slice Q nq cq] u fun e W => e = .returned (.int .i64 (S.goOn p).1) ∧ Hid (Two w0 d r X (S.goOn p).2 (S.goOn p).2 W ∧ Kept X w W))) := Lib.hid (by
    have bd : Below w1.heap.size w1 w1.drew := (Below.refl _ _).drew
    refine (on_two (HT.out.later bd) lt (HQw.out.later bd) HQ.out hqc hqm).mono fun e u ⟨e1, T3, K'⟩ => ?_
    have K := (Kept.of_below (P := fun b => X b ∨ b = g) bd).trans K'
    refine ⟨e1, (K.cell (a := ⟨g, 4, none⟩) (.inr rfl) hgs).trans c4, Lib.hid ?_⟩
    exact (ron_two T3 lt (zs_old HQw.out HQ.out HT.out.bel T3.bel) HQ.out hqc hqm).mono fun e W ⟨e2, T4, K4⟩ => ⟨e2, Lib.hid ⟨T4.less fun b hb => .inl hb, (Kept.of_below HG1.out).trans ((K.trans K4).weak fun b hb _ => .inl hb)⟩⟩)
  obtain ⟨x, hx⟩ : ∃ x, (S.goOn p).1 = x := ⟨_, rfl⟩
  obtain ⟨S', hS'⟩ : ∃ S', (S.goOn p).2 = S' := ⟨_, rfl⟩
  rw [hx, hS'] at CF
  rw [hS']
  clear hx hS' HT HBw HQw hgs
  go_enter Tryz.func26, Tryz.ntmps26
  go_wp2_with fail
  go_region_law (first | (go_simp; (with_reducible refine (CF.out).mono ?_); rintro e u ⟨rfl, k4, C2⟩; go_simp) | (go_simp; (with_reducible refine (C2.out).mono ?_); rintro e W ⟨rfl, G⟩; go_simp))
  all_goals go_wp2_with fail
  all_goals go_returns
  all_goals exact ⟨rfl, G.out⟩
set_option maxRecDepth 100000 in
set_option maxHeartbeats 8000000 in
theorem do_write0 {w0 w : World} {d r : Nat} {S : Dk} {X : Nat → Prop} (T : Two w0 d r X S S w) (lt : Lt S) {s : StepD} {B : Option Addr} {nb cb : Nat} {Q : Option Addr} {nq cq : Nat} (ok : s.Ok) (hb : Bs w B nb s.b) (hBb : 0 < nb → ∀ a, B = some a → a.block < w0.heap.size) (hc : nb ≤ cb) (hcm : cb ≤ 9223372036854775807) (hq : Zs w Q nq s.p) (hQb : 0 < nq → ∀ a, Q = some a → a.block < w0.heap.size) (hqc : nq ≤ cq) (hqm : cq ≤ 9223372036854775807) (ht : s.k % 8 = 0) :
    Calls Tryz.prog 26 #[.pointer (some ⟨d, 0, none⟩), .pointer (some ⟨r, 0, none⟩), .agg (stepV s.k s.f s.n B nb cb Q nq cq).toArray] w fun e W => e = .returned (.bool true) ∧ Two w0 d r X (S.step s) (S.step s) W ∧ Kept X w W := by
  obtain ⟨k, f, n, b, p⟩ := s
  have hk := ok.k
  have hn := ok.n
  simp only at hb hq hk hn
  have g1 : Below w.heap.size w (w.alloc (.cells (stepV k f n B nb cb Q nq cq).toArray 43)) := (Below.refl _ _).alloc (Nat.le_refl _) _
  have R1 := Ro.new w 43 (stepV k f n B nb cb Q nq cq)
  have T1 := T.wide g1
  obtain ⟨V, hV⟩ : ∃ V, stepV k f n B nb cb Q nq cq = V := ⟨_, rfl⟩
  rw [hV] at g1 R1 T1
  obtain ⟨g, hg⟩ : ∃ g, w.heap.size = g := ⟨_, rfl⟩
  obtain ⟨w1, hw1⟩ : ∃ w1, w.alloc (.cells V.toArray 43) = w1 := ⟨_, rfl⟩
  have hgs : g < w1.heap.size := by rw [← hw1, World.size_alloc, hg]; omega
  rw [hw1] at R1 T1
  rw [hg] at R1 T1
  have g1' : Below w.heap.size w w1 := by rw [← hw1]; exact g1
  have T2 := T1.less (Y := fun b => X b ∨ b = g) (fun b e => e.elim .inl fun e => .inr (by subst e; exact ⟨Nat.le_refl _, hgs⟩))
  have c0 : w1.cell? ⟨g, 0, none⟩ = some (.int .u8 (k : Int)) := R1.cell (by rw [← hV]; rfl)
  have c1 : w1.cell? ⟨g, 1, none⟩ = some (.int .i64 f) := R1.cell (by rw [← hV]; rfl)
  have c2 : w1.cell? ⟨g, 2, none⟩ = some (.int .i64 n) := R1.cell (by rw [← hV]; rfl)
  have c3 : w1.cell? ⟨g, 3, none⟩ = some (.slice B nb cb) := R1.cell (by rw [← hV]; rfl)
  have c4 : w1.cell? ⟨g, 4, none⟩ = some (.slice Q nq cq) := R1.cell (by rw [← hV]; rfl)
  have HT := Lib.hid T2
  have HBw := Lib.hid (hb.later g1')
  have HQw := Lib.hid (hq.later g1')
  have HB := Lib.hid hBb
  have HQ := Lib.hid hQb
  have t0 : (k : Int) % 8 = 0 := by simp only at ht; omega
  have es : S.step ⟨k, f, n, b, p⟩ = (S.write f b).2 := by
    simp only at ht
    unfold Dk.step
    simp [ht]
  simp only
  rw [hV, es]
  have HG1 := Lib.hid g1'
  clear T hb hBb hq hQb hV R1 T1 T2 g1 g1' es ht
  have CF : Hid (Calls Tryz.prog 41 #[.pointer (some ⟨d, 0, none⟩), .int .i64 f, .slice B nb cb] w1.drew fun e u => e = .returned (.int .i64 (S.write f b).1) ∧ u.cell? ⟨g, 1, none⟩ = some (.int .i64 f) ∧ u.cell? ⟨g, 3, none⟩ = some (.slice B nb cb) ∧
      Hid (Calls Tryz.prog 64 #[.pointer (some ⟨r, 0, none⟩), .int .i64 f, .slice B nb cb] u fun e W => e = .returned (.int .i64 (S.write f b).1) ∧ Hid (Two w0 d r X (S.write f b).2 (S.write f b).2 W ∧ Kept X w W))) := Lib.hid (by
    have bd : Below w1.heap.size w1 w1.drew := (Below.refl _ _).drew
    refine (write_two (HT.out.later bd) lt f (HBw.out.later bd) HB.out hc hcm).mono fun e u ⟨e1, T3, K'⟩ => ?_
    have K := (Kept.of_below (P := fun b => X b ∨ b = g) bd).trans K'
    refine ⟨e1, (K.cell (a := ⟨g, 1, none⟩) (.inr rfl) hgs).trans c1, (K.cell (a := ⟨g, 3, none⟩) (.inr rfl) hgs).trans c3, Lib.hid ?_⟩
    exact (rwrite_two T3 lt f (bs_old HBw.out HB.out HT.out.bel T3.bel) HB.out hc hcm).mono fun e W ⟨e2, T4, K4⟩ => ⟨e2, Lib.hid ⟨T4.less fun b hb => .inl hb, (Kept.of_below HG1.out).trans ((K.trans K4).weak fun b hb _ => .inl hb)⟩⟩)
  obtain ⟨x, hx⟩ : ∃ x, (S.write f b).1 = x := ⟨_, rfl⟩
  obtain ⟨S', hS'⟩ : ∃ S', (S.write f b).2 = S' := ⟨_, rfl⟩
  rw [hx, hS'] at CF
  rw [hS']
  clear hx hS' HT HBw HQw hgs
  go_enter Tryz.func26, Tryz.ntmps26
  go_wp2_with fail
  go_region_law (first | (go_simp; (with_reducible refine (CF.out).mono ?_); rintro e u ⟨rfl, k1, k3, C2⟩; go_simp) | (go_simp; (with_reducible refine (C2.out).mono ?_); rintro e W ⟨rfl, G⟩; go_simp))
  all_goals go_wp2_with fail
  all_goals go_returns
  all_goals exact ⟨rfl, G.out⟩
set_option maxRecDepth 100000 in
set_option maxHeartbeats 8000000 in
theorem do_write1 {w0 w : World} {d r : Nat} {S : Dk} {X : Nat → Prop} (T : Two w0 d r X S S w) (lt : Lt S) {s : StepD} {B : Option Addr} {nb cb : Nat} {Q : Option Addr} {nq cq : Nat} (ok : s.Ok) (hb : Bs w B nb s.b) (hBb : 0 < nb → ∀ a, B = some a → a.block < w0.heap.size) (hc : nb ≤ cb) (hcm : cb ≤ 9223372036854775807) (hq : Zs w Q nq s.p) (hQb : 0 < nq → ∀ a, Q = some a → a.block < w0.heap.size) (hqc : nq ≤ cq) (hqm : cq ≤ 9223372036854775807) (ht : s.k % 8 = 1) :
    Calls Tryz.prog 26 #[.pointer (some ⟨d, 0, none⟩), .pointer (some ⟨r, 0, none⟩), .agg (stepV s.k s.f s.n B nb cb Q nq cq).toArray] w fun e W => e = .returned (.bool true) ∧ Two w0 d r X (S.step s) (S.step s) W ∧ Kept X w W := by
  obtain ⟨k, f, n, b, p⟩ := s
  have hk := ok.k
  have hn := ok.n
  simp only at hb hq hk hn
  have g1 : Below w.heap.size w (w.alloc (.cells (stepV k f n B nb cb Q nq cq).toArray 43)) := (Below.refl _ _).alloc (Nat.le_refl _) _
  have R1 := Ro.new w 43 (stepV k f n B nb cb Q nq cq)
  have T1 := T.wide g1
  obtain ⟨V, hV⟩ : ∃ V, stepV k f n B nb cb Q nq cq = V := ⟨_, rfl⟩
  rw [hV] at g1 R1 T1
  obtain ⟨g, hg⟩ : ∃ g, w.heap.size = g := ⟨_, rfl⟩
  obtain ⟨w1, hw1⟩ : ∃ w1, w.alloc (.cells V.toArray 43) = w1 := ⟨_, rfl⟩
  have hgs : g < w1.heap.size := by rw [← hw1, World.size_alloc, hg]; omega
  rw [hw1] at R1 T1
  rw [hg] at R1 T1
  have g1' : Below w.heap.size w w1 := by rw [← hw1]; exact g1
  have T2 := T1.less (Y := fun b => X b ∨ b = g) (fun b e => e.elim .inl fun e => .inr (by subst e; exact ⟨Nat.le_refl _, hgs⟩))
  have c0 : w1.cell? ⟨g, 0, none⟩ = some (.int .u8 (k : Int)) := R1.cell (by rw [← hV]; rfl)
  have c1 : w1.cell? ⟨g, 1, none⟩ = some (.int .i64 f) := R1.cell (by rw [← hV]; rfl)
  have c2 : w1.cell? ⟨g, 2, none⟩ = some (.int .i64 n) := R1.cell (by rw [← hV]; rfl)
  have c3 : w1.cell? ⟨g, 3, none⟩ = some (.slice B nb cb) := R1.cell (by rw [← hV]; rfl)
  have c4 : w1.cell? ⟨g, 4, none⟩ = some (.slice Q nq cq) := R1.cell (by rw [← hV]; rfl)
  have HT := Lib.hid T2
  have HBw := Lib.hid (hb.later g1')
  have HQw := Lib.hid (hq.later g1')
  have HB := Lib.hid hBb
  have HQ := Lib.hid hQb
  have t0 : (k : Int) % 8 = 1 := by simp only at ht; omega
  have es : S.step ⟨k, f, n, b, p⟩ = (S.write f b).2 := by
    simp only at ht
    unfold Dk.step
    simp [ht]
  simp only
  rw [hV, es]
  have HG1 := Lib.hid g1'
  clear T hb hBb hq hQb hV R1 T1 T2 g1 g1' es ht
  have CF : Hid (Calls Tryz.prog 41 #[.pointer (some ⟨d, 0, none⟩), .int .i64 f, .slice B nb cb] w1.drew fun e u => e = .returned (.int .i64 (S.write f b).1) ∧ u.cell? ⟨g, 1, none⟩ = some (.int .i64 f) ∧ u.cell? ⟨g, 3, none⟩ = some (.slice B nb cb) ∧
      Hid (Calls Tryz.prog 64 #[.pointer (some ⟨r, 0, none⟩), .int .i64 f, .slice B nb cb] u fun e W => e = .returned (.int .i64 (S.write f b).1) ∧ Hid (Two w0 d r X (S.write f b).2 (S.write f b).2 W ∧ Kept X w W))) := Lib.hid (by
    have bd : Below w1.heap.size w1 w1.drew := (Below.refl _ _).drew
    refine (write_two (HT.out.later bd) lt f (HBw.out.later bd) HB.out hc hcm).mono fun e u ⟨e1, T3, K'⟩ => ?_
    have K := (Kept.of_below (P := fun b => X b ∨ b = g) bd).trans K'
    refine ⟨e1, (K.cell (a := ⟨g, 1, none⟩) (.inr rfl) hgs).trans c1, (K.cell (a := ⟨g, 3, none⟩) (.inr rfl) hgs).trans c3, Lib.hid ?_⟩
    exact (rwrite_two T3 lt f (bs_old HBw.out HB.out HT.out.bel T3.bel) HB.out hc hcm).mono fun e W ⟨e2, T4, K4⟩ => ⟨e2, Lib.hid ⟨T4.less fun b hb => .inl hb, (Kept.of_below HG1.out).trans ((K.trans K4).weak fun b hb _ => .inl hb)⟩⟩)
  obtain ⟨x, hx⟩ : ∃ x, (S.write f b).1 = x := ⟨_, rfl⟩
  obtain ⟨S', hS'⟩ : ∃ S', (S.write f b).2 = S' := ⟨_, rfl⟩
  rw [hx, hS'] at CF
  rw [hS']
  clear hx hS' HT HBw HQw hgs
  go_enter Tryz.func26, Tryz.ntmps26
  go_wp2_with fail
  go_region_law (first | (go_simp; (with_reducible refine (CF.out).mono ?_); rintro e u ⟨rfl, k1, k3, C2⟩; go_simp) | (go_simp; (with_reducible refine (C2.out).mono ?_); rintro e W ⟨rfl, G⟩; go_simp))
  all_goals go_wp2_with fail
  all_goals go_returns
  all_goals exact ⟨rfl, G.out⟩
set_option maxRecDepth 100000 in
set_option maxHeartbeats 8000000 in
theorem do_read {w0 w : World} {d r : Nat} {S : Dk} {X : Nat → Prop} (T : Two w0 d r X S S w) (lt : Lt S) {s : StepD} {B : Option Addr} {nb cb : Nat} {Q : Option Addr} {nq cq : Nat} (ok : s.Ok) (hb : Bs w B nb s.b) (hBb : 0 < nb → ∀ a, B = some a → a.block < w0.heap.size) (hc : nb ≤ cb) (hcm : cb ≤ 9223372036854775807) (hq : Zs w Q nq s.p) (hQb : 0 < nq → ∀ a, Q = some a → a.block < w0.heap.size) (hqc : nq ≤ cq) (hqm : cq ≤ 9223372036854775807) (ht : s.k % 8 = 4) :
    Calls Tryz.prog 26 #[.pointer (some ⟨d, 0, none⟩), .pointer (some ⟨r, 0, none⟩), .agg (stepV s.k s.f s.n B nb cb Q nq cq).toArray] w fun e W => e = .returned (.bool true) ∧ Two w0 d r X (S.step s) (S.step s) W ∧ Kept X w W := by
  obtain ⟨k, f, n, b, p⟩ := s
  have hk := ok.k
  have hn := ok.n
  simp only at hb hq hk hn
  have g1 : Below w.heap.size w (w.alloc (.cells (stepV k f n B nb cb Q nq cq).toArray 43)) := (Below.refl _ _).alloc (Nat.le_refl _) _
  have R1 := Ro.new w 43 (stepV k f n B nb cb Q nq cq)
  have T1 := T.wide g1
  obtain ⟨V, hV⟩ : ∃ V, stepV k f n B nb cb Q nq cq = V := ⟨_, rfl⟩
  rw [hV] at g1 R1 T1
  obtain ⟨g, hg⟩ : ∃ g, w.heap.size = g := ⟨_, rfl⟩
  obtain ⟨w1, hw1⟩ : ∃ w1, w.alloc (.cells V.toArray 43) = w1 := ⟨_, rfl⟩
  have hgs : g < w1.heap.size := by rw [← hw1, World.size_alloc, hg]; omega
  rw [hw1] at R1 T1
  rw [hg] at R1 T1
  have g1' : Below w.heap.size w w1 := by rw [← hw1]; exact g1
  have T2 := T1.less (Y := fun b => X b ∨ b = g) (fun b e => e.elim .inl fun e => .inr (by subst e; exact ⟨Nat.le_refl _, hgs⟩))
  have c0 : w1.cell? ⟨g, 0, none⟩ = some (.int .u8 (k : Int)) := R1.cell (by rw [← hV]; rfl)
  have c1 : w1.cell? ⟨g, 1, none⟩ = some (.int .i64 f) := R1.cell (by rw [← hV]; rfl)
  have c2 : w1.cell? ⟨g, 2, none⟩ = some (.int .i64 n) := R1.cell (by rw [← hV]; rfl)
  have c3 : w1.cell? ⟨g, 3, none⟩ = some (.slice B nb cb) := R1.cell (by rw [← hV]; rfl)
  have c4 : w1.cell? ⟨g, 4, none⟩ = some (.slice Q nq cq) := R1.cell (by rw [← hV]; rfl)
  have HT := Lib.hid T2
  have HBw := Lib.hid (hb.later g1')
  have HQw := Lib.hid (hq.later g1')
  have HB := Lib.hid hBb
  have HQ := Lib.hid hQb
  have t0 : (k : Int) % 8 = 4 := by simp only at ht; omega
  have es : S.step ⟨k, f, n, b, p⟩ = S := by
    simp only at ht
    unfold Dk.step
    simp [ht]
  simp only
  rw [hV, es]
  have HG1 := Lib.hid g1'
  clear T hb hBb hq hQb hV R1 T1 T2 g1 g1' es ht
  have CR := Lib.hid (read_two HT.out lt f)
  have HAL : Hid (AllB (S.read f).1) := Lib.hid (by
    obtain ⟨_, _, D, _⟩ := HT.out
    unfold Dk.read
    split
    · exact allB_nil
    · exact AllB.at_ D.ok _)
  obtain ⟨L, hL⟩ : ∃ L, (S.read f).1 = L := ⟨_, rfl⟩
  obtain ⟨x, hx⟩ : ∃ x, (S.read f).2 = x := ⟨_, rfl⟩
  have HLx := Lib.hid (And.intro hL hx)
  rw [hL, hx] at CR
  rw [hL] at HAL
  clear hL hx HBw HQw
  go_enter Tryz.func26, Tryz.ntmps26
  go_wp2_with fail
  refine (CR.out).mono ?_
  rintro e u ⟨A1, n1, cc1, rfl, hB1, b1⟩
  have HB1 := Lib.hid hB1
  have HBb := Lib.hid b1
  have HT1 := Lib.hid (HT.out.later b1)
  have k1 : u.cell? ⟨g, 1, none⟩ = some (.int .i64 f) := (b1.cell (p := ⟨g, 1, none⟩) hgs).trans c1
  have CR2 := rread_two HT1.out lt f
  rw [HLx.out.1, HLx.out.2] at CR2
  have HC2 := Lib.hid CR2
  clear hB1 b1 CR2
  go_wp2_with fail
  refine (HC2.out).mono ?_
  rintro e u2 ⟨A2, n2, cc2, rfl, hB2, b2⟩
  have rs1 := run_str (c := cc1) (HB1.out.later b2)
  have rs2 := run_str (c := cc2) hB2
  have HT2 := Lib.hid (And.intro ((HT1.out.later b2).less (Y := X) fun b hb => .inl hb) ((Kept.of_below (P := X) HG1.out).trans ((Kept.of_below HBb.out).trans (Kept.of_below b2))))
  clear hB2 b2
  go_wp2_with fail
  go_ret
  exact ⟨by simp, HT2.out⟩
theorem do_any {w0 w : World} {d r : Nat} {S : Dk} {X : Nat → Prop} (T : Two w0 d r X S S w) (lt : Lt S) {s : StepD} {B : Option Addr} {nb cb : Nat} {Q : Option Addr} {nq cq : Nat} (ok : s.Ok) (hb : Bs w B nb s.b) (hBb : 0 < nb → ∀ a, B = some a → a.block < w0.heap.size) (hc : nb ≤ cb) (hcm : cb ≤ 9223372036854775807) (hq : Zs w Q nq s.p) (hQb : 0 < nq → ∀ a, Q = some a → a.block < w0.heap.size) (hqc : nq ≤ cq) (hqm : cq ≤ 9223372036854775807) :
    Calls Tryz.prog 26 #[.pointer (some ⟨d, 0, none⟩), .pointer (some ⟨r, 0, none⟩), .agg (stepV s.k s.f s.n B nb cb Q nq cq).toArray] w fun e W => e = .returned (.bool true) ∧ Two w0 d r X (S.step s) (S.step s) W ∧ Kept X w W := by
  have hk : s.k % 8 = 0 ∨ s.k % 8 = 1 ∨ s.k % 8 = 2 ∨ s.k % 8 = 3 ∨ s.k % 8 = 4 ∨ s.k % 8 = 5 ∨ s.k % 8 = 6 ∨ s.k % 8 = 7 := by omega
  rcases hk with h | h | h | h | h | h | h | h
  · exact do_write0 T lt ok hb hBb hc hcm hq hQb hqc hqm h
  · exact do_write1 T lt ok hb hBb hc hcm hq hQb hqc hqm h
  · exact do_cut T lt ok hb hBb hc hcm hq hQb hqc hqm h
  · exact do_sync T lt ok hb hBb hc hcm hq hQb hqc hqm h
  · exact do_read T lt ok hb hBb hc hcm hq hQb hqc hqm h
  · exact do_fuse T lt ok hb hBb hc hcm hq hQb hqc hqm h
  · exact do_off T lt ok hb hBb hc hcm hq hQb hqc hqm h
  · exact do_on T lt ok hb hBb hc hcm hq hQb hqc hqm h
end Go.Proofs.YtjcphpmlekfhdaaGreatDoor
