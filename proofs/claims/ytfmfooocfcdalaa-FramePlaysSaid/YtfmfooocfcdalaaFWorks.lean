/- The anchor of layer 5's laws: the chapter's example. No condition. -/
import Derived.Test.YtfmfooocfcdalaaFrs
import Derived.Lib.SmallJoins
namespace Go.Proofs.Ytfmfooocfcdalaa
open Go.RowKit

/-- Feed of a framer that holds bytes. -/
theorem fed_gen {w0 : World} {A : Option Addr} {n c f : Nat} {v0 : Value} {M0 L : List Nat} (w : World) (h : FrB w f v0 false) (hO : Own w0 v0 M0.length M0 w) (hfw : w0.heap.size ≤ f) (hvf : v0.ownBlock ≠ some f) (hM0 : M0.length ≤ 65536)
    (hL : Bs w A n L) (hnc : n ≤ c) (hc : c ≤ 9223372036854775807) (hn : n ≤ 549755813888) (hA : 0 < n → ∀ a, A = some a → a.block ≠ f ∧ v0.ownBlock ≠ some a.block) :
    Calls Try.prog 11 #[.pointer (some ⟨f, 0, none⟩), .slice A n c] w fun e W =>
      ∃ ls M ov v B c, feedS ([], M0, false) L = (ls, M, ov) ∧ e = .returned (.tuple #[.slice B ls.length c, .int .i64 (if ov then 6 else 0)]) ∧ Ll W B ls.length ls ∧ Own w0 v M.length M W ∧ FrB W f v ov := by
  refine (callsIn_wide.1 (feed_in (w0 := w0) w h hO hfw hvf hM0 hL hnc hc hn hA)).mono ?_
  rintro e W ⟨ls, M, ov, v, lv, vs, h1, rfl, h2, J, F⟩
  have hs := feedS_small L ([], M0, false) (by simp) hM0
  rw [h1] at hs
  obtain ⟨B, c', rfl, hl⟩ := J.ll hs.1
  exact ⟨ls, M, ov, v, B, c', h1, rfl, hl, J.held, F⟩

/-- Bytes of a text's literal: their block bears a mark. -/
theorem Bs.litM (w : World) (L : List Nat) (h : AllB L) (fr : Nat × Nat) : Bs (w.alloc (.cells (vals L).toArray 5 fr)) (some ⟨w.heap.size, 0, none⟩) L.length L := by
  refine ⟨rfl, h, fun _ => ⟨_, rfl, by simp, fun k hk => ?_⟩⟩
  have e : (⟨w.heap.size, 0, none⟩ : Addr).add k = ⟨w.heap.size, k, none⟩ := by unfold Addr.add; split <;> simp_all
  rw [e]
  have hh := heap_alloc_new w (.cells (vals L).toArray 5 fr)
  unfold World.cell?
  simp only [hh]
  simpa using vals_get L k hk
theorem frB_later {W W' : World} {f : Nat} {v : Value} {ov : Bool} (h : FrB W f v ov) (g : Below W.heap.size W W') : FrB W' f v ov := (g.block f h.lt).trans h

set_option maxRecDepth 100000 in
set_option maxHeartbeats 4000000 in
theorem works_any (w : World) : Calls Try.prog 7 #[] w fun e w' => e = .returned (.bool true) ∧ Below w.heap.size w w' := by
  go_enter Try.func7, Try.ntmps7
  go_wp2_with fail
  refine (new_any _).mono ?_
  rintro e w1 ⟨rfl, rfl⟩
  have B0 : Below w.heap.size w (w.alloc (.cells #[.slice none 0 0, .bool false] 48)) := (Below.refl _ _).alloc (Nat.le_refl _) _
  have F0 := Lib.hid ((new_frB w).alloc (.cells (vals [97, 98]).toArray 5 (2, 3)))
  have B1 : Hid (Below w.heap.size w ((w.alloc (.cells #[.slice none 0 0, .bool false] 48)).alloc (.cells (vals [97, 98]).toArray 5 (2, 3)))) := Lib.hid (B0.alloc B0.size _)
  have L1 : Hid (Bs ((w.alloc (.cells #[.slice none 0 0, .bool false] 48)).alloc (.cells (vals [97, 98]).toArray 5 (2, 3))) (some ⟨w.heap.size + 1, 0, none⟩) 2 [97, 98]) := Lib.hid (by
    have h := Bs.litM (w.alloc (.cells #[.slice none 0 0, .bool false] 48)) [97, 98] (fun x hx => by simp at hx; omega) (2, 3)
    rwa [World.size_alloc] at h)
  clear B0
  have k1 := Go.Joins.run_convert_bytes_const_at (P := Try.prog) (w.alloc (.cells #[.slice none 0 0, .bool false] 48)) 27 5 #[.int .u8 97, .int .u8 98] 2 2 (w.heap.size + 1) (by simp) Try.underlying27 Try.underlying5
  go_wp2_with fail
  clear k1
  refine (fed_any (w0 := w) (n := 2) (c := 2) (L := [97, 98]) _ B1.out F0.out (Nat.le_refl _) L1.out (by decide) (by decide) (by decide) (fun _ a e => by injection e with e; subst e; show w.heap.size + 1 ≠ w.heap.size; omega)).mono ?_
  rintro e w2 ⟨ls, M, ov, v, lB, lc, h1, rfl, hl, _, _, O, hv, F, old⟩
  obtain ⟨rfl, rfl, rfl⟩ : ls = [] ∧ M = [97, 98] ∧ ov = false := by
    have e : feedS ([], [], false) [97, 98] = ([], [97, 98], false) := by decide
    rw [e] at h1
    simp only [Prod.mk.injEq] at h1
    exact ⟨h1.1.symm, h1.2.1.symm, h1.2.2.symm⟩
  have B2 := Lib.hid O.bel
  have O2 := Lib.hid (O.later ((Below.refl _ _).alloc (Nat.le_refl _) (.cells (vals [99, 10, 10, 100]).toArray 5 (4, 5))))
  have F2 := Lib.hid (F.alloc (.cells (vals [99, 10, 10, 100]).toArray 5 (4, 5)))
  have L2 := Lib.hid (Bs.litM w2 [99, 10, 10, 100] (fun x hx => by simp at hx; omega) (4, 5))
  have HV := Lib.hid hv
  have S2 : Hid (w.heap.size < w2.heap.size) := Lib.hid F.lt
  have N2 : Hid (∀ k, v.ownBlock = some k → k < w2.heap.size) := Lib.hid fun k e => (O.new k e).2
  clear hl O F old hv h1
  have k1 := Go.Joins.run_convert_bytes_const_at (P := Try.prog) w2 27 5 #[.int .u8 99, .int .u8 10, .int .u8 10, .int .u8 100] 4 4 w2.heap.size rfl Try.underlying27 Try.underlying5
  go_wp2_with fail
  clear k1
  refine (fed_gen (w0 := w) (n := 4) (c := 4) (M0 := [97, 98]) (L := [99, 10, 10, 100]) _ F2.out O2.out (Nat.le_refl _) HV.out (by simp) L2.out (by decide) (by decide) (by decide) (fun _ a e => by
    injection e with e
    subst e
    refine ⟨by have := S2.out; show w2.heap.size ≠ _; omega, fun e2 => ?_⟩
    have := N2.out _ e2
    simp at this)).mono ?_
  rintro e w3 ⟨ls, M, ov, v3, B3, c3, h1, rfl, hl, O, F⟩
  obtain ⟨rfl, rfl, rfl⟩ : ls = [[97, 98, 99], []] ∧ M = [100] ∧ ov = false := by
    have e : feedS ([], [97, 98], false) [99, 10, 10, 100] = ([[97, 98, 99], []], [100], false) := by decide
    rw [e] at h1
    simp only [Prod.mk.injEq] at h1
    exact ⟨h1.1.symm, h1.2.1.symm, h1.2.2.symm⟩
  obtain ⟨vA, vc, rfl, _⟩ := O.shape
  have HL3 := Lib.hid hl
  have B4 := Lib.hid O.bel
  have F4 := Lib.hid F
  clear hl O F h1
  obtain ⟨W5, hW5⟩ : ∃ W5, W5 = (w3.alloc (.cells (vals [97, 98, 99]).toArray 5 (3, 4))).alloc (.cells #[.slice (some ⟨w3.heap.size, 0, none⟩) 3 3, .slice none 0 0] 27) := ⟨_, rfl⟩
  have g5 : Below w3.heap.size w3 W5 := by rw [hW5]; exact ((Below.refl _ _).alloc (Nat.le_refl _) _).alloc (by simp only [World.size_alloc]; omega) _
  have LL : Ll W5 (some ⟨w3.heap.size + 1, 0, none⟩) 2 [[97, 98, 99], []] := by
    refine ⟨rfl, fun _ => ⟨_, rfl, by rw [hW5]; simp only [World.size_alloc]; omega, fun i hi => ?_⟩⟩
    have hh : W5.heap[w3.heap.size + 1]? = some (.cells #[.slice (some ⟨w3.heap.size, 0, none⟩) 3 3, .slice none 0 0] 27 (0, 0)) := by
      rw [hW5]
      have := World.alloc_heap_new (w3.alloc (.cells (vals [97, 98, 99]).toArray 5 (3, 4))) (.cells #[.slice (some ⟨w3.heap.size, 0, none⟩) 3 3, .slice none 0 0] 27)
      rwa [World.size_alloc] at this
    have hc0 : W5.cell? ⟨w3.heap.size + 1, 0, none⟩ = some (.slice (some ⟨w3.heap.size, 0, none⟩) 3 3) := by unfold World.cell?; simp only [hh]; rfl
    have hc1 : W5.cell? ⟨w3.heap.size + 1, 1, none⟩ = some (.slice none 0 0) := by unfold World.cell?; simp only [hh]; rfl
    match i, hi with
    | 0, _ =>
      refine ⟨some ⟨w3.heap.size, 0, none⟩, 3, 3, hc0, by decide, ?_⟩
      rw [hW5]
      exact (Bs.litM w3 [97, 98, 99] (fun x hx => by simp at hx; omega) (3, 4)).later ((Below.refl _ _).alloc (Nat.le_refl _) _)
    | 1, _ => exact ⟨none, 0, 0, hc1, by decide, Bs.nil _ _⟩
  have SA := Lib.hid (sames_any W5 (by decide) (by decide) (c := c3) (d := 2) (HL3.out.later g5) LL)
  have G5 := Lib.hid g5
  clear g5 LL
  have k1 := Go.Joins.run_convert_bytes_const_at (P := Try.prog) w3 27 5 #[.int .u8 97, .int .u8 98, .int .u8 99] 3 3 w3.heap.size rfl Try.underlying27 Try.underlying5
  go_wp2_with fail
  clear k1
  subst hW5
  refine (SA.out).mono ?_
  rintro e w6 ⟨rfl, hb⟩
  rw [show decide True = true from rfl]
  have B6 := Lib.hid (B4.out.trans ((G5.out.mono B4.out.size).trans (hb.mono (Nat.le_trans B4.out.size G5.out.size))))
  have F6 : Hid (FrB w6 w.heap.size (.slice vA 1 vc) false) := Lib.hid (frB_later (frB_later F4.out G5.out) hb)
  clear hb SA G5
  go_wp2_with fail
  refine (held_any (n := 1) F6.out).mono ?_
  rintro e w7 ⟨rfl, rfl⟩
  go_wp2_with fail
  refine (over_any F6.out).mono ?_
  rintro e w8 ⟨rfl, rfl⟩
  go_wp2_with fail
  go_ret
  exact ⟨rfl, B6.out⟩
end Go.Proofs.Ytfmfooocfcdalaa
