/- The reference's Root. No condition. -/
import Derived.Test.YtdenibigefchpaaDoorLeaf
namespace Go.Proofs.YtdenibigefchpaaDoor
open Go.RowKit

set_option maxRecDepth 100000 in
set_option maxHeartbeats 2000000 in
theorem refRoot_any {A : Option Addr} {n c : Nat} {l : List (List Nat)} (w : World) (hn : n ≤ 1000000) (hL : Gs w A n l) : Calls Tryd.prog 15 #[.slice A n c] w fun e w' => e = .returned (.agg (vals (root joinS z32 l)).toArray) ∧ Below w.heap.size w w' := by
  have b1 := (Below.refl w.heap.size w).alloc (Nat.le_refl _) (.cells (vals z32).toArray 24)
  have HB := Lib.hid b1
  have RZ := Lib.hid (Ro.new w 24 (vals z32))
  have HL := Lib.hid (hL.later b1)
  have HN := Lib.hid hL.len
  have lz := Lib.hid (show (vals z32).length = 32 by rw [vals_length]; exact z32_ok.1)
  clear b1 hL
  by_cases h0 : n = 0
  · subst h0
    have e1 : root joinS z32 l = z32 := by
      rw [List.eq_nil_of_length_eq_zero HN.out]
      rfl
    rw [e1]
    clear e1
    go_enter Tryd.func15, Tryd.ntmps15
    go_wp2_with (refine wpList_store_ro (vs := vals z32) rfl (.tmp 2) (.tmp 8) rfl rfl rfl row26 RZ.out rfl lz.out (vals_one _) ?_)
    intro w6 R6 g6
    go_wp2_with fail
    exact bodyPost_ret (results_ro Tryd.results15 _ rfl row26 R6 lz.out) rfl ⟨rfl, HB.out.grown g6 HB.out.size (fun q e => by injection e; omega)⟩
  · have t0 : ((n : Int) == 0) = false := by rw [beq_eq_false_iff_ne]; omega
    obtain ⟨I, hI⟩ : ∃ I, root joinS z32 l = I := ⟨_, rfl⟩
    have HI := Lib.hid hI
    rw [hI]
    clear hI
    go_enter Tryd.func15, Tryd.ntmps15
    go_wp2_with fail
    go_loopw [3] (fun v wr => ∃ (x : Rw), v = .slice x.A x.n x.c ∧ 0 < x.n ∧ x.n ≤ 1000000 ∧ Gs wr x.A x.n x.l ∧ root joinS z32 x.l = I ∧ Below (w.heap.size + 1) (w.alloc (.cells (vals z32).toArray 24)) wr) (fun v _ => match v with | .slice _ m _ => m | _ => 0)
    case atStart => exact ⟨⟨A, n, c, l⟩, rfl, by show 0 < n; omega, hn, HL.out, HI.out, Below.refl _ _⟩
    case round =>
      obtain ⟨⟨A', m, c', l'⟩, rfl, hp, hm, hg, hr, hb⟩ := hrel
      dsimp only at hp hm hg hr
      have HG := Lib.hid hg
      have HR := Lib.hid hr
      have HBB := Lib.hid hb
      have HM := Lib.hid hg.len
      clear hg hr hb
      by_cases h1 : 1 < m
      · have t1 : decide ((1 : Int) < (m : Int)) = true := decide_eq_true (by omega)
        go_wp2_with fail
        refine (refAbove_any wr hm HG.out).mono ?_
        rintro e w3 ⟨A3, c3, rfl, O3⟩
        have HO3 := Lib.hid O3
        clear O3
        go_wp2_with fail
        exact ⟨⟨⟨A3, (m + 1) / 2, c3, up joinS l'⟩, rfl, by show 0 < (m + 1) / 2; omega, by show (m + 1) / 2 ≤ 1000000; omega, HO3.out.reads, by rw [← HR.out, root_up joinS (l := l') (by rw [HM.out]; exact h1)], HBB.out.trans (HO3.out.bel.mono (by have := HBB.out.size; rw [World.size_alloc] at this; exact this))⟩, by show (m + 1) / 2 < m; omega⟩
      · have t1 : decide ((1 : Int) < (m : Int)) = false := decide_eq_false (by omega)
        obtain rfl : m = 1 := by omega
        obtain ⟨b, o, rfl, hb, _⟩ := HG.out.cel (by decide)
        have ad := add_at b o
        have R0 := (HG.out.at_ (k := 0) (by decide)).2
        rw [Nat.zero_mul, Nat.add_zero] at R0
        have e1 : nt l' 0 = I := by
          rw [← HR.out, root_short joinS (by rw [HM.out]; decide)]
          obtain ⟨a, rfl⟩ := List.length_eq_one_iff.1 HM.out
          rfl
        rw [e1] at R0
        have ok := nt_ok HG.out.ok (k := 0) (by rw [HM.out]; decide)
        rw [e1] at ok
        have HR0 := Lib.hid R0
        have ll := Lib.hid (show (vals I).length = 32 by rw [vals_length]; exact ok.1)
        have RZ3 := Lib.hid (RZ.out.later (by rw [World.size_alloc]; exact HBB.out))
        have B3 : Hid (Below w.heap.size w wr) := Lib.hid (HB.out.trans (HBB.out.mono (Nat.le_succ _)))
        clear R0 ok e1 hb
        go_wp2_with (first | (refine wpList_load_part rfl (.tmp 15) rfl rfl row26 HR0.out ll.out ?_) | (refine wpList_store_ro rfl (.tmp 2) (.tmp 16) rfl rfl rfl row26 RZ3.out rfl ll.out (vals_one _) ?_))
        intro w6 R6 g6
        go_wp2_with fail
        exact bodyPost_ret (results_ro Tryd.results15 _ rfl row26 R6 ll.out) rfl ⟨rfl, B3.out.grown g6 B3.out.size (fun q e => by injection e; omega)⟩
end Go.Proofs.YtdenibigefchpaaDoor
