/- HeaderRows: the bytes of headers, which headers bytes are, and how many stand each on the one ahead. No condition but that the tables lie as laid. -/
import Derived.Test.YtkocbkckfkbmhaaDoorStr
namespace Go.Proofs.YtkocbkckfkbmhaaDoor
open Go.RowKit

set_option maxRecDepth 100000 in
set_option maxHeartbeats 8000000 in
theorem rows_law {A B : Option Addr} {n c m d : Nat} {l : List Hd} {L : List Nat} {w : World} (_ : n ≤ c) (_ : c ≤ 9223372036854775807) (hl : Hs w A n l) (hmd : m ≤ d) (hd : d ≤ 9223372036854775807) (hL : Bs w B m L) (hLd : Laid w) :
    Calls Tryd.prog 4 #[.slice A n c, .slice B m d] w fun e w' => e = .returned (.bool true) ∧ Below w.heap.size w w' := by
  have HD := Lib.hid hLd
  have HL := Lib.hid hL
  have Hl := Lib.hid hl
  clear hL hLd hl
  have fin : ∀ w1, Below w.heap.size w w1 → Calls Tryd.prog 11 #[] w1 fun e w' => e = .returned (.bool true) ∧ Below w.heap.size w w' := fun w1 b => (works_any w1 (HD.out.later HD.out.lt b)).mono fun e w' ⟨h1, h2⟩ => ⟨h1, b.trans (h2.mono b.size)⟩
  have FIN := Lib.hid fin
  clear fin
  go_enter Tryd.func4, Tryd.ntmps4
  go_wp2_with fail
  refine (heavy_any A B n m c d _).mono ?_
  rintro e w' ⟨rfl, rfl⟩
  by_cases hb : 200 < n ∨ 16384 < m
  · have t1 : (decide (200 < n) || decide (16384 < m)) = true := by simpa using hb
    rw [t1]
    clear t1
    go_wp2_with fail
    refine (FIN.out _ (Below.refl _ _)).mono ?_
    rintro e w1 ⟨rfl, hb⟩
    have HB := Lib.hid hb
    clear hb
    go_wp2_with fail
    go_ret
    exact ⟨rfl, HB.out⟩
  · have t1 : (decide (200 < n) || decide (16384 < m)) = false := by simpa using hb
    rw [t1]
    have n200 : n ≤ 200 := by omega
    have m16 : m ≤ 16384 := by omega
    clear t1 hb
    go_wp2_with fail
    refine (cut_any _ hmd hd HL.out).mono ?_
    rintro e w1 ⟨A1, n1, c1, rfl, O1⟩
    have B1 := Lib.hid O1.bel
    have H1 := Lib.hid O1
    clear O1
    go_wp2_with fail
    refine (refCut_any _ (by omega) hmd (HL.out.later B1.out)).mono ?_
    rintro e w2 ⟨A2, n2, c2, rfl, O2⟩
    have B2 := Lib.hid (B1.out.trans (O2.bel.mono B1.out.size))
    have HH1 := Lib.hid ((H1.out.later O2.bel).reads)
    have HH2 := Lib.hid O2.reads
    obtain rfl : n1 = n2 := by rw [← H1.out.len, ← O2.len]
    have z1 : Hid (n1 ≤ 1000000) := Lib.hid (by
      rw [← O2.len]
      unfold cutAll
      split
      · rw [cutN_len, HL.out.len]; omega
      · simp)
    clear O2 H1 B1
    obtain ⟨E, hE⟩ : ∃ E, cutCode L.length = E := ⟨_, rfl⟩
    rw [hE]
    clear hE
    obtain ⟨S, hS⟩ : ∃ S, strB (hsB l) = S := ⟨_, rfl⟩
    have HS := Lib.hid hS
    obtain ⟨K, hK⟩ : ∃ K, linkN l = K := ⟨_, rfl⟩
    have HKK := Lib.hid hK
    clear hS hK
    go_wp2_with fail
    refine wp_region_seg (W := w2) (by kernel_rfl) fun wa ga => ?_
    refine wpK_seg 0 1 (f := 27) (by kernel_rfl) (fun _ _ _ _ _ h => h) (by kernel_rfl) (by kernel_rfl) (by kernel_rfl) ga ?_
    apply Exists.intro
    refine ⟨?_, ?_⟩
    · intro wg hg
      simp only [List.drop_zero, List.take_succ_cons, List.take_zero]
      go_big_quiet_step (fail)
      refine wpQuiet_nil ?_
      exact rfl
    refine wpK_seg 3 1 (f := 26) (by kernel_rfl) (fun _ _ _ _ _ h => h) (by kernel_rfl) (by kernel_rfl) (by kernel_rfl) ga ?_
    apply Exists.intro
    refine ⟨?_, ?_⟩
    · intro wg hg
      simp only [List.drop_succ_cons, List.drop_zero, List.take_succ_cons, List.take_zero]
      go_big_quiet_step (fail)
      refine wpQuiet_nil ?_
      exact rfl
    refine wpK_call (f := 25) (i := 1) (by kernel_rfl) rfl rfl ga ?_
    intro wb gb K' hK
    go_simp
    refine (row_any wb (by omega) (Hl.out.later (B2.out.trans (gb.mono B2.out.size)))).mono ?_
    rintro e wn ⟨A3, n3, c3, rfl, _, O3⟩
    refine hK _ _ O3.bel ?_
    have GN := Lib.hid (Grows.trans gb O3.bel)
    have PN := Lib.hid O3.reads
    clear hK K' O3
    refine wpK_from GN.out _ _ _ _ ?_
    refine wpK_seg 2 1 (f := 24) (by kernel_rfl) (fun _ _ _ _ _ h => h) (by kernel_rfl) (by kernel_rfl) (by kernel_rfl) (Grows.refl wn) ?_
    apply Exists.intro
    refine ⟨?_, ?_⟩
    · intro wg hg
      simp only [List.drop_succ_cons, List.drop_zero, List.take_succ_cons, List.take_zero]
      have cv : ∀ u : After wg, (convert 27 9 (.slice A3 n3 c3)).run Tryd.prog u.w = .ok (.string S) u.w := fun u => by rw [← HS.out]; exact run_str ((PN.out.later hg).later u.below)
      go_big_quiet_step (fail)
      refine wpQuiet_nil ?_
      exact rfl
    refine wpK_call (f := 23) (i := 4) (by kernel_rfl) rfl rfl (Grows.refl wn) ?_
    intro wc gc K' hK
    go_simp
    refine (refRow_any wc (by omega) (Hl.out.later (B2.out.trans ((Grows.trans GN.out gc).mono B2.out.size)))).mono ?_
    rintro e wm ⟨A5, n5, c5, rfl, _, O5⟩
    refine hK _ _ O5.bel ?_
    have GM := Lib.hid (Grows.trans gc O5.bel)
    have PM := Lib.hid O5.reads
    clear hK K' O5
    refine wpK_from GM.out _ _ _ _ ?_
    have GG := Lib.hid (Grows.trans GN.out GM.out)
    refine wpK_seg 5 23 (f := 0) (by kernel_rfl) (fun _ _ _ _ _ h => h) (by kernel_rfl) (by kernel_rfl) (by kernel_rfl) (Grows.refl wm) ?_
    apply Exists.intro
    refine ⟨?_, ?_⟩
    · intro wg hg
      simp only [List.drop_succ_cons, List.drop_zero, List.take_succ_cons, List.take_zero]
      have gg := Grows.trans GG.out hg
      have BU : Hid (∀ u : After wg, Below w.heap.size w u.w) := Lib.hid (fun u => (B2.out.trans (gg.mono B2.out.size)).trans (u.below.mono (Nat.le_trans B2.out.size gg.size)))
      have cv : ∀ u : After wg, (convert 27 9 (.slice A5 n5 c5)).run Tryd.prog u.w = .ok (.string S) u.w := fun u => by rw [← HS.out]; exact run_str ((PM.out.later hg).later u.below)
      have CS : Hid (∀ u : After wg, Calls Tryd.prog 22 #[.slice A1 n1 c1, .slice A2 n1 c2] u.w fun e w' => e = .returned (.bool true) ∧ Below u.w.heap.size u.w w') := Lib.hid (fun u => by
        have q := same_any (c := c1) (d := c2) u.w z1.out z1.out (((HH1.out.later GG.out).later hg).later u.below) (((HH2.out.later GG.out).later hg).later u.below)
        rwa [decide_eq_true rfl] at q)
      have CI : Hid (∀ u : After wg, Calls Tryd.prog 23 #[.slice A n c] u.w fun e w' => e = .returned (.int .i64 (K : Nat)) ∧ Below u.w.heap.size u.w w') := Lib.hid (fun u => by
        rw [← HKK.out]; exact linked_any u.w (HD.out.later HD.out.lt (BU.out u)) (by omega) (Hl.out.later (BU.out u)))
      have CR : Hid (∀ u : After wg, Calls Tryd.prog 24 #[.slice A n c] u.w fun e w' => e = .returned (.int .i64 (K : Nat)) ∧ Below u.w.heap.size u.w w') := Lib.hid (fun u => by
        rw [← HKK.out]; exact refLinked_any u.w (by omega) (Hl.out.later (BU.out u)))
      have CW : Hid (∀ u : After wg, Calls Tryd.prog 11 #[] u.w fun e w' => e = .returned (.bool true) ∧ Below u.w.heap.size u.w w') := Lib.hid (fun u => works_at HD.out (BU.out u))
      clear gg
      repeat (go_big_quiet_step (fail))
      go_big_quiet_step (exact after_call (CS.out _))
      repeat (go_big_quiet_step (fail))
      go_big_quiet_step (exact after_call (CI.out _))
      go_big_quiet_step (fail)
      go_big_quiet_step (exact after_call (CR.out _))
      repeat (go_big_quiet_step (fail))
      go_big_quiet_step (exact after_call (CW.out _))
      repeat (go_big_quiet_step (fail))
      refine wpQuiet_nil ?_
      exact rfl
    refine wpK_end (by kernel_rfl) fun wz gz => ?_
    have gg := Grows.trans GG.out gz
    have Bz := Lib.hid (B2.out.trans (gg.mono B2.out.size))
    go_wp2_with fail
    go_ret
    exact ⟨rfl, Bz.out⟩
end Go.Proofs.YtkocbkckfkbmhaaDoor
