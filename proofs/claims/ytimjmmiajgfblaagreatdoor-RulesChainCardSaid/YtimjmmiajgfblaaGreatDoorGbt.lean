/- The median of the last times, as the package rules has it: the one in the middle. No condition but the length. -/
import Derived.Test.YtimjmmiajgfblaaGreatDoorGbo
import Derived.Test.YtimjmmiajgfblaaGreatDoorInsA
import Derived.Test.YtimjmmiajgfblaaGreatDoorGbn
import Derived.Test.YtimjmmiajgfblaaGreatDoorGai

namespace Go.Proofs.YtimjmmiajgfblaaGreatDoor
open Go.RowKit

def tms (l : List Hd) : List Nat := l.map (·.t)
theorem tms_take {l : List Hd} {k : Nat} (h : k < l.length) : tms (l.take (k + 1)) = tms (l.take k) ++ [(nthH l k).t] := by
  unfold tms
  rw [take_nthH h, List.map_append]
  rfl

set_option maxRecDepth 100000 in
set_option maxHeartbeats 4000000 in
theorem median_any {A : Option Addr} {n c : Nat} {l : List Hd} (w : World) (hn : n ≤ 1000000) (hc : n ≤ c) (hL : Hs w A n l) : Calls Tryz.prog 14 #[.slice A n c] w fun e w' => e = .returned (.int .u32 (medS l : Nat)) ∧ Below w.heap.size w w' := by
  have HL := Lib.hid hL
  have HN := Lib.hid hL.len
  clear hL
  by_cases h0 : n = 0
  · subst h0
    have : l = [] := List.eq_nil_of_length_eq_zero HN.out
    subst this
    go_enter Tryz.func14, Tryz.ntmps14
    go_wp2_with fail
    go_ret
    exact ⟨rfl, Below.refl _ _⟩
  obtain ⟨b, o, rfl, _, _⟩ := HL.out.cel (by omega)
  have ad := add_at b o
  have zn : ((n : Int) == 0) = false := by simp; omega
  obtain ⟨k0, hk0⟩ : ∃ k0, n - 11 = k0 := ⟨_, rfl⟩
  have ym : max (0 : Int) ((n : Int) - 11) = (k0 : Int) := by omega
  have kl : k0 < n := by omega
  have L1 := Lib.hid (HL.out.right (k := k0) (by omega))
  have O0 := Lib.hid ((⟨World.ownsRow_nil _ _ _ _, allW_nil, Below.refl _ _⟩ : Wn w (.slice none 0 0) 0 [] w))
  have eS : Hid (timesOf l = tms (l.drop k0)) := Lib.hid (by unfold timesOf tms; rw [HN.out, hk0])
  have m11 : n - k0 ≤ 11 := by omega
  clear hk0
  go_enter Tryz.func14, Tryz.ntmps14
  go_wp2_with fail
  clear ad ym
  obtain ⟨m, hm⟩ : ∃ m, n - k0 = m := ⟨_, rfl⟩
  obtain ⟨q, hq⟩ : ∃ q, o + k0 * 68 = q := ⟨_, rfl⟩
  obtain ⟨M, hM⟩ : ∃ M, l.drop k0 = M := ⟨_, rfl⟩
  obtain ⟨d, hd⟩ : ∃ d, c - k0 = d := ⟨_, rfl⟩
  rw [hm, hq, hM] at L1
  rw [hM] at eS
  rw [hm, hq, hd]
  have m1 : 1 ≤ m := by omega
  rw [hm] at m11
  have ml : Hid (M.length = m) := Lib.hid L1.out.len
  clear hm hq hM hd
  go_loopw [3, 16] (fun v i wr => ∃ k : Nat, k ≤ m ∧ i = .int .i64 (k : Nat) ∧ ∃ A' c', v = .slice A' k c' ∧ Wn w (.slice A' k c') k (tms (M.take k)) wr) (fun _ i _ => m - (intOf i).toNat)
  case atStart => exact ⟨0, Nat.zero_le _, rfl, _, _, rfl, O0.out⟩
  case round =>
    clear O0
    obtain ⟨k, hk, rfl, A', c', rfl, O⟩ := hrel
    have HO := Lib.hid O
    clear O
    by_cases hlt : k < m
    · have ad := add_at b q
      have RG := Lib.hid (((L1.out.later HO.out.bel).at_ hlt).2)
      have ok := Lib.hid (nthH_ok L1.out.ok k)
      have ll := Lib.hid (hdV_len ok.out)
      have HT := Lib.hid (tms_take (l := M) (k := k) (by rw [ml.out]; exact hlt))
      obtain ⟨h, hh⟩ : ∃ h, nthH M k = h := ⟨_, rfl⟩
      rw [hh] at RG ok ll HT
      clear hh
      have z0 := zeroHd
      go_wp2_with (first | (refine wpList_load_part rfl (.tmp 18) rfl rfl rowHd RG.out ll.out ?_) | (refine wpList_store_ro rfl (.tmp 5) (.tmp 19) rfl rfl rfl rowHd (Ro.new wr 27 (hdV zeroH)) rfl ll.out (hdV_one _) ?_))
      intro w4 R4 g4
      have O4 := Lib.hid (HO.out.later (box_store g4))
      have c65 := R4.cell (hdV_no ok.out (k := 1) (by decide))
      have t32 := ok.out.t
      obtain ⟨x, hx⟩ : ∃ x, h.t = x := ⟨_, rfl⟩
      have c65 : w4.cell? ⟨wr.heap.size, 65, none⟩ = some (.int .u32 (x : Nat)) := by rw [← hx]; exact c65
      rw [hx] at HT t32
      have O5 := Lib.hid (O4.out.later ((Below.refl _ _).alloc (Nat.le_refl _) (.cells (u32s [x]).toArray 22)))
      have W5 := Lib.hid (Ws.lit w4 [x] trivial)
      clear R4 g4 z0 HO O4 RG hx
      go_wp2_with (at_builtin; refine wpList_appw rfl (.tmp 20) (.tmp 23) rfl rfl O5.out rfl (m := 1) (M := [x]) W5.out (by omega) ?_)
      intro A6 c6 w6 hc6 O6 g6
      have HO6 := Lib.hid O6
      clear O6 g6
      go_wp2_with fail
      exact ⟨⟨k + 1, by omega, by go_num, _, _, rfl, by rw [HT.out]; exact HO6.out⟩, by simp [intOf]; omega⟩
    · obtain rfl : k = m := by omega
      obtain ⟨g, c2, e2, hc2, hm2, T⟩ := HO.out.tw (by omega)
      injection e2 with e3 e4 e5
      subst e3 e5
      have HT := Lib.hid T
      have tl : Hid ((tms (M.take k)).length = k) := Lib.hid HO.out.len
      clear T HO
      go_wp2_with fail
      refine (sort_any tl.out m1 (by omega) _ HT.out).mono ?_
      rintro e w1 ⟨rfl, T1⟩
      have c1 := T1.cell (k := k / 2) (by rw [srt_len, tl.out]; omega)
      have H1 := Lib.hid T1
      clear T1 HT
      have hx := srt_len (tms (M.take k))
      obtain ⟨x, hx⟩ : ∃ x, nth (srt (tms (M.take k))) (k / 2) = x := ⟨_, rfl⟩
      rw [hx] at c1
      have HX := Lib.hid hx
      clear hx
      go_wp2_with fail
      go_ret
      have eT : M.take k = M := List.take_of_length_le (Nat.le_of_eq ml.out)
      have tl' := tl.out
      rw [eT] at HX tl'
      exact ⟨by rw [medS, midS, eS.out, ← HX.out, tl']; rfl, H1.out.bel⟩
end Go.Proofs.YtimjmmiajgfblaaGreatDoor

/- The median of the last times, as the document's answer has it. No condition but the length. -/
namespace Go.Proofs.YtimjmmiajgfblaaGreatDoor
open Go.RowKit

theorem last_nth (l : List Hd) (k0 i : Nat) : nthH (l.drop k0) i = nthH l (k0 + i) := nthH_drop l k0 i

set_option maxRecDepth 100000 in
set_option maxHeartbeats 4000000 in
theorem rmedian_any {A : Option Addr} {n c : Nat} {l : List Hd} (w : World) (hn : n ≤ 1000000) (hL : Hs w A n l) : Calls Tryz.prog 15 #[.slice A n c] w fun e w' => e = .returned (.int .u32 (medS l : Nat)) ∧ Below w.heap.size w w' := by
  have HL := Lib.hid hL
  have HN := Lib.hid hL.len
  clear hL
  by_cases h0 : n = 0
  · subst h0
    have : l = [] := List.eq_nil_of_length_eq_zero HN.out
    subst this
    go_enter Tryz.func15, Tryz.ntmps15
    go_wp2_with fail
    refine wp_loop_rounds 1 ?_
    rw [rounds_succ]
    go_wp2_with fail
    go_ret
    exact ⟨rfl, Below.refl _ _⟩
  obtain ⟨b, o, rfl, _, _⟩ := HL.out.cel (by omega)
  have ad := add_at b o
  have zn : ((n : Int) == 0) = false := by simp; omega
  obtain ⟨k0, hk0⟩ : ∃ k0, n - 11 = k0 := ⟨_, rfl⟩
  have ym : max ((n : Int) - 11) (0 : Int) = (k0 : Int) := by omega
  have kl : k0 < n := by omega
  have O0 := Lib.hid ((⟨World.ownsRow_nil _ _ _ _, allW_nil, Below.refl _ _⟩ : Wn w (.slice none 0 0) 0 [] w))
  have eS : Hid (timesOf l = tms (l.drop k0)) := Lib.hid (by unfold timesOf tms; rw [HN.out, hk0])
  obtain ⟨M, hM⟩ : ∃ M, l.drop k0 = M := ⟨_, rfl⟩
  rw [hM] at eS
  obtain ⟨m, hm⟩ : ∃ m, n = k0 + m := ⟨n - k0, by omega⟩
  have m11 : m ≤ 11 := by omega
  have ml : Hid (M.length = m) := Lib.hid (by rw [← hM, List.length_drop, HN.out]; omega)
  have nM : Hid (∀ i, nthH M i = nthH l (k0 + i)) := Lib.hid (fun i => by rw [← hM, nthH_drop])
  have cx : Hid (∀ k, k < m → ∃ x, (nthH M k).t = x ∧ ∀ wr, Below w.heap.size w wr → wr.cell? ⟨b, o + (k0 + k) * 68 + 65, none⟩ = some (.int .u32 (x : Nat))) := Lib.hid (fun k hk => ⟨_, rfl, fun wr bl => by
    obtain ⟨h1, h2⟩ := (HL.out.later bl).at_ (k := k0 + k) (by omega)
    rw [nM.out k]
    exact h2 65 _ (hdV_no (nthH_ok HL.out.ok (k0 + k)) (k := 1) (by decide))⟩)
  have hm1 : n ≤ k0 + m := by omega
  have hm2 : k0 + m ≤ n := by omega
  clear hk0 hM hm
  go_enter Tryz.func15, Tryz.ntmps15
  go_wp2_with fail
  clear ym
  go_loopw [3, 4] (fun v i wr => ∃ k : Nat, k ≤ m ∧ i = .int .i64 ((k0 + k : Nat) : Nat) ∧ ∃ A' c', v = .slice A' k c' ∧ Wn w (.slice A' k c') k (srt (tms (M.take k))) wr) (fun _ i _ => n - (intOf i).toNat)
  case atStart => exact ⟨0, Nat.zero_le _, rfl, _, _, rfl, O0.out⟩
  case round =>
    clear O0
    obtain ⟨k, hk, rfl, A', c', rfl, O⟩ := hrel
    have HO := Lib.hid O
    clear O
    by_cases hlt : k < m
    · obtain ⟨x, hx, cx1⟩ := cx.out k hlt
      have HX := Lib.hid (fun wr => cx1 wr)
      have HT := Lib.hid (tms_take (l := M) (k := k) (by rw [ml.out]; exact hlt))
      rw [hx] at HT
      clear hx cx1
      have c1 := HX.out wr HO.out.bel
      obtain ⟨B, hB⟩ : ∃ B, tms (M.take k) = B := ⟨_, rfl⟩
      rw [hB] at HT HO
      have lB : B.length = k := by have := HO.out.len; rwa [srt_len] at this
      clear hB
      have O5 := Lib.hid (HO.out.later ((Below.refl _ _).alloc (Nat.le_refl _) (.cells (u32s [x]).toArray 22)))
      have W5 := Lib.hid (Ws.lit wr [x] trivial)
      clear HO
      go_wp2_with (at_builtin; refine wpList_appw rfl (.tmp 18) (.tmp 24) rfl rfl O5.out rfl (m := 1) (M := [x]) W5.out (by omega) ?_)
      intro A6 c6 w6 hc6 O6 g6
      obtain ⟨g, c2, e2, hc2, hm3, T⟩ := O6.tw (by omega)
      injection e2 with e3 e4 e5
      subst e3 e5
      obtain ⟨A, hA⟩ : ∃ A, srt B = A := ⟨_, rfl⟩
      have uA : Hid (Up A) := Lib.hid (hA ▸ srt_up _)
      have lA : A.length = k := by rw [← hA, srt_len, lB]
      have eN : Hid (srt (tms (M.take (k + 1))) = ins x A) := Lib.hid (by rw [HT.out, srt_snoc, hA])
      rw [hA] at T
      have J0 : Hid (Tw w g c6 (midI A k x []) w6) := Lib.hid (T.eq (by
        unfold midI
        rw [List.take_of_length_le (by omega), List.drop_of_length_le (by omega), List.nil_append]))
      clear T g6 O6 O5 W5 c1 HT hA lB
      go_wp2_with fail
      go_loopw [5] (fun i wr => ∃ j y : Nat, j ≤ k ∧ i = .int .i64 (j : Nat) ∧ Tw w g c6 (midI A j y []) wr ∧ Hid (∀ y ∈ A.drop j, x < y)) (fun i _ => (intOf i).toNat)
      case atStart => exact ⟨k, x, Nat.le_refl _, rfl, J0.out, Lib.hid (by rw [List.drop_of_length_le (by omega)]; intro y hy; cases hy)⟩
      case round =>
        obtain ⟨j, y, hj, rfl, I, DJ⟩ := hrel
        have HJ := Lib.hid I
        clear I J0
        by_cases hz : j = 0
        · subst hz
          go_wp2_with fail
          refine wp_region_after (by kernel_rfl) (by kernel_rfl) ?_
          repeat (go_big_quiet_step (fail))
          refine wpQuiet_nil ?_
          rintro _ ⟨u, rfl⟩
          have T1 := Lib.hid (HJ.out.later u.below)
          have f1 := T1.out.free 0
          have c1 := T1.out.cell (k := 0) (by rw [midI_len A (by omega)]; omega)
          rw [midI_at (by omega)] at c1
          have ch := HX.out u.w T1.out.bel
          have T2 := Lib.hid (Tw.eq (Tw.set (k := 0) T1.out (by rw [midI_len A (by omega)]; omega) x) (midI_put (A := A) (j := 0) (by omega) x y []))
          have eE := midI_end (A := A) (j := 0) (x := x) (R := []) (by omega) uA.out DJ.out (fun h => absurd h (by omega))
          rw [List.append_nil] at eE
          have T3 := Lib.hid (Tw.wn (n := k + 1) (T2.out.eq (eE.trans eN.out.symm)) (by rw [srt_len, tms, List.length_map, List.length_take, ml.out]; omega) hm3)
          clear eE T2
          go_wp2_with fail
          exact ⟨⟨k + 1, by omega, by go_num, _, _, rfl, T3.out⟩, by simp [intOf]; omega⟩
        · obtain ⟨q, rfl⟩ : ∃ q, j = q + 1 := ⟨j - 1, by omega⟩
          have lM := midI_len A (j := q + 1) (by omega) y []
          have c0 := HJ.out.cell (k := q) (by rw [lM]; simp; omega)
          rw [midI_low (by omega) (by omega)] at c0
          obtain ⟨z, hz1⟩ : ∃ z, nth A q = z := ⟨_, rfl⟩
          rw [hz1] at c0
          have HY := Lib.hid hz1
          clear hz1 lM
          have u0 : ∀ u : After wr, u.w.cell? ⟨g, q, none⟩ = some (.int .u32 (z : Nat)) := fun u => by rw [← c0]; exact u.below.cell HJ.out.lt
          have u1 : ∀ u : After wr, u.w.cell? ⟨b, o + (k0 + k) * 68 + 65, none⟩ = some (.int .u32 (x : Nat)) := fun u => HX.out u.w (HJ.out.bel.trans (u.below.mono HJ.out.bel.size))
          clear c0
          by_cases hxy : x < z
          · have dxy : decide ((x : Int) < (z : Int)) = true := decide_eq_true (by omega)
            have HXY := Lib.hid hxy
            clear hxy
            go_wp2_with fail
            refine wp_region_after (by kernel_rfl) (by kernel_rfl) ?_
            repeat (go_big_quiet_step (fail))
            refine wpQuiet_nil ?_
            rintro _ ⟨u, rfl⟩
            have c0 := u0 u
            have T1 := Lib.hid (HJ.out.later u.below)
            have f1 := T1.out.free (q + 1)
            have c1 := T1.out.cell (k := q + 1) (by rw [midI_len A (by omega)]; omega)
            rw [midI_at (by omega)] at c1
            have e2 : (midI A (q + 1) y []).set (q + 1) z = midI A q z [] := by
              have := midI_move (A := A) (j := q) (by omega) y []
              rwa [HY.out] at this
            have T2 := Lib.hid (Tw.eq (Tw.set (k := q + 1) T1.out (by rw [midI_len A (by omega)]; omega) z) e2)
            clear u1 u0 e2
            go_wp2_with fail
            exact ⟨⟨q, z, by omega, by go_num, T2.out, Lib.hid (drop_less (A := A) (j := q) (x := x) (by omega) DJ.out (HY.out.symm ▸ HXY.out))⟩, by simp [intOf]⟩
          · have dxy : decide ((x : Int) < (z : Int)) = false := decide_eq_false (by omega)
            have HXY := Lib.hid hxy
            clear hxy
            go_wp2_with fail
            refine wp_region_after (by kernel_rfl) (by kernel_rfl) ?_
            repeat (go_big_quiet_step (fail))
            refine wpQuiet_nil ?_
            rintro _ ⟨u, rfl⟩
            have T1 := Lib.hid (HJ.out.later u.below)
            clear u1 u0
            have f1 := T1.out.free (q + 1)
            have c1 := T1.out.cell (k := q + 1) (by rw [midI_len A (by omega)]; omega)
            rw [midI_at (by omega)] at c1
            have ch := HX.out u.w T1.out.bel
            have T2 := Lib.hid (Tw.eq (Tw.set (k := (q + 1)) T1.out (by rw [midI_len A (by omega)]; omega) x) (midI_put (A := A) (j := (q + 1)) (by omega) x y []))
            have eE := midI_end (A := A) (j := (q + 1)) (x := x) (R := []) (by omega) uA.out DJ.out (fun h => by rw [Nat.add_sub_cancel, HY.out]; exact Nat.le_of_not_lt HXY.out)
            rw [List.append_nil] at eE
            have T3 := Lib.hid (Tw.wn (n := k + 1) (T2.out.eq (eE.trans eN.out.symm)) (by rw [srt_len, tms, List.length_map, List.length_take, ml.out]; omega) hm3)
            clear eE T2
            go_wp2_with fail
            exact ⟨⟨k + 1, by omega, by go_num, _, _, rfl, T3.out⟩, by simp [intOf]; omega⟩
    · obtain rfl : k = m := by omega
      obtain ⟨g, c2, e2, hc2, hm2, T⟩ := HO.out.tw (by omega)
      injection e2 with e3 e4 e5
      subst e3 e5
      have tl : Hid ((srt (tms (M.take k))).length = k) := Lib.hid HO.out.len
      have c1 := T.cell (k := k / 2) (by rw [tl.out]; omega)
      have HT := Lib.hid T
      have zk : ((k : Int) == 0) = false := by simp; omega
      have kn : Hid (k0 + k = n) := Lib.hid (by omega)
      clear T HO
      obtain ⟨x, hx⟩ : ∃ x, nth (srt (tms (M.take k))) (k / 2) = x := ⟨_, rfl⟩
      rw [hx] at c1
      have HX := Lib.hid hx
      clear hx
      go_wp2_with fail
      go_ret
      have eT : M.take k = M := List.take_of_length_le (Nat.le_of_eq ml.out)
      have tl' := tl.out
      rw [eT] at HX tl'
      rw [srt_len] at tl'
      exact ⟨by rw [medS, midS, eS.out, ← HX.out, tl']; rfl, HT.out.bel⟩
end Go.Proofs.YtimjmmiajgfblaaGreatDoor
