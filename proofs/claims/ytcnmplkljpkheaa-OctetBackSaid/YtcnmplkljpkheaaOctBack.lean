/- OctetBack: what was put is taken, whatever stands behind it; a number that is taken is put as it stood there. No condition. -/
import Derived.Test.YtcnmplkljpkheaaBackS
import Derived.Test.YtcnmplkljpkheaaNumbers
import Derived.Test.YtcnmplkljpkheaaSeg
namespace Go.Proofs.Ytcnmplkljpkheaa
open Go.ChangeShapes Go.WideShapes Go.ChangeAt Go.RowKit

theorem low_len2 (H : List Nat) (n k : Nat) : (H ++ low n k).length = H.length + k := by rw [List.length_append, low_length]

theorem pow_u64 (k : Nat) (hk : k < 8) (hz : sizeB (k : Int) = true) : ∃ q : Nat, 1 ≤ q ∧ 256 ^ k = q ∧ IntKind.u64.wrap (2 ^ (8 * k)) = (q : Int) := by
  rcases sizeB_cases hz with h | h | h | h
  · obtain rfl : k = 1 := by omega
    exact ⟨256, by decide, rfl, by decide⟩
  · obtain rfl : k = 2 := by omega
    exact ⟨65536, by decide, rfl, by decide⟩
  · obtain rfl : k = 4 := by omega
    exact ⟨4294967296, by decide, rfl, by decide⟩
  · omega

set_option maxRecDepth 100000 in
set_option maxHeartbeats 16000000 in
theorem back_k {A T : Option Addr} {n c m d : Nat} {L M : List Nat} (w : World) (hn : n ≤ 16384) (hm : m ≤ 16384) (hmd : m ≤ d) (HL : Hid (Bs w A n L)) (HM : Hid (Bs w T m M)) (N : Nat) (HN : Hid (N < 18446744073709551616)) (z r k : Nat) (hz8 : z < 256)
    (hr : (z : Int) % 4 = (r : Int)) (hk : (2 : Int) ^ r = (k : Int)) (HZ : Hid (sizeB (k : Int) = true)) (k1 : 1 ≤ k) (k8 : k ≤ 8) :
    Calls Try.prog 5 #[.slice A n c, .slice T m d, .int .u64 (N : Nat), .int .u8 (z : Nat)] w (Yes w) := by
  have V1 := Lib.hid (fun w => vast_no (A := A) (c := c) hn w)
  have V2 := Lib.hid (fun w => vast_no (A := T) (c := d) hm w)
  obtain ⟨x, hx⟩ : ∃ x, N % 256 ^ k = x := ⟨_, rfl⟩
  have HX := Lib.hid hx
  obtain ⟨q, hq1, w8, e1, e2, t1⟩ : ∃ q : Int, 1 ≤ q ∧ (k < 8 → IntKind.u64.wrap (2 ^ (8 * k)) = q) ∧ (k < 8 → (N : Int) % q = (x : Int)) ∧ (¬ k < 8 → N = x) ∧ (k < 8 ∨ k = 8) := by
    by_cases h8 : k < 8
    · obtain ⟨q, h1, h2, h3⟩ := pow_u64 k h8 HZ.out
      exact ⟨q, by omega, fun _ => h3, fun _ => by rw [← hx, h2]; exact (Int.natCast_emod _ _).symm, fun h => absurd h8 h, .inl h8⟩
    · obtain rfl : k = 8 := by omega
      exact ⟨1, by omega, fun h => absurd h h8, fun h => absurd h h8, fun _ => by rw [← hx, show (256 : Nat) ^ 8 = 18446744073709551616 by decide, Nat.mod_eq_of_lt HN.out], .inr rfl⟩
  clear hx
  rcases t1 with t1 | t1
  · have t2 : decide ((k : Int) < 8) = true := decide_eq_true (by omega)
    have w9 := w8 t1
    have e3 := e1 t1
    clear w8 e1 e2
    go_enter Try.func5, Try.ntmps5
    go_wp2_with fail
    refine (V1.out _).mono ?_
    rintro e w1 ⟨rfl, rfl⟩
    go_wp2_with fail
    refine (V2.out _).mono ?_
    rintro e w1 ⟨rfl, rfl⟩
    go_wp2_with fail
    refine (put_any N HN.out k _ (by omega) HL.out).mono ?_
    rintro e w2 ⟨B, b, bc, rfl, _, O⟩
    rw [putS_yes HZ.out, Int.toNat_natCast] at O
    obtain rfl : b = n + k := by rw [← O.len, low_len2, HL.out.len]
    have B2 := Lib.hid O.bel
    have R2 := Lib.hid O.reads
    clear O
    go_wp2_with fail
    refine (copied_any _ (by omega) R2.out).mono ?_
    rintro e w3 ⟨C, b2, cc, rfl, _, O⟩
    obtain rfl : b2 = n + k := by rw [← O.len, R2.out.len]
    have B3 := Lib.hid (B2.out.trans (O.bel.mono B2.out.size))
    have O3 := Lib.hid O
    clear O
    go_wp2_with (at_builtin; refine wpList_app rfl _ _ rfl rfl O3.out rfl (HM.out.later B3.out) (by omega) ?_; intro D dc w4 hdc h1 h2; have O4 := Lib.hid h1; have HDC := Lib.hid hdc; clear h1 h2 hdc)
    have B4 := Lib.hid (B2.out.trans (O4.out.bel.mono B2.out.size))
    obtain ⟨p1, p2, p3⟩ := put_take (H := L) (T := M) (n := N) HZ.out
    rw [HX.out] at p1
    rw [HL.out.len] at p1 p2 p3
    have TK := Lib.hid (takeIs (L := L ++ low N k ++ M) (by omega) (by omega) p1 p2 p3)
    clear p1 p2 p3
    refine (TK.out _ _ _ _ (by omega) HDC.out O4.out.reads).mono ?_
    rintro e w5 ⟨rfl, hb⟩
    have B5 := Lib.hid (B4.out.trans (hb.mono B4.out.size))
    have L5 := Lib.hid (HL.out.later B5.out)
    clear hb
    go_wp2_with fail
    refine (putVar_any N HN.out _ (by omega) L5.out).mono ?_
    rintro e w6 ⟨E, v, ec, rfl, _, O⟩
    obtain ⟨vl, hvl⟩ : ∃ vl, 1 + behindN (first N) = vl := ⟨_, rfl⟩
    have vl9 : vl ≤ 9 := by have := behind_le (first N); omega
    have HVL := Lib.hid hvl
    obtain rfl : v = n + vl := by rw [← O.len, List.length_append, varS_length, HL.out.len, hvl]
    have B6 := Lib.hid (B5.out.trans (O.bel.mono B5.out.size))
    have R6 := Lib.hid O.reads
    clear O hvl
    go_wp2_with fail
    refine (copied_any _ (by omega) R6.out).mono ?_
    rintro e w7 ⟨F, b3, fc, rfl, _, O⟩
    obtain rfl : b3 = n + vl := by rw [← O.len, R6.out.len]
    have B7 := Lib.hid (B6.out.trans (O.bel.mono B6.out.size))
    have O7 := Lib.hid O
    clear O
    go_wp2_with (at_builtin; refine wpList_app rfl _ _ rfl rfl O7.out rfl (HM.out.later B7.out) (by omega) ?_; intro G gc w8 hgc h1 h2; have O8 := Lib.hid h1; have HGC := Lib.hid hgc; clear h1 h2 hgc)
    have B8 := Lib.hid (B6.out.trans (O8.out.bel.mono B6.out.size))
    have VT : Hid (tvRn (L ++ varS N ++ M) n = N ∧ tvRp (L ++ varS N ++ M) n = ((n + vl : Nat) : Int) ∧ tvRe (L ++ varS N ++ M) n = 0) := Lib.hid (by
      obtain ⟨a1, a2, a3⟩ := var_take (H := L) (T := M) HN.out
      obtain ⟨c1, c2, c3⟩ := tv_yes a1
      rw [HL.out.len] at c1 c2 c3 a2 a3
      refine ⟨by rw [c1, a2], ?_, c3⟩
      rw [c2, a3, ← HVL.out]; omega)
    refine (takeVar_any n (by omega) (by omega) _ (by omega) HGC.out O8.out.reads).mono ?_
    rintro e w9 ⟨rfl, hb⟩
    rw [VT.out.1, VT.out.2.1, VT.out.2.2]
    have B9 := Lib.hid (B8.out.trans (hb.mono B8.out.size))
    have M9 := Lib.hid (HM.out.later B9.out)
    clear hb
    go_wp2_with fail
    refine (takeVar_any 0 (by decide) (by decide) _ (by omega) hmd M9.out).mono ?_
    rintro e w10 ⟨rfl, hb⟩
    have B10 := Lib.hid (B9.out.trans (hb.mono B9.out.size))
    have M10 := Lib.hid (M9.out.later hb)
    clear hb
    by_cases ok : tvOk M 0
    case neg =>
      obtain ⟨s1, s2, s3⟩ := tv_no (p := 0) (Nat.zero_le _) ok
      have s1' : tvRn M 0 = 0 := s1
      have s2' : tvRp M 0 = 0 := s2
      have s3' : tvRe M 0 = 5 := s3
      rw [s1', s2', s3']
      clear s1 s2 s3 s1' s2' s3' ok
      go_wp2_with fail
      refine (works_any _).mono ?_
      rintro e w11 ⟨rfl, hb⟩
      have B11 := Lib.hid (B10.out.trans (hb.mono B10.out.size))
      clear hb
      go_wp2_with fail
      go_ret
      exact ⟨rfl, B11.out⟩
    case pos =>
      obtain ⟨s1, s2, s3⟩ := tv_yes (p := 0) ok
      obtain ⟨v1, v2, v3⟩ := var_back M10.out.byt ok
      obtain ⟨y, hy⟩ : ∃ y, tvN M 0 = y := ⟨_, rfl⟩
      obtain ⟨u, hu⟩ : ∃ u, 1 + behindN (nth M 0) = u := ⟨_, rfl⟩
      rw [hy] at s1 v1 v3
      rw [hu] at v1 v2
      have s1' : tvRn M 0 = y := s1
      have s2' : tvRp M 0 = (u : Int) := by
        have : tvRp M 0 = ((0 : Nat) : Int) + 1 + (behindN (nth M 0) : Nat) := s2
        rw [this]; omega
      have s3' : tvRe M 0 = 0 := s3
      rw [s1', s2', s3']
      have hum : u ≤ m := by rw [← M10.out.len]; exact v2
      have hu1 : 1 ≤ u := by omega
      have V3 := Lib.hid v3
      have VB := Lib.hid v1
      have hu9 : u ≤ 9 := by have := behind_le (nth M 0); omega
      clear s1 s2 s3 s1' s2' s3' ok v1 v2 v3 hy hu
      go_wp2_with fail
      have q1 : decide ((0 : Int) < (u : Int)) = true := decide_eq_true (by omega)
      have q2 : decide ((u : Int) ≤ (m : Int)) = true := decide_eq_true (by omega)
      have q1n : decide (0 < u) = true := decide_eq_true (by omega)
      have q2n : decide (u ≤ m) = true := decide_eq_true (by omega)
      refine wp_region_seg (W := w10) (by kernel_rfl) fun wa ga => ?_
      refine wpK_seg 0 10 (f := 10) (by kernel_rfl) (fun _ _ _ _ _ h => h) (by kernel_rfl) (by kernel_rfl) (by kernel_rfl) ga ?_
      apply Exists.intro
      refine ⟨?_, ?_⟩
      · intro wg hg
        simp only [List.drop_zero, List.take_succ_cons, List.take_zero]
        repeat (go_big_quiet_step (fail))
        refine wpQuiet_nil ?_
        exact rfl
      refine wpK_seg 11 3 (f := 7) (by kernel_rfl) (fun _ _ _ _ _ h => h) (by kernel_rfl) (by kernel_rfl) (by kernel_rfl) ga ?_
      apply Exists.intro
      refine ⟨?_, ?_⟩
      · intro wg hg
        simp only [List.drop_succ_cons, List.drop_zero, List.take_succ_cons, List.take_zero]
        repeat (go_big_quiet_step (fail))
        refine wpQuiet_nil ?_
        exact rfl
      refine wpK_call_want (f := 6) (i := 10) (by kernel_rfl) rfl (by rfl) ga ?_
      intro wb gb K hK
      go_simp
      refine (putVar_any y V3.out _ (by omega) (Bs.nil _ _)).mono ?_
      rintro e wn ⟨P, pn, pc, rfl, _, O⟩
      refine hK _ _ O.bel ?_
      rw [List.nil_append, VB.out] at O
      have hpn : pn ≤ 16384 := by rw [← O.len, List.length_take]; omega
      have CK := Lib.hid O.reads
      have GN := Lib.hid (Grows.trans gb O.bel)
      have M11 : Hid (Bs wn T u (M.take u)) := Lib.hid (by
        have h1 := M10.out.later GN.out
        exact (show Bs wn T m (M.take u ++ M.drop u) by rw [List.take_append_drop]; exact h1).head (by rw [List.length_take, h1.len]; omega))
      clear O hK K
      refine wpK_from GN.out _ _ _ _ ?_
      refine wpK_seg 14 6 (f := 0) (by kernel_rfl) (fun _ _ _ _ _ h => h) (by kernel_rfl) (by kernel_rfl) (by kernel_rfl) (Grows.refl wn) ?_
      apply Exists.intro
      refine ⟨?_, ?_⟩
      · intro wg hg
        have CSA : Hid (∀ u' : After wg, Calls Try.prog 14 #[.slice P pn pc, .slice T u d] u'.w fun e w' => e = .returned (.bool true) ∧ Below u'.w.heap.size u'.w w') := Lib.hid fun u' => by
          have := same_any (c := pc) (d := d) u'.w (by omega) (by omega) ((CK.out.later hg).later u'.below) ((M11.out.later hg).later u'.below)
          rwa [eqB_yes rfl] at this
        have CWO : Hid (∀ u' : After wg, Calls Try.prog 9 #[] u'.w fun e w' => e = .returned (.bool true) ∧ Below u'.w.heap.size u'.w w') := Lib.hid fun u' => works_any _
        simp only [List.drop_succ_cons, List.drop_zero, List.take_succ_cons, List.take_zero]
        repeat (go_big_quiet_step ((first | (go_at_call 14; exact after_call (CSA.out _)) | (go_at_call 9; exact after_call (CWO.out _)))))
        refine wpQuiet_nil ?_
        exact rfl
      refine wpK_end (by kernel_rfl) fun wz gz => ?_
      have BZ := Lib.hid (B10.out.trans ((Grows.trans GN.out gz).mono B10.out.size))
      go_wp2_with fail
      go_ret
      exact ⟨rfl, BZ.out⟩
  · have t2 : decide ((k : Int) < 8) = false := decide_eq_false (by omega)
    have e3 : N = x := e2 (by omega)
    subst e3
    clear w8 e1 e2 t1
    go_enter Try.func5, Try.ntmps5
    go_wp2_with fail
    refine (V1.out _).mono ?_
    rintro e w1 ⟨rfl, rfl⟩
    go_wp2_with fail
    refine (V2.out _).mono ?_
    rintro e w1 ⟨rfl, rfl⟩
    go_wp2_with fail
    refine (put_any N HN.out k _ (by omega) HL.out).mono ?_
    rintro e w2 ⟨B, b, bc, rfl, _, O⟩
    rw [putS_yes HZ.out, Int.toNat_natCast] at O
    obtain rfl : b = n + k := by rw [← O.len, low_len2, HL.out.len]
    have B2 := Lib.hid O.bel
    have R2 := Lib.hid O.reads
    clear O
    go_wp2_with fail
    refine (copied_any _ (by omega) R2.out).mono ?_
    rintro e w3 ⟨C, b2, cc, rfl, _, O⟩
    obtain rfl : b2 = n + k := by rw [← O.len, R2.out.len]
    have B3 := Lib.hid (B2.out.trans (O.bel.mono B2.out.size))
    have O3 := Lib.hid O
    clear O
    go_wp2_with (at_builtin; refine wpList_app rfl _ _ rfl rfl O3.out rfl (HM.out.later B3.out) (by omega) ?_; intro D dc w4 hdc h1 h2; have O4 := Lib.hid h1; have HDC := Lib.hid hdc; clear h1 h2 hdc)
    have B4 := Lib.hid (B2.out.trans (O4.out.bel.mono B2.out.size))
    obtain ⟨p1, p2, p3⟩ := put_take (H := L) (T := M) (n := N) HZ.out
    rw [HX.out] at p1
    rw [HL.out.len] at p1 p2 p3
    have TK := Lib.hid (takeIs (L := L ++ low N k ++ M) (by omega) (by omega) p1 p2 p3)
    clear p1 p2 p3
    refine (TK.out _ _ _ _ (by omega) HDC.out O4.out.reads).mono ?_
    rintro e w5 ⟨rfl, hb⟩
    have B5 := Lib.hid (B4.out.trans (hb.mono B4.out.size))
    have L5 := Lib.hid (HL.out.later B5.out)
    clear hb
    go_wp2_with fail
    refine (putVar_any N HN.out _ (by omega) L5.out).mono ?_
    rintro e w6 ⟨E, v, ec, rfl, _, O⟩
    obtain ⟨vl, hvl⟩ : ∃ vl, 1 + behindN (first N) = vl := ⟨_, rfl⟩
    have vl9 : vl ≤ 9 := by have := behind_le (first N); omega
    have HVL := Lib.hid hvl
    obtain rfl : v = n + vl := by rw [← O.len, List.length_append, varS_length, HL.out.len, hvl]
    have B6 := Lib.hid (B5.out.trans (O.bel.mono B5.out.size))
    have R6 := Lib.hid O.reads
    clear O hvl
    go_wp2_with fail
    refine (copied_any _ (by omega) R6.out).mono ?_
    rintro e w7 ⟨F, b3, fc, rfl, _, O⟩
    obtain rfl : b3 = n + vl := by rw [← O.len, R6.out.len]
    have B7 := Lib.hid (B6.out.trans (O.bel.mono B6.out.size))
    have O7 := Lib.hid O
    clear O
    go_wp2_with (at_builtin; refine wpList_app rfl _ _ rfl rfl O7.out rfl (HM.out.later B7.out) (by omega) ?_; intro G gc w8 hgc h1 h2; have O8 := Lib.hid h1; have HGC := Lib.hid hgc; clear h1 h2 hgc)
    have B8 := Lib.hid (B6.out.trans (O8.out.bel.mono B6.out.size))
    have VT : Hid (tvRn (L ++ varS N ++ M) n = N ∧ tvRp (L ++ varS N ++ M) n = ((n + vl : Nat) : Int) ∧ tvRe (L ++ varS N ++ M) n = 0) := Lib.hid (by
      obtain ⟨a1, a2, a3⟩ := var_take (H := L) (T := M) HN.out
      obtain ⟨c1, c2, c3⟩ := tv_yes a1
      rw [HL.out.len] at c1 c2 c3 a2 a3
      refine ⟨by rw [c1, a2], ?_, c3⟩
      rw [c2, a3, ← HVL.out]; omega)
    refine (takeVar_any n (by omega) (by omega) _ (by omega) HGC.out O8.out.reads).mono ?_
    rintro e w9 ⟨rfl, hb⟩
    rw [VT.out.1, VT.out.2.1, VT.out.2.2]
    have B9 := Lib.hid (B8.out.trans (hb.mono B8.out.size))
    have M9 := Lib.hid (HM.out.later B9.out)
    clear hb
    go_wp2_with fail
    refine (takeVar_any 0 (by decide) (by decide) _ (by omega) hmd M9.out).mono ?_
    rintro e w10 ⟨rfl, hb⟩
    have B10 := Lib.hid (B9.out.trans (hb.mono B9.out.size))
    have M10 := Lib.hid (M9.out.later hb)
    clear hb
    by_cases ok : tvOk M 0
    case neg =>
      obtain ⟨s1, s2, s3⟩ := tv_no (p := 0) (Nat.zero_le _) ok
      have s1' : tvRn M 0 = 0 := s1
      have s2' : tvRp M 0 = 0 := s2
      have s3' : tvRe M 0 = 5 := s3
      rw [s1', s2', s3']
      clear s1 s2 s3 s1' s2' s3' ok
      go_wp2_with fail
      refine (works_any _).mono ?_
      rintro e w11 ⟨rfl, hb⟩
      have B11 := Lib.hid (B10.out.trans (hb.mono B10.out.size))
      clear hb
      go_wp2_with fail
      go_ret
      exact ⟨rfl, B11.out⟩
    case pos =>
      obtain ⟨s1, s2, s3⟩ := tv_yes (p := 0) ok
      obtain ⟨v1, v2, v3⟩ := var_back M10.out.byt ok
      obtain ⟨y, hy⟩ : ∃ y, tvN M 0 = y := ⟨_, rfl⟩
      obtain ⟨u, hu⟩ : ∃ u, 1 + behindN (nth M 0) = u := ⟨_, rfl⟩
      rw [hy] at s1 v1 v3
      rw [hu] at v1 v2
      have s1' : tvRn M 0 = y := s1
      have s2' : tvRp M 0 = (u : Int) := by
        have : tvRp M 0 = ((0 : Nat) : Int) + 1 + (behindN (nth M 0) : Nat) := s2
        rw [this]; omega
      have s3' : tvRe M 0 = 0 := s3
      rw [s1', s2', s3']
      have hum : u ≤ m := by rw [← M10.out.len]; exact v2
      have hu1 : 1 ≤ u := by omega
      have V3 := Lib.hid v3
      have VB := Lib.hid v1
      have hu9 : u ≤ 9 := by have := behind_le (nth M 0); omega
      clear s1 s2 s3 s1' s2' s3' ok v1 v2 v3 hy hu
      go_wp2_with fail
      have q1 : decide ((0 : Int) < (u : Int)) = true := decide_eq_true (by omega)
      have q2 : decide ((u : Int) ≤ (m : Int)) = true := decide_eq_true (by omega)
      have q1n : decide (0 < u) = true := decide_eq_true (by omega)
      have q2n : decide (u ≤ m) = true := decide_eq_true (by omega)
      refine wp_region_seg (W := w10) (by kernel_rfl) fun wa ga => ?_
      refine wpK_seg 0 10 (f := 10) (by kernel_rfl) (fun _ _ _ _ _ h => h) (by kernel_rfl) (by kernel_rfl) (by kernel_rfl) ga ?_
      apply Exists.intro
      refine ⟨?_, ?_⟩
      · intro wg hg
        simp only [List.drop_zero, List.take_succ_cons, List.take_zero]
        repeat (go_big_quiet_step (fail))
        refine wpQuiet_nil ?_
        exact rfl
      refine wpK_seg 11 3 (f := 7) (by kernel_rfl) (fun _ _ _ _ _ h => h) (by kernel_rfl) (by kernel_rfl) (by kernel_rfl) ga ?_
      apply Exists.intro
      refine ⟨?_, ?_⟩
      · intro wg hg
        simp only [List.drop_succ_cons, List.drop_zero, List.take_succ_cons, List.take_zero]
        repeat (go_big_quiet_step (fail))
        refine wpQuiet_nil ?_
        exact rfl
      refine wpK_call_want (f := 6) (i := 10) (by kernel_rfl) rfl (by rfl) ga ?_
      intro wb gb K hK
      go_simp
      refine (putVar_any y V3.out _ (by omega) (Bs.nil _ _)).mono ?_
      rintro e wn ⟨P, pn, pc, rfl, _, O⟩
      refine hK _ _ O.bel ?_
      rw [List.nil_append, VB.out] at O
      have hpn : pn ≤ 16384 := by rw [← O.len, List.length_take]; omega
      have CK := Lib.hid O.reads
      have GN := Lib.hid (Grows.trans gb O.bel)
      have M11 : Hid (Bs wn T u (M.take u)) := Lib.hid (by
        have h1 := M10.out.later GN.out
        exact (show Bs wn T m (M.take u ++ M.drop u) by rw [List.take_append_drop]; exact h1).head (by rw [List.length_take, h1.len]; omega))
      clear O hK K
      refine wpK_from GN.out _ _ _ _ ?_
      refine wpK_seg 14 6 (f := 0) (by kernel_rfl) (fun _ _ _ _ _ h => h) (by kernel_rfl) (by kernel_rfl) (by kernel_rfl) (Grows.refl wn) ?_
      apply Exists.intro
      refine ⟨?_, ?_⟩
      · intro wg hg
        have CSA : Hid (∀ u' : After wg, Calls Try.prog 14 #[.slice P pn pc, .slice T u d] u'.w fun e w' => e = .returned (.bool true) ∧ Below u'.w.heap.size u'.w w') := Lib.hid fun u' => by
          have := same_any (c := pc) (d := d) u'.w (by omega) (by omega) ((CK.out.later hg).later u'.below) ((M11.out.later hg).later u'.below)
          rwa [eqB_yes rfl] at this
        have CWO : Hid (∀ u' : After wg, Calls Try.prog 9 #[] u'.w fun e w' => e = .returned (.bool true) ∧ Below u'.w.heap.size u'.w w') := Lib.hid fun u' => works_any _
        simp only [List.drop_succ_cons, List.drop_zero, List.take_succ_cons, List.take_zero]
        repeat (go_big_quiet_step ((first | (go_at_call 14; exact after_call (CSA.out _)) | (go_at_call 9; exact after_call (CWO.out _)))))
        refine wpQuiet_nil ?_
        exact rfl
      refine wpK_end (by kernel_rfl) fun wz gz => ?_
      have BZ := Lib.hid (B10.out.trans ((Grows.trans GN.out gz).mono B10.out.size))
      go_wp2_with fail
      go_ret
      exact ⟨rfl, BZ.out⟩

set_option maxRecDepth 100000 in
set_option maxHeartbeats 4000000 in
theorem back_law {A T : Option Addr} {n c m d : Nat} {L M : List Nat} {w : World} (_hnc : n ≤ c) (hn63 : n ≤ 9223372036854775807) (hL : Bs w A n L) (hmd : m ≤ d) (hm63 : m ≤ 9223372036854775807) (hM : Bs w T m M) (N : Nat) (hN : N < 18446744073709551616) (z : Nat) (hz : z < 256) :
    Calls Try.prog 5 #[.slice A n c, .slice T m d, .int .u64 (N : Nat), .int .u8 (z : Nat)] w (Yes w) := by
  by_cases hv : 16384 < n
  · have V := Lib.hid (fun w => vast_yes (A := A) (c := c) hv hn63 w)
    clear hL hM hN hz hv hn63 hm63 hmd
    go_enter Try.func5, Try.ntmps5
    go_wp2_with fail
    refine (V.out _).mono ?_
    rintro e w1 ⟨rfl, rfl⟩
    go_wp2_with fail
    refine (works_any _).mono ?_
    rintro e w1 ⟨rfl, hb⟩
    have B := Lib.hid hb
    clear hb
    go_wp2_with fail
    go_ret
    exact ⟨rfl, B.out⟩
  · have V := Lib.hid (fun w => vast_no (A := A) (n := n) (c := c) (by omega) w)
    by_cases hv2 : 16384 < m
    · have V2 := Lib.hid (fun w => vast_yes (A := T) (c := d) hv2 hm63 w)
      clear hL hM hN hz hv hv2 hn63 hm63 hmd
      go_enter Try.func5, Try.ntmps5
      go_wp2_with fail
      refine (V.out _).mono ?_
      rintro e w1 ⟨rfl, rfl⟩
      go_wp2_with fail
      refine (V2.out _).mono ?_
      rintro e w1 ⟨rfl, rfl⟩
      go_wp2_with fail
      refine (works_any _).mono ?_
      rintro e w1 ⟨rfl, hb⟩
      have B := Lib.hid hb
      clear hb
      go_wp2_with fail
      go_ret
      exact ⟨rfl, B.out⟩
    · rcases (by omega : z % 4 = 0 ∨ z % 4 = 1 ∨ z % 4 = 2 ∨ z % 4 = 3) with h | h | h | h
      · exact back_k w (by omega) (by omega) hmd (Lib.hid hL) (Lib.hid hM) N (Lib.hid hN) z 0 1 hz (by omega) (by decide) (Lib.hid rfl) (by omega) (by omega)
      · exact back_k w (by omega) (by omega) hmd (Lib.hid hL) (Lib.hid hM) N (Lib.hid hN) z 1 2 hz (by omega) (by decide) (Lib.hid rfl) (by omega) (by omega)
      · exact back_k w (by omega) (by omega) hmd (Lib.hid hL) (Lib.hid hM) N (Lib.hid hN) z 2 4 hz (by omega) (by decide) (Lib.hid rfl) (by omega) (by omega)
      · exact back_k w (by omega) (by omega) hmd (Lib.hid hL) (Lib.hid hM) N (Lib.hid hN) z 3 8 hz (by omega) (by decide) (Lib.hid rfl) (by omega) (by omega)

set_option maxRecDepth 100000 in
theorem octetBack_lifted (os : Os) (started : os.Started) (H : Type) (enc : TypeId × Value → H) :
    ReturnsInHanded {} Try.checked os 5 .any (Rows.octetBackSpec.pre6 enc Try.prog Try.f5 Rows.octetBackRow.domain false) (Rows.octetBackSpec.post enc Try.prog Try.f5 false true false false) := by
  refine returnsInHanded_of_change (C := Try.checked) Try.own started (by kernel_rfl) Try.func5
    (ChangeSpec.witness6 (enc := enc) (C := Try.checked) false ⟨#[], #[.slice none 0 0, .slice none 0 0, .int .u64 0, .int .u8 0], []⟩ 8 (by kernel_rfl) (by kernel_rfl) (by kernel_rfl) (by kernel_rfl)) ?_
  intro W base args ds gs before hval0 hW hcnd _
  have hval : ∀ (j : Nat) t v, Try.f5.params[j]? = some t → args[j]? = some v → Value.okWide Try.prog W .any base t v := hval0
  have hW' := hW
  obtain ⟨p, q, hA0, hV, rfl, hfz, hnd⟩ := hW
  have hA : DataW.TrodAll enc Try.prog W 0 (fun _ => true) true Try.f5.params.toList args.toList ds p := hA0
  rw [Try.params5] at hA hval
  obtain ⟨v0, vs0, d0, ds0, p0, q0, hargs, rfl, rfl, h0, r0⟩ := trodAll_cons hA
  obtain ⟨v1, vs1, d1, ds1, p1, q1, rfl, rfl, rfl, h1, r1⟩ := trodAll_cons r0
  obtain ⟨v2, vs2, d2, ds2, p2, q2, rfl, rfl, rfl, h2, r2⟩ := trodAll_cons r1
  obtain ⟨v3, vs3, d3, ds3, p3, q3, rfl, rfl, rfl, h3, r3⟩ := trodAll_cons r2
  obtain ⟨rfl, rfl, rfl⟩ := trodAll_nil r3
  obtain rfl : args = #[v0, v1, v2, v3] := by cases args; simp_all
  obtain ⟨rfl, rfl⟩ := trodVars_none hV
  have lt0 : ∀ x ∈ p0, x.block < W.heap.size := by obtain ⟨m, hm⟩ := h0; exact DataW.trod_lt m _ _ _ hm
  have lt1 : ∀ x ∈ p1, x.block < W.heap.size := by obtain ⟨m, hm⟩ := h1; exact DataW.trod_lt m _ _ _ hm
  have lt2 : ∀ x ∈ p2, x.block < W.heap.size := by obtain ⟨m, hm⟩ := h2; exact DataW.trod_lt m _ _ _ hm
  have lt3 : ∀ x ∈ p3, x.block < W.heap.size := by obtain ⟨m, hm⟩ := h3; exact DataW.trod_lt m _ _ _ hm
  obtain ⟨aA, an, ac, aL, ⟨a1, a2, a3⟩, rfl⟩ := open_bytes (hval 0 22 v0 rfl rfl) h0
  obtain ⟨bA, bn, bc, bL, ⟨b1, b2, b3⟩, rfl⟩ := open_bytes (hval 1 22 v1 rfl rfl) h1
  obtain ⟨c, wc, rfl⟩ := open_u64 (hval 2 23 v2 rfl rfl) h2
  obtain ⟨d, wd, rfl⟩ := open_u8 (hval 3 5 v3 rfl rfl) h3
  clear hA0 hval0
  refine (back_law a1 (by omega) a3 b1 (by omega) b3 c wc d wd).mono fun e W' ⟨he, bel⟩ => ?_
  subst he
  exact ⟨_, rfl, _, _, _, [], _, [], hW', trodAll_mk1 (shut_bool Try.underlying4 _), (trodAll_cons_mk (Below.trod Try.laidOut (by kernel_rfl) (of_decide_eq_true (by kernel_rfl)) h0 bel lt0) (trodAll_cons_mk (Below.trod Try.laidOut (by kernel_rfl) (of_decide_eq_true (by kernel_rfl)) h1 bel lt1) (trodAll_cons_mk (Below.trod Try.laidOut (by kernel_rfl) (of_decide_eq_true (by kernel_rfl)) h2 bel lt2) (trodAll_cons_mk (Below.trod Try.laidOut (by kernel_rfl) (of_decide_eq_true (by kernel_rfl)) h3 bel lt3) trodAll_mk0)))), rfl, bel.frame _, fun h => by cases h⟩

theorem octetBack_holds : Rows.OctetBackSaid :=
  OpenClaim.holds_of_wide 5 Try.f5 rfl rfl rfl rfl rfl rfl rfl ⟨rfl, rfl, rfl, rfl, rfl⟩ rfl rfl rfl rfl rfl (by kernel_rfl) Try.func5 (by kernel_rfl)
    (of_decide_eq_true (by kernel_rfl)) (by unfold Func.isWrapper; rw [if_neg (of_decide_eq_false (by kernel_rfl))]; exact ⟨rfl, rfl⟩)
    (fun os started H enc _ => octetBack_lifted os started H enc)

end Go.Proofs.Ytcnmplkljpkheaa
