/- Up and Down of the document's answers of layer 2, at every number and every shift. -/
import Derived.Test.YtnipajfglmahiaaRefList
namespace Go.Proofs.Ytnipajfglmahiaa
open Go.RowKit

theorem up_bit_low (A n j : Nat) (h : j < n) : A * 2 ^ n / 2 ^ j % 2 = 0 := by
  have e : A * 2 ^ n = A * 2 ^ (n - j - 1) * 2 * 2 ^ j := by
    rw [Nat.mul_assoc, Nat.mul_assoc, Nat.mul_comm 2, ← Nat.pow_succ, ← Nat.pow_add, show n - j - 1 + (j + 1) = n by omega]
  rw [e, Nat.mul_div_cancel _ (Nat.two_pow_pos j), Nat.mul_mod_left]
theorem up_bit_high (A n j : Nat) (h : n ≤ j) : A * 2 ^ n / 2 ^ j = A / 2 ^ (j - n) := by
  have e : 2 ^ j = 2 ^ (j - n) * 2 ^ n := by rw [← Nat.pow_add, show j - n + n = j by omega]
  rw [e, Nat.mul_div_mul_right _ _ (Nat.two_pow_pos n)]
theorem down_bit (A n j : Nat) : A / 2 ^ n / 2 ^ j = A / 2 ^ (j + n) := by
  rw [Nat.div_div_eq_div_mul, ← Nat.pow_add, Nat.add_comm]
theorem down_bit_high (A n j : Nat) (hA : A < 115792089237316195423570985008687907853269984665640564039457584007913129639936) (h : 256 ≤ j + n) : A / 2 ^ n / 2 ^ j % 2 = 0 := by
  rw [down_bit]
  have e256 : (2 : Nat) ^ 256 = 115792089237316195423570985008687907853269984665640564039457584007913129639936 := by decide
  have : 2 ^ 256 ≤ 2 ^ (j + n) := Nat.pow_le_pow_right (by omega) h
  rw [Nat.div_eq_of_lt (by omega)]


set_option maxRecDepth 100000 in
set_option maxHeartbeats 8000000 in
theorem refup_any {a0 a1 a2 a3 : Nat} (ha : Words a0 a1 a2 a3) (n : Nat) (hn : 1 ≤ n) (hm : n ≤ 9223372036854775807) (w : World) : Calls Try.prog 30 #[.agg #[.int .u64 (a0 : Nat), .int .u64 (a1 : Nat), .int .u64 (a2 : Nat), .int .u64 (a3 : Nat)], .int .i64 (n : Nat)] w (FromPost (val a0 a1 a2 a3 * 2 ^ n) w) := by
  obtain ⟨i0, hi, hz0, hz1, hz2⟩ := info_parts Try.infoInt
  obtain ⟨X, hX⟩ : ∃ X, X = val a0 a1 a2 a3 * 2 ^ n := ⟨_, rfl⟩
  rw [← hX]
  have HX := Lib.hid hX
  have hA : val a0 a1 a2 a3 < 115792089237316195423570985008687907853269984665640564039457584007913129639936 := by obtain ⟨_, _, _, _⟩ := ha; unfold val; omega
  have HA := Lib.hid hA
  have n0 : decide (n = 0) = false := decide_eq_false (by omega)
  clear hX hA
  go_enter Try.func30, Try.ntmps30
  go_wp2_with fail
  go_loopw [5, 6] (fun v i wr => ∃ k : Nat, i = .int .i64 (k : Nat) ∧ ListAt X w [#[.int .u64 (a0 : Nat), .int .u64 (a1 : Nat), .int .u64 (a2 : Nat), .int .u64 (a3 : Nat)], #[.int .u64 0, .int .u64 0, .int .u64 0, .int .u64 0]] k v wr) (fun _ i _ => 256 - (intOf i).toNat)
  case atStart => exact ⟨0, rfl, ⟨by omega, ⟨rfl, Or.inl ⟨rfl, rfl⟩⟩, boxes2 _ _ _, below2 _ _ _, by simp⟩⟩
  case round =>
    obtain ⟨k, rfl, L⟩ := hrel
    by_cases hlt : k < 256
    · have t1 : decide ((k : Int) < 256) = true := decide_eq_true (by omega)
      have a0' : wr.cell? ⟨w.heap.size, 0, none⟩ = some (.int .u64 (a0 : Nat)) := (L.box 0 _ rfl).cell 0
      have a1' : wr.cell? ⟨w.heap.size, 1, none⟩ = some (.int .u64 (a1 : Nat)) := (L.box 0 _ rfl).cell 1
      have a2' : wr.cell? ⟨w.heap.size, 2, none⟩ = some (.int .u64 (a2 : Nat)) := (L.box 0 _ rfl).cell 2
      have a3' : wr.cell? ⟨w.heap.size, 3, none⟩ = some (.int .u64 (a3 : Nat)) := (L.box 0 _ rfl).cell 3
      by_cases far : 256 < n
      · have t2 : decide ((256 : Int) < (n : Int)) = true := decide_eq_true (by omega)
        have hb : X / 2 ^ k % 2 = 0 := by rw [HX.out]; exact up_bit_low _ _ _ (by omega)
        have HB := Lib.hid hb
        clear hb
        obtain ⟨w2, hw2⟩ : ∃ w2 : World, w2 = wr := ⟨_, rfl⟩
        subst hw2
        have L2 := Lib.hid L
        clear L
        go_wp2_with (at_builtin; refine wpList_append_own _ rfl _ _ 58 rfl (w.heap.size + _) 3 i0 (.int .i64 0) 1 8 Try.underlying58 hi hz0 hz1 hz2 rfl (by decide) _ _ _ rfl (L2.out.own.alloc _) ⟨w2.heap.size, 0, none⟩ 1 1 [.int .i64 0] rfl rfl (news_one _ _ _) (one_int _ _) ?c3 ?c4 ?c5 ?_)
        case c3 => have := L2.out.le; unfold maxLen; omega
        case c4 => have := L2.out.le; omega
        case c5 => have := L2.out.size; simp at this ⊢; omega
        intro v' w1 hown' hgrow _
        have HR := Lib.hid (L2.out.step hlt HB.out hown' hgrow)
        clear hown' hgrow
        go_wp2_with fail
        go_roundw
        case rel => exact ⟨k + 1, by go_num, HR.out⟩
        case measure => simp [intOf]; omega
      · have t2 : decide ((256 : Int) < (n : Int)) = false := decide_eq_false (by omega)
        by_cases part : k < n
        · have hb : X / 2 ^ k % 2 = 0 := by rw [HX.out]; exact up_bit_low _ _ _ part
          have HB := Lib.hid hb
          clear hb
          go_wp2_with fail
          refine (bit_low a0 a1 a2 a3 _ _ (by omega)).mono ?_
          rintro e w2 ⟨rfl, hc⟩
          have L2 := Lib.hid (L.later hc)
          clear L hc
          go_wp2_with (at_builtin; refine wpList_append_own _ rfl _ _ 58 rfl (w.heap.size + _) 3 i0 (.int .i64 0) 1 8 Try.underlying58 hi hz0 hz1 hz2 rfl (by decide) _ _ _ rfl (L2.out.own.alloc _) ⟨w2.heap.size, 0, none⟩ 1 1 [.int .i64 0] rfl rfl (news_one _ _ _) (one_int _ _) ?c3 ?c4 ?c5 ?_)
          case c3 => have := L2.out.le; unfold maxLen; omega
          case c4 => have := L2.out.le; omega
          case c5 => have := L2.out.size; simp at this ⊢; omega
          intro v' w1 hown' hgrow _
          have HR := Lib.hid (L2.out.step hlt HB.out hown' hgrow)
          clear hown' hgrow
          go_wp2_with fail
          go_roundw
          case rel => exact ⟨k + 1, by go_num, HR.out⟩
          case measure => simp [intOf]; omega
        · have hb : X / 2 ^ k % 2 = val a0 a1 a2 a3 / 2 ^ (k - n) % 2 := by rw [HX.out]; rw [up_bit_high _ _ _ (by omega)]
          have HB := Lib.hid hb
          clear hb
          go_wp2_with fail
          refine (bit_at ha (k - n) (by omega) (by omega) _).mono ?_
          rintro e w2 ⟨rfl, hc⟩
          have L2 := Lib.hid (L.later hc)
          clear L hc
          go_wp2_with (at_builtin; refine wpList_append_own _ rfl _ _ 58 rfl (w.heap.size + _) 3 i0 (.int .i64 0) 1 8 Try.underlying58 hi hz0 hz1 hz2 rfl (by decide) _ _ _ rfl (L2.out.own.alloc _) ⟨w2.heap.size, 0, none⟩ 1 1 [.int .i64 ((val a0 a1 a2 a3 / 2 ^ (k - n) % 2 : Nat) : Int)] rfl rfl (news_one _ _ _) (one_int _ _) ?c3 ?c4 ?c5 ?_)
          case c3 => have := L2.out.le; unfold maxLen; omega
          case c4 => have := L2.out.le; omega
          case c5 => have := L2.out.size; simp at this ⊢; omega
          intro v' w1 hown' hgrow _
          have HR := Lib.hid (L2.out.step hlt HB.out hown' hgrow)
          clear hown' hgrow
          go_wp2_with fail
          go_roundw
          case rel => exact ⟨k + 1, by go_num, HR.out⟩
          case measure => simp [intOf]; omega
    · obtain rfl : k = 256 := by have := L.le; omega
      obtain ⟨B, cap, rfl, hB, hBw, hbits⟩ := owned_bits L.own
      have HBITS := Lib.hid hbits
      have L1 := Lib.hid L
      clear hbits L
      go_wp2_with fail
      refine (from_any X B cap _ hB HBITS.out).mono ?_
      rintro e w2 ⟨o0, o1, o2, o3, rfl, wo, vo, hc⟩
      have L2 := Lib.hid (L1.out.later hc)
      have H5 : Holds w2 (w.heap.size + 1) #[.int .u64 0, .int .u64 0, .int .u64 0, .int .u64 0] 25 := L2.out.box 1 _ rfl
      have HV := Lib.hid vo
      clear vo hc HBITS L1 hB
      have d0 : w2.cell? ⟨w.heap.size + 1, 0, none⟩ = some (.int .u64 0) := H5.cell 0
      have z0 : w2.frozen? ⟨w.heap.size + 1, 0, none⟩ = false := H5.free 0
      have d1 : w2.cell? ⟨w.heap.size + 1, 1, none⟩ = some (.int .u64 0) := H5.cell 1
      have z1 : w2.frozen? ⟨w.heap.size + 1, 1, none⟩ = false := H5.free 1
      have d2 : w2.cell? ⟨w.heap.size + 1, 2, none⟩ = some (.int .u64 0) := H5.cell 2
      have z2 : w2.frozen? ⟨w.heap.size + 1, 2, none⟩ = false := H5.free 2
      have d3 : w2.cell? ⟨w.heap.size + 1, 3, none⟩ = some (.int .u64 0) := H5.cell 3
      have z3 : w2.frozen? ⟨w.heap.size + 1, 3, none⟩ = false := H5.free 3
      go_wp2_with fail
      have b := ((((L2.out.bel.setCell (p := ⟨w.heap.size + 1, 0, none⟩) (by simp) (.int .u64 (o0 : Nat))).setCell (p := ⟨w.heap.size + 1, 1, none⟩) (by simp) (.int .u64 (o1 : Nat))).setCell (p := ⟨w.heap.size + 1, 2, none⟩) (by simp) (.int .u64 (o2 : Nat))).setCell (p := ⟨w.heap.size + 1, 3, none⟩) (by simp) (.int .u64 (o3 : Nat)))
      have HS : Holds ((((w2.setCell ⟨w.heap.size + 1, 0, none⟩ (.int .u64 (o0 : Nat))).setCell ⟨w.heap.size + 1, 1, none⟩ (.int .u64 (o1 : Nat))).setCell ⟨w.heap.size + 1, 2, none⟩ (.int .u64 (o2 : Nat))).setCell ⟨w.heap.size + 1, 3, none⟩ (.int .u64 (o3 : Nat))) (w.heap.size + 1) #[.int .u64 (o0 : Nat), .int .u64 (o1 : Nat), .int .u64 (o2 : Nat), .int .u64 (o3 : Nat)] 25 := (((H5.set _).set _).set _).set _
      have g0 : ((((w2.setCell ⟨w.heap.size + 1, 0, none⟩ (.int .u64 (o0 : Nat))).setCell ⟨w.heap.size + 1, 1, none⟩ (.int .u64 (o1 : Nat))).setCell ⟨w.heap.size + 1, 2, none⟩ (.int .u64 (o2 : Nat))).setCell ⟨w.heap.size + 1, 3, none⟩ (.int .u64 (o3 : Nat))).cell? ⟨w.heap.size + 1, 0, none⟩ = some (.int .u64 (o0 : Nat)) := HS.cell 0
      have g1 : ((((w2.setCell ⟨w.heap.size + 1, 0, none⟩ (.int .u64 (o0 : Nat))).setCell ⟨w.heap.size + 1, 1, none⟩ (.int .u64 (o1 : Nat))).setCell ⟨w.heap.size + 1, 2, none⟩ (.int .u64 (o2 : Nat))).setCell ⟨w.heap.size + 1, 3, none⟩ (.int .u64 (o3 : Nat))).cell? ⟨w.heap.size + 1, 1, none⟩ = some (.int .u64 (o1 : Nat)) := HS.cell 1
      have g2 : ((((w2.setCell ⟨w.heap.size + 1, 0, none⟩ (.int .u64 (o0 : Nat))).setCell ⟨w.heap.size + 1, 1, none⟩ (.int .u64 (o1 : Nat))).setCell ⟨w.heap.size + 1, 2, none⟩ (.int .u64 (o2 : Nat))).setCell ⟨w.heap.size + 1, 3, none⟩ (.int .u64 (o3 : Nat))).cell? ⟨w.heap.size + 1, 2, none⟩ = some (.int .u64 (o2 : Nat)) := HS.cell 2
      have g3 : ((((w2.setCell ⟨w.heap.size + 1, 0, none⟩ (.int .u64 (o0 : Nat))).setCell ⟨w.heap.size + 1, 1, none⟩ (.int .u64 (o1 : Nat))).setCell ⟨w.heap.size + 1, 2, none⟩ (.int .u64 (o2 : Nat))).setCell ⟨w.heap.size + 1, 3, none⟩ (.int .u64 (o3 : Nat))).cell? ⟨w.heap.size + 1, 3, none⟩ = some (.int .u64 (o3 : Nat)) := HS.cell 3
      refine bodyPost_ret (v := .agg #[.int .u64 (o0 : Nat), .int .u64 (o1 : Nat), .int .u64 (o2 : Nat), .int .u64 (o3 : Nat)]) (by simp [results, Try.results30, go_sem, g0, g1, g2, g3]) rfl ⟨o0, o1, o2, o3, rfl, wo, HV.out, b⟩

set_option maxRecDepth 100000 in
set_option maxHeartbeats 8000000 in
theorem refdown_any {a0 a1 a2 a3 : Nat} (ha : Words a0 a1 a2 a3) (n : Nat) (hn : 1 ≤ n) (hm : n ≤ 9223372036854775807) (w : World) : Calls Try.prog 29 #[.agg #[.int .u64 (a0 : Nat), .int .u64 (a1 : Nat), .int .u64 (a2 : Nat), .int .u64 (a3 : Nat)], .int .i64 (n : Nat)] w (FromPost (val a0 a1 a2 a3 / 2 ^ n) w) := by
  obtain ⟨i0, hi, hz0, hz1, hz2⟩ := info_parts Try.infoInt
  obtain ⟨X, hX⟩ : ∃ X, X = val a0 a1 a2 a3 / 2 ^ n := ⟨_, rfl⟩
  rw [← hX]
  have HX := Lib.hid hX
  have hA : val a0 a1 a2 a3 < 115792089237316195423570985008687907853269984665640564039457584007913129639936 := by obtain ⟨_, _, _, _⟩ := ha; unfold val; omega
  have HA := Lib.hid hA
  have n0 : decide (n = 0) = false := decide_eq_false (by omega)
  clear hX hA
  go_enter Try.func29, Try.ntmps29
  go_wp2_with fail
  go_loopw [5, 6] (fun v i wr => ∃ k : Nat, i = .int .i64 (k : Nat) ∧ ListAt X w [#[.int .u64 (a0 : Nat), .int .u64 (a1 : Nat), .int .u64 (a2 : Nat), .int .u64 (a3 : Nat)], #[.int .u64 0, .int .u64 0, .int .u64 0, .int .u64 0]] k v wr) (fun _ i _ => 256 - (intOf i).toNat)
  case atStart => exact ⟨0, rfl, ⟨by omega, ⟨rfl, Or.inl ⟨rfl, rfl⟩⟩, boxes2 _ _ _, below2 _ _ _, by simp⟩⟩
  case round =>
    obtain ⟨k, rfl, L⟩ := hrel
    by_cases hlt : k < 256
    · have t1 : decide ((k : Int) < 256) = true := decide_eq_true (by omega)
      have a0' : wr.cell? ⟨w.heap.size, 0, none⟩ = some (.int .u64 (a0 : Nat)) := (L.box 0 _ rfl).cell 0
      have a1' : wr.cell? ⟨w.heap.size, 1, none⟩ = some (.int .u64 (a1 : Nat)) := (L.box 0 _ rfl).cell 1
      have a2' : wr.cell? ⟨w.heap.size, 2, none⟩ = some (.int .u64 (a2 : Nat)) := (L.box 0 _ rfl).cell 2
      have a3' : wr.cell? ⟨w.heap.size, 3, none⟩ = some (.int .u64 (a3 : Nat)) := (L.box 0 _ rfl).cell 3
      by_cases far : 256 < n
      · have t2 : decide ((256 : Int) < (n : Int)) = true := decide_eq_true (by omega)
        have hb : X / 2 ^ k % 2 = 0 := by rw [HX.out]; exact down_bit_high _ _ _ HA.out (by omega)
        have HB := Lib.hid hb
        clear hb
        obtain ⟨w2, hw2⟩ : ∃ w2 : World, w2 = wr := ⟨_, rfl⟩
        subst hw2
        have L2 := Lib.hid L
        clear L
        go_wp2_with (at_builtin; refine wpList_append_own _ rfl _ _ 58 rfl (w.heap.size + _) 3 i0 (.int .i64 0) 1 8 Try.underlying58 hi hz0 hz1 hz2 rfl (by decide) _ _ _ rfl (L2.out.own.alloc _) ⟨w2.heap.size, 0, none⟩ 1 1 [.int .i64 0] rfl rfl (news_one _ _ _) (one_int _ _) ?c3 ?c4 ?c5 ?_)
        case c3 => have := L2.out.le; unfold maxLen; omega
        case c4 => have := L2.out.le; omega
        case c5 => have := L2.out.size; simp at this ⊢; omega
        intro v' w1 hown' hgrow _
        have HR := Lib.hid (L2.out.step hlt HB.out hown' hgrow)
        clear hown' hgrow
        go_wp2_with fail
        go_roundw
        case rel => exact ⟨k + 1, by go_num, HR.out⟩
        case measure => simp [intOf]; omega
      · have t2 : decide ((256 : Int) < (n : Int)) = false := decide_eq_false (by omega)
        by_cases part : 256 ≤ k + n
        · have hb : X / 2 ^ k % 2 = 0 := by rw [HX.out]; exact down_bit_high _ _ _ HA.out part
          have HB := Lib.hid hb
          clear hb
          go_wp2_with fail
          refine (bit_high a0 a1 a2 a3 _ _ (by omega)).mono ?_
          rintro e w2 ⟨rfl, hc⟩
          have L2 := Lib.hid (L.later hc)
          clear L hc
          go_wp2_with (at_builtin; refine wpList_append_own _ rfl _ _ 58 rfl (w.heap.size + _) 3 i0 (.int .i64 0) 1 8 Try.underlying58 hi hz0 hz1 hz2 rfl (by decide) _ _ _ rfl (L2.out.own.alloc _) ⟨w2.heap.size, 0, none⟩ 1 1 [.int .i64 0] rfl rfl (news_one _ _ _) (one_int _ _) ?c3 ?c4 ?c5 ?_)
          case c3 => have := L2.out.le; unfold maxLen; omega
          case c4 => have := L2.out.le; omega
          case c5 => have := L2.out.size; simp at this ⊢; omega
          intro v' w1 hown' hgrow _
          have HR := Lib.hid (L2.out.step hlt HB.out hown' hgrow)
          clear hown' hgrow
          go_wp2_with fail
          go_roundw
          case rel => exact ⟨k + 1, by go_num, HR.out⟩
          case measure => simp [intOf]; omega
        · have hb : X / 2 ^ k % 2 = val a0 a1 a2 a3 / 2 ^ (k + n) % 2 := by rw [HX.out]; rw [down_bit]
          have HB := Lib.hid hb
          clear hb
          go_wp2_with fail
          refine (bit_at ha (k + n) (by omega) (by omega) _).mono ?_
          rintro e w2 ⟨rfl, hc⟩
          have L2 := Lib.hid (L.later hc)
          clear L hc
          go_wp2_with (at_builtin; refine wpList_append_own _ rfl _ _ 58 rfl (w.heap.size + _) 3 i0 (.int .i64 0) 1 8 Try.underlying58 hi hz0 hz1 hz2 rfl (by decide) _ _ _ rfl (L2.out.own.alloc _) ⟨w2.heap.size, 0, none⟩ 1 1 [.int .i64 ((val a0 a1 a2 a3 / 2 ^ (k + n) % 2 : Nat) : Int)] rfl rfl (news_one _ _ _) (one_int _ _) ?c3 ?c4 ?c5 ?_)
          case c3 => have := L2.out.le; unfold maxLen; omega
          case c4 => have := L2.out.le; omega
          case c5 => have := L2.out.size; simp at this ⊢; omega
          intro v' w1 hown' hgrow _
          have HR := Lib.hid (L2.out.step hlt HB.out hown' hgrow)
          clear hown' hgrow
          go_wp2_with fail
          go_roundw
          case rel => exact ⟨k + 1, by go_num, HR.out⟩
          case measure => simp [intOf]; omega
    · obtain rfl : k = 256 := by have := L.le; omega
      obtain ⟨B, cap, rfl, hB, hBw, hbits⟩ := owned_bits L.own
      have HBITS := Lib.hid hbits
      have L1 := Lib.hid L
      clear hbits L
      go_wp2_with fail
      refine (from_any X B cap _ hB HBITS.out).mono ?_
      rintro e w2 ⟨o0, o1, o2, o3, rfl, wo, vo, hc⟩
      have L2 := Lib.hid (L1.out.later hc)
      have H5 : Holds w2 (w.heap.size + 1) #[.int .u64 0, .int .u64 0, .int .u64 0, .int .u64 0] 25 := L2.out.box 1 _ rfl
      have HV := Lib.hid vo
      clear vo hc HBITS L1 hB
      have d0 : w2.cell? ⟨w.heap.size + 1, 0, none⟩ = some (.int .u64 0) := H5.cell 0
      have z0 : w2.frozen? ⟨w.heap.size + 1, 0, none⟩ = false := H5.free 0
      have d1 : w2.cell? ⟨w.heap.size + 1, 1, none⟩ = some (.int .u64 0) := H5.cell 1
      have z1 : w2.frozen? ⟨w.heap.size + 1, 1, none⟩ = false := H5.free 1
      have d2 : w2.cell? ⟨w.heap.size + 1, 2, none⟩ = some (.int .u64 0) := H5.cell 2
      have z2 : w2.frozen? ⟨w.heap.size + 1, 2, none⟩ = false := H5.free 2
      have d3 : w2.cell? ⟨w.heap.size + 1, 3, none⟩ = some (.int .u64 0) := H5.cell 3
      have z3 : w2.frozen? ⟨w.heap.size + 1, 3, none⟩ = false := H5.free 3
      go_wp2_with fail
      have b := ((((L2.out.bel.setCell (p := ⟨w.heap.size + 1, 0, none⟩) (by simp) (.int .u64 (o0 : Nat))).setCell (p := ⟨w.heap.size + 1, 1, none⟩) (by simp) (.int .u64 (o1 : Nat))).setCell (p := ⟨w.heap.size + 1, 2, none⟩) (by simp) (.int .u64 (o2 : Nat))).setCell (p := ⟨w.heap.size + 1, 3, none⟩) (by simp) (.int .u64 (o3 : Nat)))
      have HS : Holds ((((w2.setCell ⟨w.heap.size + 1, 0, none⟩ (.int .u64 (o0 : Nat))).setCell ⟨w.heap.size + 1, 1, none⟩ (.int .u64 (o1 : Nat))).setCell ⟨w.heap.size + 1, 2, none⟩ (.int .u64 (o2 : Nat))).setCell ⟨w.heap.size + 1, 3, none⟩ (.int .u64 (o3 : Nat))) (w.heap.size + 1) #[.int .u64 (o0 : Nat), .int .u64 (o1 : Nat), .int .u64 (o2 : Nat), .int .u64 (o3 : Nat)] 25 := (((H5.set _).set _).set _).set _
      have g0 : ((((w2.setCell ⟨w.heap.size + 1, 0, none⟩ (.int .u64 (o0 : Nat))).setCell ⟨w.heap.size + 1, 1, none⟩ (.int .u64 (o1 : Nat))).setCell ⟨w.heap.size + 1, 2, none⟩ (.int .u64 (o2 : Nat))).setCell ⟨w.heap.size + 1, 3, none⟩ (.int .u64 (o3 : Nat))).cell? ⟨w.heap.size + 1, 0, none⟩ = some (.int .u64 (o0 : Nat)) := HS.cell 0
      have g1 : ((((w2.setCell ⟨w.heap.size + 1, 0, none⟩ (.int .u64 (o0 : Nat))).setCell ⟨w.heap.size + 1, 1, none⟩ (.int .u64 (o1 : Nat))).setCell ⟨w.heap.size + 1, 2, none⟩ (.int .u64 (o2 : Nat))).setCell ⟨w.heap.size + 1, 3, none⟩ (.int .u64 (o3 : Nat))).cell? ⟨w.heap.size + 1, 1, none⟩ = some (.int .u64 (o1 : Nat)) := HS.cell 1
      have g2 : ((((w2.setCell ⟨w.heap.size + 1, 0, none⟩ (.int .u64 (o0 : Nat))).setCell ⟨w.heap.size + 1, 1, none⟩ (.int .u64 (o1 : Nat))).setCell ⟨w.heap.size + 1, 2, none⟩ (.int .u64 (o2 : Nat))).setCell ⟨w.heap.size + 1, 3, none⟩ (.int .u64 (o3 : Nat))).cell? ⟨w.heap.size + 1, 2, none⟩ = some (.int .u64 (o2 : Nat)) := HS.cell 2
      have g3 : ((((w2.setCell ⟨w.heap.size + 1, 0, none⟩ (.int .u64 (o0 : Nat))).setCell ⟨w.heap.size + 1, 1, none⟩ (.int .u64 (o1 : Nat))).setCell ⟨w.heap.size + 1, 2, none⟩ (.int .u64 (o2 : Nat))).setCell ⟨w.heap.size + 1, 3, none⟩ (.int .u64 (o3 : Nat))).cell? ⟨w.heap.size + 1, 3, none⟩ = some (.int .u64 (o3 : Nat)) := HS.cell 3
      refine bodyPost_ret (v := .agg #[.int .u64 (o0 : Nat), .int .u64 (o1 : Nat), .int .u64 (o2 : Nat), .int .u64 (o3 : Nat)]) (by simp [results, Try.results29, go_sem, g0, g1, g2, g3]) rfl ⟨o0, o1, o2, o3, rfl, wo, HV.out, b⟩

end Go.Proofs.Ytnipajfglmahiaa
