/- Add, Sub, Less and Bits of the document's answers of layer 2, at every number. -/
import Derived.Test.YtimjmmiajgfblaaGreatDoorGba
import Derived.Deep.RegionWith
import Derived.Handy

namespace Go.Proofs.YtimjmmiajgfblaaGreatDoor.Bg
open Go.RowKit

/-- Bit of the document gives this bit, in every world. -/
def BitIs (x0 x1 x2 x3 n d : Nat) : Prop := ∀ w : World, Calls Tryz.prog 54 #[.agg #[.int .u64 (x0 : Nat), .int .u64 (x1 : Nat), .int .u64 (x2 : Nat), .int .u64 (x3 : Nat)], .int .i64 (n : Nat)] w fun e w' => e = .returned (.int .i64 (d : Nat)) ∧ Below w.heap.size w w'
theorem bitIs {a0 a1 a2 a3 n d : Nat} (ha : Words a0 a1 a2 a3) (hn : n < 256) (hd : d = val a0 a1 a2 a3 / 2 ^ n % 2) : BitIs a0 a1 a2 a3 n d := by
  subst hd; exact bit_any ha n hn

theorem add_bit (A B k : Nat) : (A + B) / 2 ^ k % 2 = (A / 2 ^ k % 2 + B / 2 ^ k % 2 + (A % 2 ^ k + B % 2 ^ k) / 2 ^ k) % 2 ∧ (A % 2 ^ (k + 1) + B % 2 ^ (k + 1)) / 2 ^ (k + 1) = (A / 2 ^ k % 2 + B / 2 ^ k % 2 + (A % 2 ^ k + B % 2 ^ k) / 2 ^ k) / 2 := by
  have hp : 0 < 2 ^ k := Nat.two_pow_pos k
  have ea := Nat.div_add_mod A (2 ^ k)
  have eb := Nat.div_add_mod B (2 ^ k)
  constructor
  · have e : (A + B) / 2 ^ k = A / 2 ^ k + B / 2 ^ k + (A % 2 ^ k + B % 2 ^ k) / 2 ^ k := by
      have e2 : A + B = (A % 2 ^ k + B % 2 ^ k) + 2 ^ k * (A / 2 ^ k + B / 2 ^ k) := by rw [Nat.mul_add]; omega
      rw [e2, Nat.add_mul_div_left _ _ hp, Nat.add_comm]
    rw [e]; omega
  · rw [mod_succ, mod_succ, Nat.pow_succ, ← Nat.div_div_eq_div_mul]
    have e : A % 2 ^ k + 2 ^ k * (A / 2 ^ k % 2) + (B % 2 ^ k + 2 ^ k * (B / 2 ^ k % 2)) = (A % 2 ^ k + B % 2 ^ k) + 2 ^ k * (A / 2 ^ k % 2 + B / 2 ^ k % 2) := by rw [Nat.mul_add]; omega
    rw [e, Nat.add_mul_div_left _ _ hp]
    congr 1
    omega
theorem carry_le (A B k : Nat) : (A % 2 ^ k + B % 2 ^ k) / 2 ^ k ≤ 1 := by
  have hp : 0 < 2 ^ k := Nat.two_pow_pos k
  have h1 := Nat.mod_lt A hp
  have h2 := Nat.mod_lt B hp
  have : (A % 2 ^ k + B % 2 ^ k) / 2 ^ k < 2 := by rw [Nat.div_lt_iff_lt_mul hp]; omega
  omega
theorem bit_two (x : Nat) : x % 2 = 0 ∨ x % 2 = 1 := Nat.mod_two_eq_zero_or_one x
theorem add_high_bit (A k : Nat) (hk : k < 256) : (A + 115792089237316195423570985008687907853269984665640564039457584007913129639936) / 2 ^ k % 2 = A / 2 ^ k % 2 := by
  have e : (115792089237316195423570985008687907853269984665640564039457584007913129639936 : Nat) = 2 ^ (256 - k - 1) * 2 * 2 ^ k := by
    rw [← Nat.pow_succ, ← Nat.pow_add, show 256 - k - 1 + 1 + k = 256 by omega]
  rw [e, Nat.add_mul_div_right _ _ (Nat.two_pow_pos k), Nat.add_mul_mod_self_right]

def SumPost (X : Nat) (o : Bool) (w : World) (e : Ending) (w' : World) : Prop := ∃ o0 o1 o2 o3 : Nat, e = .returned (.tuple #[.agg #[.int .u64 (o0 : Nat), .int .u64 (o1 : Nat), .int .u64 (o2 : Nat), .int .u64 (o3 : Nat)], .bool o]) ∧ Words o0 o1 o2 o3 ∧ val o0 o1 o2 o3 = X % 115792089237316195423570985008687907853269984665640564039457584007913129639936 ∧ Below w.heap.size w w'

set_option maxRecDepth 100000 in
set_option maxHeartbeats 16000000 in
theorem refadd_any {a0 a1 a2 a3 b0 b1 b2 b3 : Nat} (ha : Words a0 a1 a2 a3) (hb : Words b0 b1 b2 b3) (o : Bool) (ho : o = decide (115792089237316195423570985008687907853269984665640564039457584007913129639936 ≤ val a0 a1 a2 a3 + val b0 b1 b2 b3)) (w : World) : Calls Tryz.prog 27 #[.agg #[.int .u64 (a0 : Nat), .int .u64 (a1 : Nat), .int .u64 (a2 : Nat), .int .u64 (a3 : Nat)], .agg #[.int .u64 (b0 : Nat), .int .u64 (b1 : Nat), .int .u64 (b2 : Nat), .int .u64 (b3 : Nat)]] w (SumPost (val a0 a1 a2 a3 + val b0 b1 b2 b3) o w) := by
  obtain ⟨i0, hi, hz0, hz1, hz2⟩ := info_parts Tryz.infoInt
  have lA : val a0 a1 a2 a3 < 115792089237316195423570985008687907853269984665640564039457584007913129639936 := by obtain ⟨_, _, _, _⟩ := ha; unfold val; omega
  have lB : val b0 b1 b2 b3 < 115792089237316195423570985008687907853269984665640564039457584007913129639936 := by obtain ⟨_, _, _, _⟩ := hb; unfold val; omega
  have LA := Lib.hid lA
  have LB := Lib.hid lB
  clear lA lB
  obtain ⟨X, hX⟩ : ∃ X, X = val a0 a1 a2 a3 + val b0 b1 b2 b3 := ⟨_, rfl⟩
  rw [← hX]
  have HX := Lib.hid hX
  have HO := Lib.hid ho
  clear hX ho
  go_enter Tryz.func27, Tryz.ntmps27
  go_wp2_with fail
  go_loopw [6, 7, 8] (fun v c i wr => ∃ k cc : Nat, i = .int .i64 (k : Nat) ∧ c = .int .i64 (cc : Nat) ∧ cc = (val a0 a1 a2 a3 % 2 ^ k + val b0 b1 b2 b3 % 2 ^ k) / 2 ^ k ∧ ListAt X w [#[.int .u64 (a0 : Nat), .int .u64 (a1 : Nat), .int .u64 (a2 : Nat), .int .u64 (a3 : Nat)], #[.int .u64 (b0 : Nat), .int .u64 (b1 : Nat), .int .u64 (b2 : Nat), .int .u64 (b3 : Nat)], #[.int .u64 0, .int .u64 0, .int .u64 0, .int .u64 0]] k v wr) (fun _ _ i _ => 256 - (intOf i).toNat)
  case atStart => exact ⟨0, 0, rfl, rfl, by rw [Nat.pow_zero, Nat.mod_one, Nat.mod_one], ⟨by omega, ⟨rfl, Or.inl ⟨rfl, rfl⟩⟩, boxes3 _ _ _ _, below3 _ _ _ _, by simp⟩⟩
  case round =>
    obtain ⟨k, cc, rfl, rfl, hcc, L⟩ := hrel
    by_cases hlt : k < 256
    · have t1 : decide ((k : Int) < 256) = true := decide_eq_true (by omega)
      have a0' : wr.cell? ⟨w.heap.size, 0, none⟩ = some (.int .u64 (a0 : Nat)) := (L.box 0 _ rfl).cell 0
      have a1' : wr.cell? ⟨w.heap.size, 1, none⟩ = some (.int .u64 (a1 : Nat)) := (L.box 0 _ rfl).cell 1
      have a2' : wr.cell? ⟨w.heap.size, 2, none⟩ = some (.int .u64 (a2 : Nat)) := (L.box 0 _ rfl).cell 2
      have a3' : wr.cell? ⟨w.heap.size, 3, none⟩ = some (.int .u64 (a3 : Nat)) := (L.box 0 _ rfl).cell 3
      have b0' : wr.cell? ⟨w.heap.size + 1, 0, none⟩ = some (.int .u64 (b0 : Nat)) := (L.box 1 _ rfl).cell 0
      have b1' : wr.cell? ⟨w.heap.size + 1, 1, none⟩ = some (.int .u64 (b1 : Nat)) := (L.box 1 _ rfl).cell 1
      have b2' : wr.cell? ⟨w.heap.size + 1, 2, none⟩ = some (.int .u64 (b2 : Nat)) := (L.box 1 _ rfl).cell 2
      have b3' : wr.cell? ⟨w.heap.size + 1, 3, none⟩ = some (.int .u64 (b3 : Nat)) := (L.box 1 _ rfl).cell 3
      have ua0 : ∀ u : After wr, u.w.cell? ⟨w.heap.size, 0, none⟩ = some (.int .u64 (a0 : Nat)) := fun u => u.cell a0'
      have ua1 : ∀ u : After wr, u.w.cell? ⟨w.heap.size, 1, none⟩ = some (.int .u64 (a1 : Nat)) := fun u => u.cell a1'
      have ua2 : ∀ u : After wr, u.w.cell? ⟨w.heap.size, 2, none⟩ = some (.int .u64 (a2 : Nat)) := fun u => u.cell a2'
      have ua3 : ∀ u : After wr, u.w.cell? ⟨w.heap.size, 3, none⟩ = some (.int .u64 (a3 : Nat)) := fun u => u.cell a3'
      have ub0 : ∀ u : After wr, u.w.cell? ⟨w.heap.size + 1, 0, none⟩ = some (.int .u64 (b0 : Nat)) := fun u => u.cell b0'
      have ub1 : ∀ u : After wr, u.w.cell? ⟨w.heap.size + 1, 1, none⟩ = some (.int .u64 (b1 : Nat)) := fun u => u.cell b1'
      have ub2 : ∀ u : After wr, u.w.cell? ⟨w.heap.size + 1, 2, none⟩ = some (.int .u64 (b2 : Nat)) := fun u => u.cell b2'
      have ub3 : ∀ u : After wr, u.w.cell? ⟨w.heap.size + 1, 3, none⟩ = some (.int .u64 (b3 : Nat)) := fun u => u.cell b3'
      obtain ⟨x, hx⟩ : ∃ x, x = val a0 a1 a2 a3 / 2 ^ k % 2 := ⟨_, rfl⟩
      obtain ⟨y, hy⟩ : ∃ y, y = val b0 b1 b2 b3 / 2 ^ k % 2 := ⟨_, rfl⟩
      have CA := Lib.hid (bitIs ha hlt hx)
      have CB := Lib.hid (bitIs hb hlt hy)
      have c1 : cc ≤ 1 := by rw [hcc]; exact carry_le _ _ _
      obtain ⟨hbit, hnext⟩ := add_bit (val a0 a1 a2 a3) (val b0 b1 b2 b3) k
      rw [← hx, ← hy, ← hcc] at hbit hnext
      rw [← HX.out] at hbit
      have hx2 : x = 0 ∨ x = 1 := by rw [hx]; exact bit_two _
      have hy2 : y = 0 ∨ y = 1 := by rw [hy]; exact bit_two _
      have hc2 : cc = 0 ∨ cc = 1 := by omega
      have HN := Lib.hid hnext
      have HC := Lib.hid hcc
      have HBIT := Lib.hid hbit
      clear hnext hcc hx hy hbit c1
      by_cases h000 : x = 0 ∧ y = 0 ∧ cc = 0
      · obtain ⟨rfl, rfl, rfl⟩ := h000
        have HB : Hid (X / 2 ^ k % 2 = 0) := by
          have h1 := HBIT.out
          show _ = _
          omega
        have HN2 : Hid ((val a0 a1 a2 a3 % 2 ^ (k + 1) + val b0 b1 b2 b3 % 2 ^ (k + 1)) / 2 ^ (k + 1) = 0) := by
          have h1 := HN.out
          have h2 := HBIT.out
          show _ = _
          omega
        go_wp2_with fail
        refine wp_region_after (by kernel_rfl) (by kernel_rfl) ?_
        repeat (go_big_quiet_step ((first | (go_at_call_of 54 ((a0 : Nat) : Int); exact after_call (CA.out _)) | (go_at_call_of 54 ((b0 : Nat) : Int); exact after_call (CB.out _)))))
        refine wpQuiet_nil ?_
        rintro _ ⟨u, rfl⟩
        clear ua0 ua1 ua2 ua3 ub0 ub1 ub2 ub3
        have L2 := Lib.hid (L.later u.below)
        clear L
        generalize u.w = w2 at *
        go_wp2_with (at_builtin; refine wpList_append_own _ rfl _ _ 84 rfl (w.heap.size + _) 3 i0 (.int .i64 0) 1 8 Tryz.underlying84 hi hz0 hz1 hz2 rfl (by decide) _ _ _ rfl (L2.out.own.alloc _) ⟨w2.heap.size, 0, none⟩ 1 1 [.int .i64 0] rfl rfl (news_one _ _ _) (one_int _ _) ?c3 ?c4 ?c5 ?_)
        case c3 => have := L2.out.le; unfold maxLen; omega
        case c4 => have := L2.out.le; omega
        case c5 => have := L2.out.size; simp at this ⊢; omega
        intro v' w1 hown' hgrow _
        have HR := Lib.hid (L2.out.step hlt HB.out hown' hgrow)
        clear hown' hgrow
        go_wp2_with fail
        go_roundw
        case rel => exact ⟨k + 1, 0, by go_num, rfl, HN2.out.symm, HR.out⟩
        case measure => simp [intOf]; omega
      by_cases h001 : x = 0 ∧ y = 0 ∧ cc = 1
      · obtain ⟨rfl, rfl, rfl⟩ := h001
        have HB : Hid (X / 2 ^ k % 2 = 1) := by
          have h1 := HBIT.out
          show _ = _
          omega
        have HN2 : Hid ((val a0 a1 a2 a3 % 2 ^ (k + 1) + val b0 b1 b2 b3 % 2 ^ (k + 1)) / 2 ^ (k + 1) = 0) := by
          have h1 := HN.out
          have h2 := HBIT.out
          show _ = _
          omega
        go_wp2_with fail
        refine wp_region_after (by kernel_rfl) (by kernel_rfl) ?_
        repeat (go_big_quiet_step ((first | (go_at_call_of 54 ((a0 : Nat) : Int); exact after_call (CA.out _)) | (go_at_call_of 54 ((b0 : Nat) : Int); exact after_call (CB.out _)))))
        refine wpQuiet_nil ?_
        rintro _ ⟨u, rfl⟩
        clear ua0 ua1 ua2 ua3 ub0 ub1 ub2 ub3
        have L2 := Lib.hid (L.later u.below)
        clear L
        generalize u.w = w2 at *
        go_wp2_with (at_builtin; refine wpList_append_own _ rfl _ _ 84 rfl (w.heap.size + _) 3 i0 (.int .i64 0) 1 8 Tryz.underlying84 hi hz0 hz1 hz2 rfl (by decide) _ _ _ rfl (L2.out.own.alloc _) ⟨w2.heap.size, 0, none⟩ 1 1 [.int .i64 1] rfl rfl (news_one _ _ _) (one_int _ _) ?c3 ?c4 ?c5 ?_)
        case c3 => have := L2.out.le; unfold maxLen; omega
        case c4 => have := L2.out.le; omega
        case c5 => have := L2.out.size; simp at this ⊢; omega
        intro v' w1 hown' hgrow _
        have HR := Lib.hid (L2.out.step hlt HB.out hown' hgrow)
        clear hown' hgrow
        go_wp2_with fail
        go_roundw
        case rel => exact ⟨k + 1, 0, by go_num, rfl, HN2.out.symm, HR.out⟩
        case measure => simp [intOf]; omega
      by_cases h010 : x = 0 ∧ y = 1 ∧ cc = 0
      · obtain ⟨rfl, rfl, rfl⟩ := h010
        have HB : Hid (X / 2 ^ k % 2 = 1) := by
          have h1 := HBIT.out
          show _ = _
          omega
        have HN2 : Hid ((val a0 a1 a2 a3 % 2 ^ (k + 1) + val b0 b1 b2 b3 % 2 ^ (k + 1)) / 2 ^ (k + 1) = 0) := by
          have h1 := HN.out
          have h2 := HBIT.out
          show _ = _
          omega
        go_wp2_with fail
        refine wp_region_after (by kernel_rfl) (by kernel_rfl) ?_
        repeat (go_big_quiet_step ((first | (go_at_call_of 54 ((a0 : Nat) : Int); exact after_call (CA.out _)) | (go_at_call_of 54 ((b0 : Nat) : Int); exact after_call (CB.out _)))))
        refine wpQuiet_nil ?_
        rintro _ ⟨u, rfl⟩
        clear ua0 ua1 ua2 ua3 ub0 ub1 ub2 ub3
        have L2 := Lib.hid (L.later u.below)
        clear L
        generalize u.w = w2 at *
        go_wp2_with (at_builtin; refine wpList_append_own _ rfl _ _ 84 rfl (w.heap.size + _) 3 i0 (.int .i64 0) 1 8 Tryz.underlying84 hi hz0 hz1 hz2 rfl (by decide) _ _ _ rfl (L2.out.own.alloc _) ⟨w2.heap.size, 0, none⟩ 1 1 [.int .i64 1] rfl rfl (news_one _ _ _) (one_int _ _) ?c3 ?c4 ?c5 ?_)
        case c3 => have := L2.out.le; unfold maxLen; omega
        case c4 => have := L2.out.le; omega
        case c5 => have := L2.out.size; simp at this ⊢; omega
        intro v' w1 hown' hgrow _
        have HR := Lib.hid (L2.out.step hlt HB.out hown' hgrow)
        clear hown' hgrow
        go_wp2_with fail
        go_roundw
        case rel => exact ⟨k + 1, 0, by go_num, rfl, HN2.out.symm, HR.out⟩
        case measure => simp [intOf]; omega
      by_cases h011 : x = 0 ∧ y = 1 ∧ cc = 1
      · obtain ⟨rfl, rfl, rfl⟩ := h011
        have HB : Hid (X / 2 ^ k % 2 = 0) := by
          have h1 := HBIT.out
          show _ = _
          omega
        have HN2 : Hid ((val a0 a1 a2 a3 % 2 ^ (k + 1) + val b0 b1 b2 b3 % 2 ^ (k + 1)) / 2 ^ (k + 1) = 1) := by
          have h1 := HN.out
          have h2 := HBIT.out
          show _ = _
          omega
        go_wp2_with fail
        refine wp_region_after (by kernel_rfl) (by kernel_rfl) ?_
        repeat (go_big_quiet_step ((first | (go_at_call_of 54 ((a0 : Nat) : Int); exact after_call (CA.out _)) | (go_at_call_of 54 ((b0 : Nat) : Int); exact after_call (CB.out _)))))
        refine wpQuiet_nil ?_
        rintro _ ⟨u, rfl⟩
        clear ua0 ua1 ua2 ua3 ub0 ub1 ub2 ub3
        have L2 := Lib.hid (L.later u.below)
        clear L
        generalize u.w = w2 at *
        go_wp2_with (at_builtin; refine wpList_append_own _ rfl _ _ 84 rfl (w.heap.size + _) 3 i0 (.int .i64 0) 1 8 Tryz.underlying84 hi hz0 hz1 hz2 rfl (by decide) _ _ _ rfl (L2.out.own.alloc _) ⟨w2.heap.size, 0, none⟩ 1 1 [.int .i64 0] rfl rfl (news_one _ _ _) (one_int _ _) ?c3 ?c4 ?c5 ?_)
        case c3 => have := L2.out.le; unfold maxLen; omega
        case c4 => have := L2.out.le; omega
        case c5 => have := L2.out.size; simp at this ⊢; omega
        intro v' w1 hown' hgrow _
        have HR := Lib.hid (L2.out.step hlt HB.out hown' hgrow)
        clear hown' hgrow
        go_wp2_with fail
        go_roundw
        case rel => exact ⟨k + 1, 1, by go_num, rfl, HN2.out.symm, HR.out⟩
        case measure => simp [intOf]; omega
      by_cases h100 : x = 1 ∧ y = 0 ∧ cc = 0
      · obtain ⟨rfl, rfl, rfl⟩ := h100
        have HB : Hid (X / 2 ^ k % 2 = 1) := by
          have h1 := HBIT.out
          show _ = _
          omega
        have HN2 : Hid ((val a0 a1 a2 a3 % 2 ^ (k + 1) + val b0 b1 b2 b3 % 2 ^ (k + 1)) / 2 ^ (k + 1) = 0) := by
          have h1 := HN.out
          have h2 := HBIT.out
          show _ = _
          omega
        go_wp2_with fail
        refine wp_region_after (by kernel_rfl) (by kernel_rfl) ?_
        repeat (go_big_quiet_step ((first | (go_at_call_of 54 ((a0 : Nat) : Int); exact after_call (CA.out _)) | (go_at_call_of 54 ((b0 : Nat) : Int); exact after_call (CB.out _)))))
        refine wpQuiet_nil ?_
        rintro _ ⟨u, rfl⟩
        clear ua0 ua1 ua2 ua3 ub0 ub1 ub2 ub3
        have L2 := Lib.hid (L.later u.below)
        clear L
        generalize u.w = w2 at *
        go_wp2_with (at_builtin; refine wpList_append_own _ rfl _ _ 84 rfl (w.heap.size + _) 3 i0 (.int .i64 0) 1 8 Tryz.underlying84 hi hz0 hz1 hz2 rfl (by decide) _ _ _ rfl (L2.out.own.alloc _) ⟨w2.heap.size, 0, none⟩ 1 1 [.int .i64 1] rfl rfl (news_one _ _ _) (one_int _ _) ?c3 ?c4 ?c5 ?_)
        case c3 => have := L2.out.le; unfold maxLen; omega
        case c4 => have := L2.out.le; omega
        case c5 => have := L2.out.size; simp at this ⊢; omega
        intro v' w1 hown' hgrow _
        have HR := Lib.hid (L2.out.step hlt HB.out hown' hgrow)
        clear hown' hgrow
        go_wp2_with fail
        go_roundw
        case rel => exact ⟨k + 1, 0, by go_num, rfl, HN2.out.symm, HR.out⟩
        case measure => simp [intOf]; omega
      by_cases h101 : x = 1 ∧ y = 0 ∧ cc = 1
      · obtain ⟨rfl, rfl, rfl⟩ := h101
        have HB : Hid (X / 2 ^ k % 2 = 0) := by
          have h1 := HBIT.out
          show _ = _
          omega
        have HN2 : Hid ((val a0 a1 a2 a3 % 2 ^ (k + 1) + val b0 b1 b2 b3 % 2 ^ (k + 1)) / 2 ^ (k + 1) = 1) := by
          have h1 := HN.out
          have h2 := HBIT.out
          show _ = _
          omega
        go_wp2_with fail
        refine wp_region_after (by kernel_rfl) (by kernel_rfl) ?_
        repeat (go_big_quiet_step ((first | (go_at_call_of 54 ((a0 : Nat) : Int); exact after_call (CA.out _)) | (go_at_call_of 54 ((b0 : Nat) : Int); exact after_call (CB.out _)))))
        refine wpQuiet_nil ?_
        rintro _ ⟨u, rfl⟩
        clear ua0 ua1 ua2 ua3 ub0 ub1 ub2 ub3
        have L2 := Lib.hid (L.later u.below)
        clear L
        generalize u.w = w2 at *
        go_wp2_with (at_builtin; refine wpList_append_own _ rfl _ _ 84 rfl (w.heap.size + _) 3 i0 (.int .i64 0) 1 8 Tryz.underlying84 hi hz0 hz1 hz2 rfl (by decide) _ _ _ rfl (L2.out.own.alloc _) ⟨w2.heap.size, 0, none⟩ 1 1 [.int .i64 0] rfl rfl (news_one _ _ _) (one_int _ _) ?c3 ?c4 ?c5 ?_)
        case c3 => have := L2.out.le; unfold maxLen; omega
        case c4 => have := L2.out.le; omega
        case c5 => have := L2.out.size; simp at this ⊢; omega
        intro v' w1 hown' hgrow _
        have HR := Lib.hid (L2.out.step hlt HB.out hown' hgrow)
        clear hown' hgrow
        go_wp2_with fail
        go_roundw
        case rel => exact ⟨k + 1, 1, by go_num, rfl, HN2.out.symm, HR.out⟩
        case measure => simp [intOf]; omega
      by_cases h110 : x = 1 ∧ y = 1 ∧ cc = 0
      · obtain ⟨rfl, rfl, rfl⟩ := h110
        have HB : Hid (X / 2 ^ k % 2 = 0) := by
          have h1 := HBIT.out
          show _ = _
          omega
        have HN2 : Hid ((val a0 a1 a2 a3 % 2 ^ (k + 1) + val b0 b1 b2 b3 % 2 ^ (k + 1)) / 2 ^ (k + 1) = 1) := by
          have h1 := HN.out
          have h2 := HBIT.out
          show _ = _
          omega
        go_wp2_with fail
        refine wp_region_after (by kernel_rfl) (by kernel_rfl) ?_
        repeat (go_big_quiet_step ((first | (go_at_call_of 54 ((a0 : Nat) : Int); exact after_call (CA.out _)) | (go_at_call_of 54 ((b0 : Nat) : Int); exact after_call (CB.out _)))))
        refine wpQuiet_nil ?_
        rintro _ ⟨u, rfl⟩
        clear ua0 ua1 ua2 ua3 ub0 ub1 ub2 ub3
        have L2 := Lib.hid (L.later u.below)
        clear L
        generalize u.w = w2 at *
        go_wp2_with (at_builtin; refine wpList_append_own _ rfl _ _ 84 rfl (w.heap.size + _) 3 i0 (.int .i64 0) 1 8 Tryz.underlying84 hi hz0 hz1 hz2 rfl (by decide) _ _ _ rfl (L2.out.own.alloc _) ⟨w2.heap.size, 0, none⟩ 1 1 [.int .i64 0] rfl rfl (news_one _ _ _) (one_int _ _) ?c3 ?c4 ?c5 ?_)
        case c3 => have := L2.out.le; unfold maxLen; omega
        case c4 => have := L2.out.le; omega
        case c5 => have := L2.out.size; simp at this ⊢; omega
        intro v' w1 hown' hgrow _
        have HR := Lib.hid (L2.out.step hlt HB.out hown' hgrow)
        clear hown' hgrow
        go_wp2_with fail
        go_roundw
        case rel => exact ⟨k + 1, 1, by go_num, rfl, HN2.out.symm, HR.out⟩
        case measure => simp [intOf]; omega
      by_cases h111 : x = 1 ∧ y = 1 ∧ cc = 1
      · obtain ⟨rfl, rfl, rfl⟩ := h111
        have HB : Hid (X / 2 ^ k % 2 = 1) := by
          have h1 := HBIT.out
          show _ = _
          omega
        have HN2 : Hid ((val a0 a1 a2 a3 % 2 ^ (k + 1) + val b0 b1 b2 b3 % 2 ^ (k + 1)) / 2 ^ (k + 1) = 1) := by
          have h1 := HN.out
          have h2 := HBIT.out
          show _ = _
          omega
        go_wp2_with fail
        refine wp_region_after (by kernel_rfl) (by kernel_rfl) ?_
        repeat (go_big_quiet_step ((first | (go_at_call_of 54 ((a0 : Nat) : Int); exact after_call (CA.out _)) | (go_at_call_of 54 ((b0 : Nat) : Int); exact after_call (CB.out _)))))
        refine wpQuiet_nil ?_
        rintro _ ⟨u, rfl⟩
        clear ua0 ua1 ua2 ua3 ub0 ub1 ub2 ub3
        have L2 := Lib.hid (L.later u.below)
        clear L
        generalize u.w = w2 at *
        go_wp2_with (at_builtin; refine wpList_append_own _ rfl _ _ 84 rfl (w.heap.size + _) 3 i0 (.int .i64 0) 1 8 Tryz.underlying84 hi hz0 hz1 hz2 rfl (by decide) _ _ _ rfl (L2.out.own.alloc _) ⟨w2.heap.size, 0, none⟩ 1 1 [.int .i64 1] rfl rfl (news_one _ _ _) (one_int _ _) ?c3 ?c4 ?c5 ?_)
        case c3 => have := L2.out.le; unfold maxLen; omega
        case c4 => have := L2.out.le; omega
        case c5 => have := L2.out.size; simp at this ⊢; omega
        intro v' w1 hown' hgrow _
        have HR := Lib.hid (L2.out.step hlt HB.out hown' hgrow)
        clear hown' hgrow
        go_wp2_with fail
        go_roundw
        case rel => exact ⟨k + 1, 1, by go_num, rfl, HN2.out.symm, HR.out⟩
        case measure => simp [intOf]; omega
      omega
    · obtain rfl : k = 256 := by have := L.le; omega
      have hend : (cc = 1 ∧ 115792089237316195423570985008687907853269984665640564039457584007913129639936 ≤ val a0 a1 a2 a3 + val b0 b1 b2 b3) ∨ (cc = 0 ∧ ¬ 115792089237316195423570985008687907853269984665640564039457584007913129639936 ≤ val a0 a1 a2 a3 + val b0 b1 b2 b3) := by
        have h1 := LA.out
        have h2 := LB.out
        have h3 := HX.out
        rw [show (2 : Nat) ^ 256 = 115792089237316195423570985008687907853269984665640564039457584007913129639936 by decide] at hcc
        omega
      clear hcc
      rcases hend with ⟨rfl, he⟩ | ⟨rfl, he⟩
      · obtain ⟨B, cap, rfl, hB, hBw, hbits⟩ := owned_bits L.own
        have HBITS := Lib.hid hbits
        have L1 := Lib.hid L
        clear hbits L
        go_wp2_with fail
        refine (from_any X B cap _ hB HBITS.out).mono ?_
        rintro e w2 ⟨o0, o1, o2, o3, rfl, wo, vo, hc⟩
        have L2 := Lib.hid (L1.out.later hc)
        have H5 : Holds w2 (w.heap.size + 2) #[.int .u64 0, .int .u64 0, .int .u64 0, .int .u64 0] 51 := L2.out.box 2 _ rfl
        have HV := Lib.hid vo
        clear vo hc HBITS L1 hB
        have d0 : w2.cell? ⟨w.heap.size + 2, 0, none⟩ = some (.int .u64 0) := H5.cell 0
        have z0 : w2.frozen? ⟨w.heap.size + 2, 0, none⟩ = false := H5.free 0
        have d1 : w2.cell? ⟨w.heap.size + 2, 1, none⟩ = some (.int .u64 0) := H5.cell 1
        have z1 : w2.frozen? ⟨w.heap.size + 2, 1, none⟩ = false := H5.free 1
        have d2 : w2.cell? ⟨w.heap.size + 2, 2, none⟩ = some (.int .u64 0) := H5.cell 2
        have z2 : w2.frozen? ⟨w.heap.size + 2, 2, none⟩ = false := H5.free 2
        have d3 : w2.cell? ⟨w.heap.size + 2, 3, none⟩ = some (.int .u64 0) := H5.cell 3
        have z3 : w2.frozen? ⟨w.heap.size + 2, 3, none⟩ = false := H5.free 3
        obtain rfl : o = true := by rw [HO.out]; exact decide_eq_true he
        clear he HO
        go_wp2_with fail
        have b := ((((L2.out.bel.setCell (p := ⟨w.heap.size + 2, 0, none⟩) (by simp) (.int .u64 (o0 : Nat))).setCell (p := ⟨w.heap.size + 2, 1, none⟩) (by simp) (.int .u64 (o1 : Nat))).setCell (p := ⟨w.heap.size + 2, 2, none⟩) (by simp) (.int .u64 (o2 : Nat))).setCell (p := ⟨w.heap.size + 2, 3, none⟩) (by simp) (.int .u64 (o3 : Nat)))
        have HS : Holds ((((w2.setCell ⟨w.heap.size + 2, 0, none⟩ (.int .u64 (o0 : Nat))).setCell ⟨w.heap.size + 2, 1, none⟩ (.int .u64 (o1 : Nat))).setCell ⟨w.heap.size + 2, 2, none⟩ (.int .u64 (o2 : Nat))).setCell ⟨w.heap.size + 2, 3, none⟩ (.int .u64 (o3 : Nat))) (w.heap.size + 2) #[.int .u64 (o0 : Nat), .int .u64 (o1 : Nat), .int .u64 (o2 : Nat), .int .u64 (o3 : Nat)] 51 := (((H5.set _).set _).set _).set _
        have g0 : ((((w2.setCell ⟨w.heap.size + 2, 0, none⟩ (.int .u64 (o0 : Nat))).setCell ⟨w.heap.size + 2, 1, none⟩ (.int .u64 (o1 : Nat))).setCell ⟨w.heap.size + 2, 2, none⟩ (.int .u64 (o2 : Nat))).setCell ⟨w.heap.size + 2, 3, none⟩ (.int .u64 (o3 : Nat))).cell? ⟨w.heap.size + 2, 0, none⟩ = some (.int .u64 (o0 : Nat)) := HS.cell 0
        have g1 : ((((w2.setCell ⟨w.heap.size + 2, 0, none⟩ (.int .u64 (o0 : Nat))).setCell ⟨w.heap.size + 2, 1, none⟩ (.int .u64 (o1 : Nat))).setCell ⟨w.heap.size + 2, 2, none⟩ (.int .u64 (o2 : Nat))).setCell ⟨w.heap.size + 2, 3, none⟩ (.int .u64 (o3 : Nat))).cell? ⟨w.heap.size + 2, 1, none⟩ = some (.int .u64 (o1 : Nat)) := HS.cell 1
        have g2 : ((((w2.setCell ⟨w.heap.size + 2, 0, none⟩ (.int .u64 (o0 : Nat))).setCell ⟨w.heap.size + 2, 1, none⟩ (.int .u64 (o1 : Nat))).setCell ⟨w.heap.size + 2, 2, none⟩ (.int .u64 (o2 : Nat))).setCell ⟨w.heap.size + 2, 3, none⟩ (.int .u64 (o3 : Nat))).cell? ⟨w.heap.size + 2, 2, none⟩ = some (.int .u64 (o2 : Nat)) := HS.cell 2
        have g3 : ((((w2.setCell ⟨w.heap.size + 2, 0, none⟩ (.int .u64 (o0 : Nat))).setCell ⟨w.heap.size + 2, 1, none⟩ (.int .u64 (o1 : Nat))).setCell ⟨w.heap.size + 2, 2, none⟩ (.int .u64 (o2 : Nat))).setCell ⟨w.heap.size + 2, 3, none⟩ (.int .u64 (o3 : Nat))).cell? ⟨w.heap.size + 2, 3, none⟩ = some (.int .u64 (o3 : Nat)) := HS.cell 3
        refine bodyPost_ret (v := .tuple #[.agg #[.int .u64 (o0 : Nat), .int .u64 (o1 : Nat), .int .u64 (o2 : Nat), .int .u64 (o3 : Nat)], .bool true]) (by simp [results, Tryz.results27, go_sem, g0, g1, g2, g3]) rfl ⟨o0, o1, o2, o3, rfl, wo, HV.out, b⟩
      · obtain ⟨B, cap, rfl, hB, hBw, hbits⟩ := owned_bits L.own
        have HBITS := Lib.hid hbits
        have L1 := Lib.hid L
        clear hbits L
        go_wp2_with fail
        refine (from_any X B cap _ hB HBITS.out).mono ?_
        rintro e w2 ⟨o0, o1, o2, o3, rfl, wo, vo, hc⟩
        have L2 := Lib.hid (L1.out.later hc)
        have H5 : Holds w2 (w.heap.size + 2) #[.int .u64 0, .int .u64 0, .int .u64 0, .int .u64 0] 51 := L2.out.box 2 _ rfl
        have HV := Lib.hid vo
        clear vo hc HBITS L1 hB
        have d0 : w2.cell? ⟨w.heap.size + 2, 0, none⟩ = some (.int .u64 0) := H5.cell 0
        have z0 : w2.frozen? ⟨w.heap.size + 2, 0, none⟩ = false := H5.free 0
        have d1 : w2.cell? ⟨w.heap.size + 2, 1, none⟩ = some (.int .u64 0) := H5.cell 1
        have z1 : w2.frozen? ⟨w.heap.size + 2, 1, none⟩ = false := H5.free 1
        have d2 : w2.cell? ⟨w.heap.size + 2, 2, none⟩ = some (.int .u64 0) := H5.cell 2
        have z2 : w2.frozen? ⟨w.heap.size + 2, 2, none⟩ = false := H5.free 2
        have d3 : w2.cell? ⟨w.heap.size + 2, 3, none⟩ = some (.int .u64 0) := H5.cell 3
        have z3 : w2.frozen? ⟨w.heap.size + 2, 3, none⟩ = false := H5.free 3
        obtain rfl : o = false := by rw [HO.out]; exact decide_eq_false he
        clear he HO
        go_wp2_with fail
        have b := ((((L2.out.bel.setCell (p := ⟨w.heap.size + 2, 0, none⟩) (by simp) (.int .u64 (o0 : Nat))).setCell (p := ⟨w.heap.size + 2, 1, none⟩) (by simp) (.int .u64 (o1 : Nat))).setCell (p := ⟨w.heap.size + 2, 2, none⟩) (by simp) (.int .u64 (o2 : Nat))).setCell (p := ⟨w.heap.size + 2, 3, none⟩) (by simp) (.int .u64 (o3 : Nat)))
        have HS : Holds ((((w2.setCell ⟨w.heap.size + 2, 0, none⟩ (.int .u64 (o0 : Nat))).setCell ⟨w.heap.size + 2, 1, none⟩ (.int .u64 (o1 : Nat))).setCell ⟨w.heap.size + 2, 2, none⟩ (.int .u64 (o2 : Nat))).setCell ⟨w.heap.size + 2, 3, none⟩ (.int .u64 (o3 : Nat))) (w.heap.size + 2) #[.int .u64 (o0 : Nat), .int .u64 (o1 : Nat), .int .u64 (o2 : Nat), .int .u64 (o3 : Nat)] 51 := (((H5.set _).set _).set _).set _
        have g0 : ((((w2.setCell ⟨w.heap.size + 2, 0, none⟩ (.int .u64 (o0 : Nat))).setCell ⟨w.heap.size + 2, 1, none⟩ (.int .u64 (o1 : Nat))).setCell ⟨w.heap.size + 2, 2, none⟩ (.int .u64 (o2 : Nat))).setCell ⟨w.heap.size + 2, 3, none⟩ (.int .u64 (o3 : Nat))).cell? ⟨w.heap.size + 2, 0, none⟩ = some (.int .u64 (o0 : Nat)) := HS.cell 0
        have g1 : ((((w2.setCell ⟨w.heap.size + 2, 0, none⟩ (.int .u64 (o0 : Nat))).setCell ⟨w.heap.size + 2, 1, none⟩ (.int .u64 (o1 : Nat))).setCell ⟨w.heap.size + 2, 2, none⟩ (.int .u64 (o2 : Nat))).setCell ⟨w.heap.size + 2, 3, none⟩ (.int .u64 (o3 : Nat))).cell? ⟨w.heap.size + 2, 1, none⟩ = some (.int .u64 (o1 : Nat)) := HS.cell 1
        have g2 : ((((w2.setCell ⟨w.heap.size + 2, 0, none⟩ (.int .u64 (o0 : Nat))).setCell ⟨w.heap.size + 2, 1, none⟩ (.int .u64 (o1 : Nat))).setCell ⟨w.heap.size + 2, 2, none⟩ (.int .u64 (o2 : Nat))).setCell ⟨w.heap.size + 2, 3, none⟩ (.int .u64 (o3 : Nat))).cell? ⟨w.heap.size + 2, 2, none⟩ = some (.int .u64 (o2 : Nat)) := HS.cell 2
        have g3 : ((((w2.setCell ⟨w.heap.size + 2, 0, none⟩ (.int .u64 (o0 : Nat))).setCell ⟨w.heap.size + 2, 1, none⟩ (.int .u64 (o1 : Nat))).setCell ⟨w.heap.size + 2, 2, none⟩ (.int .u64 (o2 : Nat))).setCell ⟨w.heap.size + 2, 3, none⟩ (.int .u64 (o3 : Nat))).cell? ⟨w.heap.size + 2, 3, none⟩ = some (.int .u64 (o3 : Nat)) := HS.cell 3
        refine bodyPost_ret (v := .tuple #[.agg #[.int .u64 (o0 : Nat), .int .u64 (o1 : Nat), .int .u64 (o2 : Nat), .int .u64 (o3 : Nat)], .bool false]) (by simp [results, Tryz.results27, go_sem, g0, g1, g2, g3]) rfl ⟨o0, o1, o2, o3, rfl, wo, HV.out, b⟩

end Go.Proofs.YtimjmmiajgfblaaGreatDoor.Bg

/- Less and Bits of the document's answers of layer 2, at every number. -/
namespace Go.Proofs.YtimjmmiajgfblaaGreatDoor.Bg
set_option maxRecDepth 100000
open Go.RowKit

theorem half_step (A k : Nat) : A / 2 ^ k = 2 * (A / 2 ^ (k + 1)) + A / 2 ^ k % 2 := by
  rw [Nat.pow_succ, ← Nat.div_div_eq_div_mul]
  omega
theorem half_lt (A B k : Nat) (h : A / 2 ^ k < B / 2 ^ k) : A < B := by
  rcases Nat.lt_or_ge A B with h1 | h1
  · exact h1
  · have := Nat.div_le_div_right (c := 2 ^ k) h1
    omega

structure LessAt (w : World) (ca cb : Array Value) (wr : World) : Prop where
  a : Holds wr w.heap.size ca 51
  b : Holds wr (w.heap.size + 1) cb 51
  bel : Below w.heap.size w wr
theorem LessAt.later {w wr w1 : World} {ca cb : Array Value} (h : LessAt w ca cb wr) (g : Below wr.heap.size wr w1) : LessAt w ca cb w1 := ⟨h.a.later g, h.b.later g, h.bel.trans (g.mono h.bel.size)⟩

set_option maxRecDepth 100000 in
set_option maxHeartbeats 16000000 in
theorem refless_any {a0 a1 a2 a3 b0 b1 b2 b3 : Nat} (ha : Words a0 a1 a2 a3) (hb : Words b0 b1 b2 b3) (o : Bool) (ho : o = decide (val a0 a1 a2 a3 < val b0 b1 b2 b3)) (w : World) : Calls Tryz.prog 25 #[.agg #[.int .u64 (a0 : Nat), .int .u64 (a1 : Nat), .int .u64 (a2 : Nat), .int .u64 (a3 : Nat)], .agg #[.int .u64 (b0 : Nat), .int .u64 (b1 : Nat), .int .u64 (b2 : Nat), .int .u64 (b3 : Nat)]] w fun e w' => e = .returned (.bool o) ∧ Below w.heap.size w w' := by
  have lA : val a0 a1 a2 a3 < 115792089237316195423570985008687907853269984665640564039457584007913129639936 := by obtain ⟨_, _, _, _⟩ := ha; unfold val; omega
  have lB : val b0 b1 b2 b3 < 115792089237316195423570985008687907853269984665640564039457584007913129639936 := by obtain ⟨_, _, _, _⟩ := hb; unfold val; omega
  have LA := Lib.hid lA
  have LB := Lib.hid lB
  have HO := Lib.hid ho
  clear lA lB ho
  go_enter Tryz.func25, Tryz.ntmps25
  go_wp2_with fail
  go_loopw [5] (fun i wr => ∃ (m : Nat) (z : Int), m ≤ 256 ∧ z + 1 = (m : Int) ∧ i = .int .i64 z ∧ val a0 a1 a2 a3 / 2 ^ m = val b0 b1 b2 b3 / 2 ^ m ∧ LessAt w #[.int .u64 (a0 : Nat), .int .u64 (a1 : Nat), .int .u64 (a2 : Nat), .int .u64 (a3 : Nat)] #[.int .u64 (b0 : Nat), .int .u64 (b1 : Nat), .int .u64 (b2 : Nat), .int .u64 (b3 : Nat)] wr) (fun i _ => (intOf i + 1).toNat)
  case atStart =>
    refine ⟨256, 255, by omega, by omega, rfl, ?_, boxes2 _ _ _ 0 _ rfl, boxes2 _ _ _ 1 _ rfl, below2 _ _ _⟩
    rw [show (2 : Nat) ^ 256 = 115792089237316195423570985008687907853269984665640564039457584007913129639936 by decide, Nat.div_eq_of_lt LA.out, Nat.div_eq_of_lt LB.out]
  case round =>
    obtain ⟨m, z, hm, hz, rfl, heq, L⟩ := hrel
    by_cases h0 : m = 0
    · obtain rfl : z = -1 := by omega
      subst h0
      rw [Nat.pow_zero, Nat.div_one, Nat.div_one] at heq
      obtain rfl : o = false := by rw [HO.out, heq]; exact decide_eq_false (Nat.lt_irrefl _)
      have HL := Lib.hid L
      clear heq L HO
      go_wp2_with fail
      go_ret
      exact ⟨rfl, HL.out.bel⟩
    · obtain ⟨k, rfl⟩ : ∃ k, m = k + 1 := ⟨m - 1, by omega⟩
      obtain rfl : z = (k : Int) := by omega
      have hlt : k < 256 := by omega
      have t1 : decide ((0 : Int) ≤ (k : Int)) = true := decide_eq_true (by omega)
      have a0' : wr.cell? ⟨w.heap.size, 0, none⟩ = some (.int .u64 (a0 : Nat)) := L.a.cell 0
      have a1' : wr.cell? ⟨w.heap.size, 1, none⟩ = some (.int .u64 (a1 : Nat)) := L.a.cell 1
      have a2' : wr.cell? ⟨w.heap.size, 2, none⟩ = some (.int .u64 (a2 : Nat)) := L.a.cell 2
      have a3' : wr.cell? ⟨w.heap.size, 3, none⟩ = some (.int .u64 (a3 : Nat)) := L.a.cell 3
      have b0' : wr.cell? ⟨w.heap.size + 1, 0, none⟩ = some (.int .u64 (b0 : Nat)) := L.b.cell 0
      have b1' : wr.cell? ⟨w.heap.size + 1, 1, none⟩ = some (.int .u64 (b1 : Nat)) := L.b.cell 1
      have b2' : wr.cell? ⟨w.heap.size + 1, 2, none⟩ = some (.int .u64 (b2 : Nat)) := L.b.cell 2
      have b3' : wr.cell? ⟨w.heap.size + 1, 3, none⟩ = some (.int .u64 (b3 : Nat)) := L.b.cell 3
      have ua0 : ∀ u : After wr, u.w.cell? ⟨w.heap.size, 0, none⟩ = some (.int .u64 (a0 : Nat)) := fun u => u.cell a0'
      have ua1 : ∀ u : After wr, u.w.cell? ⟨w.heap.size, 1, none⟩ = some (.int .u64 (a1 : Nat)) := fun u => u.cell a1'
      have ua2 : ∀ u : After wr, u.w.cell? ⟨w.heap.size, 2, none⟩ = some (.int .u64 (a2 : Nat)) := fun u => u.cell a2'
      have ua3 : ∀ u : After wr, u.w.cell? ⟨w.heap.size, 3, none⟩ = some (.int .u64 (a3 : Nat)) := fun u => u.cell a3'
      have ub0 : ∀ u : After wr, u.w.cell? ⟨w.heap.size + 1, 0, none⟩ = some (.int .u64 (b0 : Nat)) := fun u => u.cell b0'
      have ub1 : ∀ u : After wr, u.w.cell? ⟨w.heap.size + 1, 1, none⟩ = some (.int .u64 (b1 : Nat)) := fun u => u.cell b1'
      have ub2 : ∀ u : After wr, u.w.cell? ⟨w.heap.size + 1, 2, none⟩ = some (.int .u64 (b2 : Nat)) := fun u => u.cell b2'
      have ub3 : ∀ u : After wr, u.w.cell? ⟨w.heap.size + 1, 3, none⟩ = some (.int .u64 (b3 : Nat)) := fun u => u.cell b3'
      obtain ⟨x, hx⟩ : ∃ x, x = val a0 a1 a2 a3 / 2 ^ k % 2 := ⟨_, rfl⟩
      obtain ⟨y, hy⟩ : ∃ y, y = val b0 b1 b2 b3 / 2 ^ k % 2 := ⟨_, rfl⟩
      have CA := Lib.hid (bitIs ha hlt hx)
      have CB := Lib.hid (bitIs hb hlt hy)
      have sa := half_step (val a0 a1 a2 a3) k
      have sb := half_step (val b0 b1 b2 b3) k
      rw [← hx] at sa
      rw [← hy, ← heq] at sb
      have hx2 : x = 0 ∨ x = 1 := by rw [hx]; exact bit_two _
      have hy2 : y = 0 ∨ y = 1 := by rw [hy]; exact bit_two _
      have SA := Lib.hid sa
      have SB := Lib.hid sb
      clear sa sb hx hy heq h0 hz hm
      by_cases h00 : x = 0 ∧ y = 0
      · obtain ⟨rfl, rfl⟩ := h00
        have HE : Hid (val a0 a1 a2 a3 / 2 ^ k = val b0 b1 b2 b3 / 2 ^ k) := by
          have h1 := SA.out
          have h2 := SB.out
          show _ = _
          omega
        go_wp2_with fail
        refine wp_region_after (by kernel_rfl) (by kernel_rfl) ?_
        repeat (go_big_quiet_step ((first | (go_at_call_of 54 ((a0 : Nat) : Int); exact after_call (CA.out _)) | (go_at_call_of 54 ((b0 : Nat) : Int); exact after_call (CB.out _)))))
        refine wpQuiet_nil ?_
        rintro _ ⟨u, rfl⟩
        clear ua0 ua1 ua2 ua3 ub0 ub1 ub2 ub3
        have L2 := L.later u.below
        clear L
        generalize u.w = w2 at *
        have HL := Lib.hid L2
        clear L2
        go_wp2_with fail
        go_roundw
        case rel => exact ⟨k, (k : Int) - 1, by omega, by omega, rfl, HE.out, HL.out⟩
        case measure => simp [intOf]
      by_cases h01 : x = 0 ∧ y = 1
      · obtain ⟨rfl, rfl⟩ := h01
        have HOX : o = true := by
          have h1 := SA.out
          have h2 := SB.out
          rw [HO.out]
          exact decide_eq_true (half_lt _ _ k (by omega))
        subst HOX
        go_wp2_with fail
        refine wp_region_after (by kernel_rfl) (by kernel_rfl) ?_
        repeat (go_big_quiet_step ((first | (go_at_call_of 54 ((a0 : Nat) : Int); exact after_call (CA.out _)) | (go_at_call_of 54 ((b0 : Nat) : Int); exact after_call (CB.out _)))))
        refine wpQuiet_nil ?_
        rintro _ ⟨u, rfl⟩
        clear ua0 ua1 ua2 ua3 ub0 ub1 ub2 ub3
        have L2 := L.later u.below
        clear L
        generalize u.w = w2 at *
        clear a0' a1' a2' a3' b0' b1' b2' b3'
        have a0' : w2.cell? ⟨w.heap.size, 0, none⟩ = some (.int .u64 (a0 : Nat)) := L2.a.cell 0
        have a1' : w2.cell? ⟨w.heap.size, 1, none⟩ = some (.int .u64 (a1 : Nat)) := L2.a.cell 1
        have a2' : w2.cell? ⟨w.heap.size, 2, none⟩ = some (.int .u64 (a2 : Nat)) := L2.a.cell 2
        have a3' : w2.cell? ⟨w.heap.size, 3, none⟩ = some (.int .u64 (a3 : Nat)) := L2.a.cell 3
        have b0' : w2.cell? ⟨w.heap.size + 1, 0, none⟩ = some (.int .u64 (b0 : Nat)) := L2.b.cell 0
        have b1' : w2.cell? ⟨w.heap.size + 1, 1, none⟩ = some (.int .u64 (b1 : Nat)) := L2.b.cell 1
        have b2' : w2.cell? ⟨w.heap.size + 1, 2, none⟩ = some (.int .u64 (b2 : Nat)) := L2.b.cell 2
        have b3' : w2.cell? ⟨w.heap.size + 1, 3, none⟩ = some (.int .u64 (b3 : Nat)) := L2.b.cell 3
        have ua0 : ∀ u : After w2, u.w.cell? ⟨w.heap.size, 0, none⟩ = some (.int .u64 (a0 : Nat)) := fun u => u.cell a0'
        have ua1 : ∀ u : After w2, u.w.cell? ⟨w.heap.size, 1, none⟩ = some (.int .u64 (a1 : Nat)) := fun u => u.cell a1'
        have ua2 : ∀ u : After w2, u.w.cell? ⟨w.heap.size, 2, none⟩ = some (.int .u64 (a2 : Nat)) := fun u => u.cell a2'
        have ua3 : ∀ u : After w2, u.w.cell? ⟨w.heap.size, 3, none⟩ = some (.int .u64 (a3 : Nat)) := fun u => u.cell a3'
        have ub0 : ∀ u : After w2, u.w.cell? ⟨w.heap.size + 1, 0, none⟩ = some (.int .u64 (b0 : Nat)) := fun u => u.cell b0'
        have ub1 : ∀ u : After w2, u.w.cell? ⟨w.heap.size + 1, 1, none⟩ = some (.int .u64 (b1 : Nat)) := fun u => u.cell b1'
        have ub2 : ∀ u : After w2, u.w.cell? ⟨w.heap.size + 1, 2, none⟩ = some (.int .u64 (b2 : Nat)) := fun u => u.cell b2'
        have ub3 : ∀ u : After w2, u.w.cell? ⟨w.heap.size + 1, 3, none⟩ = some (.int .u64 (b3 : Nat)) := fun u => u.cell b3'
        go_wp2_with fail
        refine wp_region_after (by kernel_rfl) (by kernel_rfl) ?_
        repeat (go_big_quiet_step ((first | (go_at_call_of 54 ((a0 : Nat) : Int); exact after_call (CA.out _)) | (go_at_call_of 54 ((b0 : Nat) : Int); exact after_call (CB.out _)))))
        refine wpQuiet_nil ?_
        rintro _ ⟨u, rfl⟩
        clear ua0 ua1 ua2 ua3 ub0 ub1 ub2 ub3
        have L3 := L2.later u.below
        clear L2
        generalize u.w = w3 at *
        have HL := Lib.hid L3
        clear L3
        go_wp2_with fail
        go_ret
        exact ⟨rfl, HL.out.bel⟩
      by_cases h10 : x = 1 ∧ y = 0
      · obtain ⟨rfl, rfl⟩ := h10
        have HOX : o = false := by
          have h1 := SA.out
          have h2 := SB.out
          rw [HO.out]
          exact decide_eq_false (fun h => by have := half_lt (val b0 b1 b2 b3) (val a0 a1 a2 a3) k (by omega); omega)
        subst HOX
        go_wp2_with fail
        refine wp_region_after (by kernel_rfl) (by kernel_rfl) ?_
        repeat (go_big_quiet_step ((first | (go_at_call_of 54 ((a0 : Nat) : Int); exact after_call (CA.out _)) | (go_at_call_of 54 ((b0 : Nat) : Int); exact after_call (CB.out _)))))
        refine wpQuiet_nil ?_
        rintro _ ⟨u, rfl⟩
        clear ua0 ua1 ua2 ua3 ub0 ub1 ub2 ub3
        have L2 := L.later u.below
        clear L
        generalize u.w = w2 at *
        clear a0' a1' a2' a3' b0' b1' b2' b3'
        have a0' : w2.cell? ⟨w.heap.size, 0, none⟩ = some (.int .u64 (a0 : Nat)) := L2.a.cell 0
        have a1' : w2.cell? ⟨w.heap.size, 1, none⟩ = some (.int .u64 (a1 : Nat)) := L2.a.cell 1
        have a2' : w2.cell? ⟨w.heap.size, 2, none⟩ = some (.int .u64 (a2 : Nat)) := L2.a.cell 2
        have a3' : w2.cell? ⟨w.heap.size, 3, none⟩ = some (.int .u64 (a3 : Nat)) := L2.a.cell 3
        have b0' : w2.cell? ⟨w.heap.size + 1, 0, none⟩ = some (.int .u64 (b0 : Nat)) := L2.b.cell 0
        have b1' : w2.cell? ⟨w.heap.size + 1, 1, none⟩ = some (.int .u64 (b1 : Nat)) := L2.b.cell 1
        have b2' : w2.cell? ⟨w.heap.size + 1, 2, none⟩ = some (.int .u64 (b2 : Nat)) := L2.b.cell 2
        have b3' : w2.cell? ⟨w.heap.size + 1, 3, none⟩ = some (.int .u64 (b3 : Nat)) := L2.b.cell 3
        have ua0 : ∀ u : After w2, u.w.cell? ⟨w.heap.size, 0, none⟩ = some (.int .u64 (a0 : Nat)) := fun u => u.cell a0'
        have ua1 : ∀ u : After w2, u.w.cell? ⟨w.heap.size, 1, none⟩ = some (.int .u64 (a1 : Nat)) := fun u => u.cell a1'
        have ua2 : ∀ u : After w2, u.w.cell? ⟨w.heap.size, 2, none⟩ = some (.int .u64 (a2 : Nat)) := fun u => u.cell a2'
        have ua3 : ∀ u : After w2, u.w.cell? ⟨w.heap.size, 3, none⟩ = some (.int .u64 (a3 : Nat)) := fun u => u.cell a3'
        have ub0 : ∀ u : After w2, u.w.cell? ⟨w.heap.size + 1, 0, none⟩ = some (.int .u64 (b0 : Nat)) := fun u => u.cell b0'
        have ub1 : ∀ u : After w2, u.w.cell? ⟨w.heap.size + 1, 1, none⟩ = some (.int .u64 (b1 : Nat)) := fun u => u.cell b1'
        have ub2 : ∀ u : After w2, u.w.cell? ⟨w.heap.size + 1, 2, none⟩ = some (.int .u64 (b2 : Nat)) := fun u => u.cell b2'
        have ub3 : ∀ u : After w2, u.w.cell? ⟨w.heap.size + 1, 3, none⟩ = some (.int .u64 (b3 : Nat)) := fun u => u.cell b3'
        go_wp2_with fail
        refine wp_region_after (by kernel_rfl) (by kernel_rfl) ?_
        repeat (go_big_quiet_step ((first | (go_at_call_of 54 ((a0 : Nat) : Int); exact after_call (CA.out _)) | (go_at_call_of 54 ((b0 : Nat) : Int); exact after_call (CB.out _)))))
        refine wpQuiet_nil ?_
        rintro _ ⟨u, rfl⟩
        clear ua0 ua1 ua2 ua3 ub0 ub1 ub2 ub3
        have L3 := L2.later u.below
        clear L2
        generalize u.w = w3 at *
        have HL := Lib.hid L3
        clear L3
        go_wp2_with fail
        go_ret
        exact ⟨rfl, HL.out.bel⟩
      by_cases h11 : x = 1 ∧ y = 1
      · obtain ⟨rfl, rfl⟩ := h11
        have HE : Hid (val a0 a1 a2 a3 / 2 ^ k = val b0 b1 b2 b3 / 2 ^ k) := by
          have h1 := SA.out
          have h2 := SB.out
          show _ = _
          omega
        go_wp2_with fail
        refine wp_region_after (by kernel_rfl) (by kernel_rfl) ?_
        repeat (go_big_quiet_step ((first | (go_at_call_of 54 ((a0 : Nat) : Int); exact after_call (CA.out _)) | (go_at_call_of 54 ((b0 : Nat) : Int); exact after_call (CB.out _)))))
        refine wpQuiet_nil ?_
        rintro _ ⟨u, rfl⟩
        clear ua0 ua1 ua2 ua3 ub0 ub1 ub2 ub3
        have L2 := L.later u.below
        clear L
        generalize u.w = w2 at *
        have HL := Lib.hid L2
        clear L2
        go_wp2_with fail
        go_roundw
        case rel => exact ⟨k, (k : Int) - 1, by omega, by omega, rfl, HE.out, HL.out⟩
        case measure => simp [intOf]
      omega

theorem bitsOf_step0 {A k n : Nat} (h : BitsOf (A % 2 ^ k) n) (hb : A / 2 ^ k % 2 = 0) : BitsOf (A % 2 ^ (k + 1)) n := by
  rw [mod_succ, hb, Nat.mul_zero, Nat.add_zero]; exact h
theorem bitsOf_step1 {A k : Nat} (hb : A / 2 ^ k % 2 = 1) : BitsOf (A % 2 ^ (k + 1)) (k + 1) := by
  rw [mod_succ, hb, Nat.mul_one]
  have h1 := Nat.mod_lt A (Nat.two_pow_pos k)
  have hp : 0 < 2 ^ k := Nat.two_pow_pos k
  exact ⟨fun h => by omega, fun _ => ⟨by omega, by rw [show k + 1 - 1 = k from rfl]; omega, by rw [Nat.pow_succ]; omega⟩⟩

set_option maxRecDepth 100000 in
set_option maxHeartbeats 16000000 in
theorem refbits_any {a0 a1 a2 a3 n : Nat} (ha : Words a0 a1 a2 a3) (hn : BitsOf (val a0 a1 a2 a3) n) (w : World) : Calls Tryz.prog 53 #[.agg #[.int .u64 (a0 : Nat), .int .u64 (a1 : Nat), .int .u64 (a2 : Nat), .int .u64 (a3 : Nat)]] w fun e w' => e = .returned (.int .i64 (n : Nat)) ∧ Below w.heap.size w w' := by
  have lA : val a0 a1 a2 a3 < 115792089237316195423570985008687907853269984665640564039457584007913129639936 := by obtain ⟨_, _, _, _⟩ := ha; unfold val; omega
  have LA := Lib.hid lA
  have HN := Lib.hid hn
  clear lA hn
  go_enter Tryz.func53, Tryz.ntmps53
  go_wp2_with fail
  go_loopw [3, 4] (fun c i wr => ∃ k b : Nat, k ≤ 256 ∧ b ≤ k ∧ i = .int .i64 (k : Nat) ∧ c = .int .i64 (b : Nat) ∧ BitsOf (val a0 a1 a2 a3 % 2 ^ k) b ∧ Holds wr w.heap.size #[.int .u64 (a0 : Nat), .int .u64 (a1 : Nat), .int .u64 (a2 : Nat), .int .u64 (a3 : Nat)] 51 ∧ Below w.heap.size w wr) (fun _ i _ => 256 - (intOf i).toNat)
  case atStart => exact ⟨0, 0, by omega, by omega, rfl, rfl, by rw [Nat.pow_zero, Nat.mod_one]; simp [BitsOf], Holds.new _ _ _, (Below.refl _ _).alloc (Nat.le_refl _) _⟩
  case round =>
    obtain ⟨k, b, hk, hbk, rfl, rfl, hbits, H, bel⟩ := hrel
    by_cases hlt : k < 256
    · have t1 : decide ((k : Int) < 256) = true := decide_eq_true (by omega)
      have a0' : wr.cell? ⟨w.heap.size, 0, none⟩ = some (.int .u64 (a0 : Nat)) := H.cell 0
      have a1' : wr.cell? ⟨w.heap.size, 1, none⟩ = some (.int .u64 (a1 : Nat)) := H.cell 1
      have a2' : wr.cell? ⟨w.heap.size, 2, none⟩ = some (.int .u64 (a2 : Nat)) := H.cell 2
      have a3' : wr.cell? ⟨w.heap.size, 3, none⟩ = some (.int .u64 (a3 : Nat)) := H.cell 3
      obtain ⟨x, hx⟩ : ∃ x, x = val a0 a1 a2 a3 / 2 ^ k % 2 := ⟨_, rfl⟩
      have CA := Lib.hid (bitIs ha hlt hx)
      have hx2 : x = 0 ∨ x = 1 := by rw [hx]; exact bit_two _
      have HX := Lib.hid hx
      have HBITS := Lib.hid hbits
      clear hx hbits
      rcases hx2 with rfl | rfl
      · go_wp2_with fail
        refine (CA.out _).mono ?_
        rintro e w2 ⟨rfl, hc⟩
        have H2 := H.later hc
        have HB := Lib.hid (bel.trans (hc.mono bel.size))
        clear hc bel H
        go_wp2_with fail
        go_roundw
        case rel => exact ⟨k + 1, b, by omega, by omega, by go_num, rfl, bitsOf_step0 HBITS.out HX.out.symm, H2, HB.out⟩
        case measure => simp [intOf]; omega
      · go_wp2_with fail
        refine (CA.out _).mono ?_
        rintro e w2 ⟨rfl, hc⟩
        have H2 := H.later hc
        have HB := Lib.hid (bel.trans (hc.mono bel.size))
        clear hc bel H
        go_wp2_with fail
        go_roundw
        case rel => exact ⟨k + 1, k + 1, by omega, by omega, by go_num, by go_num, bitsOf_step1 HX.out.symm, H2, HB.out⟩
        case measure => simp [intOf]; omega
    · obtain rfl : k = 256 := by omega
      rw [show (2 : Nat) ^ 256 = 115792089237316195423570985008687907853269984665640564039457584007913129639936 by decide, Nat.mod_eq_of_lt LA.out] at hbits
      obtain rfl : n = b := HN.out.uniq hbits
      have HB := Lib.hid bel
      clear hbits HN bel
      go_wp2_with fail
      go_ret
      exact ⟨rfl, HB.out⟩

end Go.Proofs.YtimjmmiajgfblaaGreatDoor.Bg

/- Sub of the document's answers of layer 2, at every two numbers. -/
namespace Go.Proofs.YtimjmmiajgfblaaGreatDoor.Bg
open Go.RowKit

set_option maxRecDepth 100000 in
set_option maxHeartbeats 16000000 in
theorem refsub_any {a0 a1 a2 a3 b0 b1 b2 b3 : Nat} (ha : Words a0 a1 a2 a3) (hb : Words b0 b1 b2 b3) (o : Bool) (ho : o = decide (val a0 a1 a2 a3 < val b0 b1 b2 b3)) (w : World) : Calls Tryz.prog 79 #[.agg #[.int .u64 (a0 : Nat), .int .u64 (a1 : Nat), .int .u64 (a2 : Nat), .int .u64 (a3 : Nat)], .agg #[.int .u64 (b0 : Nat), .int .u64 (b1 : Nat), .int .u64 (b2 : Nat), .int .u64 (b3 : Nat)]] w (SumPost (val a0 a1 a2 a3 + 115792089237316195423570985008687907853269984665640564039457584007913129639936 - val b0 b1 b2 b3) o w) := by
  obtain ⟨i0, hi, hz0, hz1, hz2⟩ := info_parts Tryz.infoInt
  have lA : val a0 a1 a2 a3 < 115792089237316195423570985008687907853269984665640564039457584007913129639936 := by obtain ⟨_, _, _, _⟩ := ha; unfold val; omega
  have lB : val b0 b1 b2 b3 < 115792089237316195423570985008687907853269984665640564039457584007913129639936 := by obtain ⟨_, _, _, _⟩ := hb; unfold val; omega
  have LA := Lib.hid lA
  have LB := Lib.hid lB
  clear lA lB
  obtain ⟨X, hX⟩ : ∃ X, X = val a0 a1 a2 a3 + 115792089237316195423570985008687907853269984665640564039457584007913129639936 - val b0 b1 b2 b3 := ⟨_, rfl⟩
  rw [← hX]
  have HX := Lib.hid hX
  have HO := Lib.hid ho
  clear hX ho
  go_enter Tryz.func79, Tryz.ntmps79
  go_wp2_with fail
  go_loopw [6, 7, 8] (fun v c i wr => ∃ k cc : Nat, i = .int .i64 (k : Nat) ∧ c = .int .i64 (cc : Nat) ∧ cc = (X % 2 ^ k + val b0 b1 b2 b3 % 2 ^ k) / 2 ^ k ∧ ListAt X w [#[.int .u64 (a0 : Nat), .int .u64 (a1 : Nat), .int .u64 (a2 : Nat), .int .u64 (a3 : Nat)], #[.int .u64 (b0 : Nat), .int .u64 (b1 : Nat), .int .u64 (b2 : Nat), .int .u64 (b3 : Nat)], #[.int .u64 0, .int .u64 0, .int .u64 0, .int .u64 0]] k v wr) (fun _ _ i _ => 256 - (intOf i).toNat)
  case atStart => exact ⟨0, 0, rfl, rfl, by rw [Nat.pow_zero, Nat.mod_one, Nat.mod_one], ⟨by omega, ⟨rfl, Or.inl ⟨rfl, rfl⟩⟩, boxes3 _ _ _ _, below3 _ _ _ _, by simp⟩⟩
  case round =>
    obtain ⟨k, cc, rfl, rfl, hcc, L⟩ := hrel
    by_cases hlt : k < 256
    · have t1 : decide ((k : Int) < 256) = true := decide_eq_true (by omega)
      have a0' : wr.cell? ⟨w.heap.size, 0, none⟩ = some (.int .u64 (a0 : Nat)) := (L.box 0 _ rfl).cell 0
      have a1' : wr.cell? ⟨w.heap.size, 1, none⟩ = some (.int .u64 (a1 : Nat)) := (L.box 0 _ rfl).cell 1
      have a2' : wr.cell? ⟨w.heap.size, 2, none⟩ = some (.int .u64 (a2 : Nat)) := (L.box 0 _ rfl).cell 2
      have a3' : wr.cell? ⟨w.heap.size, 3, none⟩ = some (.int .u64 (a3 : Nat)) := (L.box 0 _ rfl).cell 3
      have b0' : wr.cell? ⟨w.heap.size + 1, 0, none⟩ = some (.int .u64 (b0 : Nat)) := (L.box 1 _ rfl).cell 0
      have b1' : wr.cell? ⟨w.heap.size + 1, 1, none⟩ = some (.int .u64 (b1 : Nat)) := (L.box 1 _ rfl).cell 1
      have b2' : wr.cell? ⟨w.heap.size + 1, 2, none⟩ = some (.int .u64 (b2 : Nat)) := (L.box 1 _ rfl).cell 2
      have b3' : wr.cell? ⟨w.heap.size + 1, 3, none⟩ = some (.int .u64 (b3 : Nat)) := (L.box 1 _ rfl).cell 3
      have ua0 : ∀ u : After wr, u.w.cell? ⟨w.heap.size, 0, none⟩ = some (.int .u64 (a0 : Nat)) := fun u => u.cell a0'
      have ua1 : ∀ u : After wr, u.w.cell? ⟨w.heap.size, 1, none⟩ = some (.int .u64 (a1 : Nat)) := fun u => u.cell a1'
      have ua2 : ∀ u : After wr, u.w.cell? ⟨w.heap.size, 2, none⟩ = some (.int .u64 (a2 : Nat)) := fun u => u.cell a2'
      have ua3 : ∀ u : After wr, u.w.cell? ⟨w.heap.size, 3, none⟩ = some (.int .u64 (a3 : Nat)) := fun u => u.cell a3'
      have ub0 : ∀ u : After wr, u.w.cell? ⟨w.heap.size + 1, 0, none⟩ = some (.int .u64 (b0 : Nat)) := fun u => u.cell b0'
      have ub1 : ∀ u : After wr, u.w.cell? ⟨w.heap.size + 1, 1, none⟩ = some (.int .u64 (b1 : Nat)) := fun u => u.cell b1'
      have ub2 : ∀ u : After wr, u.w.cell? ⟨w.heap.size + 1, 2, none⟩ = some (.int .u64 (b2 : Nat)) := fun u => u.cell b2'
      have ub3 : ∀ u : After wr, u.w.cell? ⟨w.heap.size + 1, 3, none⟩ = some (.int .u64 (b3 : Nat)) := fun u => u.cell b3'
      obtain ⟨x, hx⟩ : ∃ x, x = val a0 a1 a2 a3 / 2 ^ k % 2 := ⟨_, rfl⟩
      obtain ⟨y, hy⟩ : ∃ y, y = val b0 b1 b2 b3 / 2 ^ k % 2 := ⟨_, rfl⟩
      have CA := Lib.hid (bitIs ha hlt hx)
      have CB := Lib.hid (bitIs hb hlt hy)
      have c1 : cc ≤ 1 := by rw [hcc]; exact carry_le _ _ _
      obtain ⟨hbit, hnext⟩ := add_bit X (val b0 b1 b2 b3) k
      have hz2' := bit_two (X / 2 ^ k)
      rw [← hy, ← hcc] at hbit hnext
      rw [show X + val b0 b1 b2 b3 = val a0 a1 a2 a3 + 115792089237316195423570985008687907853269984665640564039457584007913129639936 by have := HX.out; have := LB.out; omega, add_high_bit _ _ hlt, ← hx] at hbit
      have hx2 : x = 0 ∨ x = 1 := by rw [hx]; exact bit_two _
      have hy2 : y = 0 ∨ y = 1 := by rw [hy]; exact bit_two _
      have hc2 : cc = 0 ∨ cc = 1 := by omega
      have HN := Lib.hid hnext
      have HC := Lib.hid hcc
      have HBIT := Lib.hid hbit
      clear hnext hcc hx hy hbit c1
      have HZ := Lib.hid hz2'
      clear hz2'
      by_cases h000 : x = 0 ∧ y = 0 ∧ cc = 0
      · obtain ⟨rfl, rfl, rfl⟩ := h000
        have HB : Hid (X / 2 ^ k % 2 = 0) := by
          have h1 := HBIT.out
          have h2 := HZ.out
          show _ = _
          omega
        have HN2 : Hid ((X % 2 ^ (k + 1) + val b0 b1 b2 b3 % 2 ^ (k + 1)) / 2 ^ (k + 1) = 0) := by
          have h1 := HN.out
          have h2 := HBIT.out
          have h3 := HZ.out
          show _ = _
          omega
        go_wp2_with fail
        refine wp_region_after (by kernel_rfl) (by kernel_rfl) ?_
        repeat (go_big_quiet_step ((first | (go_at_call_of 54 ((a0 : Nat) : Int); exact after_call (CA.out _)) | (go_at_call_of 54 ((b0 : Nat) : Int); exact after_call (CB.out _)))))
        refine wpQuiet_nil ?_
        rintro _ ⟨u, rfl⟩
        clear ua0 ua1 ua2 ua3 ub0 ub1 ub2 ub3
        have L2 := Lib.hid (L.later u.below)
        clear L
        generalize u.w = w2 at *
        go_wp2_with (at_builtin; refine wpList_append_own _ rfl _ _ 84 rfl (w.heap.size + _) 3 i0 (.int .i64 0) 1 8 Tryz.underlying84 hi hz0 hz1 hz2 rfl (by decide) _ _ _ rfl (L2.out.own.alloc _) ⟨w2.heap.size, 0, none⟩ 1 1 [.int .i64 0] rfl rfl (news_one _ _ _) (one_int _ _) ?c3 ?c4 ?c5 ?_)
        case c3 => have := L2.out.le; unfold maxLen; omega
        case c4 => have := L2.out.le; omega
        case c5 => have := L2.out.size; simp at this ⊢; omega
        intro v' w1 hown' hgrow _
        have HR := Lib.hid (L2.out.step hlt HB.out hown' hgrow)
        clear hown' hgrow
        go_wp2_with fail
        go_roundw
        case rel => exact ⟨k + 1, 0, by go_num, rfl, HN2.out.symm, HR.out⟩
        case measure => simp [intOf]; omega
      by_cases h001 : x = 0 ∧ y = 0 ∧ cc = 1
      · obtain ⟨rfl, rfl, rfl⟩ := h001
        have HB : Hid (X / 2 ^ k % 2 = 1) := by
          have h1 := HBIT.out
          have h2 := HZ.out
          show _ = _
          omega
        have HN2 : Hid ((X % 2 ^ (k + 1) + val b0 b1 b2 b3 % 2 ^ (k + 1)) / 2 ^ (k + 1) = 1) := by
          have h1 := HN.out
          have h2 := HBIT.out
          have h3 := HZ.out
          show _ = _
          omega
        go_wp2_with fail
        refine wp_region_after (by kernel_rfl) (by kernel_rfl) ?_
        repeat (go_big_quiet_step ((first | (go_at_call_of 54 ((a0 : Nat) : Int); exact after_call (CA.out _)) | (go_at_call_of 54 ((b0 : Nat) : Int); exact after_call (CB.out _)))))
        refine wpQuiet_nil ?_
        rintro _ ⟨u, rfl⟩
        clear ua0 ua1 ua2 ua3 ub0 ub1 ub2 ub3
        have L2 := Lib.hid (L.later u.below)
        clear L
        generalize u.w = w2 at *
        go_wp2_with (at_builtin; refine wpList_append_own _ rfl _ _ 84 rfl (w.heap.size + _) 3 i0 (.int .i64 0) 1 8 Tryz.underlying84 hi hz0 hz1 hz2 rfl (by decide) _ _ _ rfl (L2.out.own.alloc _) ⟨w2.heap.size, 0, none⟩ 1 1 [.int .i64 1] rfl rfl (news_one _ _ _) (one_int _ _) ?c3 ?c4 ?c5 ?_)
        case c3 => have := L2.out.le; unfold maxLen; omega
        case c4 => have := L2.out.le; omega
        case c5 => have := L2.out.size; simp at this ⊢; omega
        intro v' w1 hown' hgrow _
        have HR := Lib.hid (L2.out.step hlt HB.out hown' hgrow)
        clear hown' hgrow
        go_wp2_with fail
        go_roundw
        case rel => exact ⟨k + 1, 1, by go_num, rfl, HN2.out.symm, HR.out⟩
        case measure => simp [intOf]; omega
      by_cases h010 : x = 0 ∧ y = 1 ∧ cc = 0
      · obtain ⟨rfl, rfl, rfl⟩ := h010
        have HB : Hid (X / 2 ^ k % 2 = 1) := by
          have h1 := HBIT.out
          have h2 := HZ.out
          show _ = _
          omega
        have HN2 : Hid ((X % 2 ^ (k + 1) + val b0 b1 b2 b3 % 2 ^ (k + 1)) / 2 ^ (k + 1) = 1) := by
          have h1 := HN.out
          have h2 := HBIT.out
          have h3 := HZ.out
          show _ = _
          omega
        go_wp2_with fail
        refine wp_region_after (by kernel_rfl) (by kernel_rfl) ?_
        repeat (go_big_quiet_step ((first | (go_at_call_of 54 ((a0 : Nat) : Int); exact after_call (CA.out _)) | (go_at_call_of 54 ((b0 : Nat) : Int); exact after_call (CB.out _)))))
        refine wpQuiet_nil ?_
        rintro _ ⟨u, rfl⟩
        clear ua0 ua1 ua2 ua3 ub0 ub1 ub2 ub3
        have L2 := Lib.hid (L.later u.below)
        clear L
        generalize u.w = w2 at *
        go_wp2_with (at_builtin; refine wpList_append_own _ rfl _ _ 84 rfl (w.heap.size + _) 3 i0 (.int .i64 0) 1 8 Tryz.underlying84 hi hz0 hz1 hz2 rfl (by decide) _ _ _ rfl (L2.out.own.alloc _) ⟨w2.heap.size, 0, none⟩ 1 1 [.int .i64 1] rfl rfl (news_one _ _ _) (one_int _ _) ?c3 ?c4 ?c5 ?_)
        case c3 => have := L2.out.le; unfold maxLen; omega
        case c4 => have := L2.out.le; omega
        case c5 => have := L2.out.size; simp at this ⊢; omega
        intro v' w1 hown' hgrow _
        have HR := Lib.hid (L2.out.step hlt HB.out hown' hgrow)
        clear hown' hgrow
        go_wp2_with fail
        go_roundw
        case rel => exact ⟨k + 1, 1, by go_num, rfl, HN2.out.symm, HR.out⟩
        case measure => simp [intOf]; omega
      by_cases h011 : x = 0 ∧ y = 1 ∧ cc = 1
      · obtain ⟨rfl, rfl, rfl⟩ := h011
        have HB : Hid (X / 2 ^ k % 2 = 0) := by
          have h1 := HBIT.out
          have h2 := HZ.out
          show _ = _
          omega
        have HN2 : Hid ((X % 2 ^ (k + 1) + val b0 b1 b2 b3 % 2 ^ (k + 1)) / 2 ^ (k + 1) = 1) := by
          have h1 := HN.out
          have h2 := HBIT.out
          have h3 := HZ.out
          show _ = _
          omega
        go_wp2_with fail
        refine wp_region_after (by kernel_rfl) (by kernel_rfl) ?_
        repeat (go_big_quiet_step ((first | (go_at_call_of 54 ((a0 : Nat) : Int); exact after_call (CA.out _)) | (go_at_call_of 54 ((b0 : Nat) : Int); exact after_call (CB.out _)))))
        refine wpQuiet_nil ?_
        rintro _ ⟨u, rfl⟩
        clear ua0 ua1 ua2 ua3 ub0 ub1 ub2 ub3
        have L2 := Lib.hid (L.later u.below)
        clear L
        generalize u.w = w2 at *
        go_wp2_with (at_builtin; refine wpList_append_own _ rfl _ _ 84 rfl (w.heap.size + _) 3 i0 (.int .i64 0) 1 8 Tryz.underlying84 hi hz0 hz1 hz2 rfl (by decide) _ _ _ rfl (L2.out.own.alloc _) ⟨w2.heap.size, 0, none⟩ 1 1 [.int .i64 0] rfl rfl (news_one _ _ _) (one_int _ _) ?c3 ?c4 ?c5 ?_)
        case c3 => have := L2.out.le; unfold maxLen; omega
        case c4 => have := L2.out.le; omega
        case c5 => have := L2.out.size; simp at this ⊢; omega
        intro v' w1 hown' hgrow _
        have HR := Lib.hid (L2.out.step hlt HB.out hown' hgrow)
        clear hown' hgrow
        go_wp2_with fail
        go_roundw
        case rel => exact ⟨k + 1, 1, by go_num, rfl, HN2.out.symm, HR.out⟩
        case measure => simp [intOf]; omega
      by_cases h100 : x = 1 ∧ y = 0 ∧ cc = 0
      · obtain ⟨rfl, rfl, rfl⟩ := h100
        have HB : Hid (X / 2 ^ k % 2 = 1) := by
          have h1 := HBIT.out
          have h2 := HZ.out
          show _ = _
          omega
        have HN2 : Hid ((X % 2 ^ (k + 1) + val b0 b1 b2 b3 % 2 ^ (k + 1)) / 2 ^ (k + 1) = 0) := by
          have h1 := HN.out
          have h2 := HBIT.out
          have h3 := HZ.out
          show _ = _
          omega
        go_wp2_with fail
        refine wp_region_after (by kernel_rfl) (by kernel_rfl) ?_
        repeat (go_big_quiet_step ((first | (go_at_call_of 54 ((a0 : Nat) : Int); exact after_call (CA.out _)) | (go_at_call_of 54 ((b0 : Nat) : Int); exact after_call (CB.out _)))))
        refine wpQuiet_nil ?_
        rintro _ ⟨u, rfl⟩
        clear ua0 ua1 ua2 ua3 ub0 ub1 ub2 ub3
        have L2 := Lib.hid (L.later u.below)
        clear L
        generalize u.w = w2 at *
        go_wp2_with (at_builtin; refine wpList_append_own _ rfl _ _ 84 rfl (w.heap.size + _) 3 i0 (.int .i64 0) 1 8 Tryz.underlying84 hi hz0 hz1 hz2 rfl (by decide) _ _ _ rfl (L2.out.own.alloc _) ⟨w2.heap.size, 0, none⟩ 1 1 [.int .i64 1] rfl rfl (news_one _ _ _) (one_int _ _) ?c3 ?c4 ?c5 ?_)
        case c3 => have := L2.out.le; unfold maxLen; omega
        case c4 => have := L2.out.le; omega
        case c5 => have := L2.out.size; simp at this ⊢; omega
        intro v' w1 hown' hgrow _
        have HR := Lib.hid (L2.out.step hlt HB.out hown' hgrow)
        clear hown' hgrow
        go_wp2_with fail
        go_roundw
        case rel => exact ⟨k + 1, 0, by go_num, rfl, HN2.out.symm, HR.out⟩
        case measure => simp [intOf]; omega
      by_cases h101 : x = 1 ∧ y = 0 ∧ cc = 1
      · obtain ⟨rfl, rfl, rfl⟩ := h101
        have HB : Hid (X / 2 ^ k % 2 = 0) := by
          have h1 := HBIT.out
          have h2 := HZ.out
          show _ = _
          omega
        have HN2 : Hid ((X % 2 ^ (k + 1) + val b0 b1 b2 b3 % 2 ^ (k + 1)) / 2 ^ (k + 1) = 0) := by
          have h1 := HN.out
          have h2 := HBIT.out
          have h3 := HZ.out
          show _ = _
          omega
        go_wp2_with fail
        refine wp_region_after (by kernel_rfl) (by kernel_rfl) ?_
        repeat (go_big_quiet_step ((first | (go_at_call_of 54 ((a0 : Nat) : Int); exact after_call (CA.out _)) | (go_at_call_of 54 ((b0 : Nat) : Int); exact after_call (CB.out _)))))
        refine wpQuiet_nil ?_
        rintro _ ⟨u, rfl⟩
        clear ua0 ua1 ua2 ua3 ub0 ub1 ub2 ub3
        have L2 := Lib.hid (L.later u.below)
        clear L
        generalize u.w = w2 at *
        go_wp2_with (at_builtin; refine wpList_append_own _ rfl _ _ 84 rfl (w.heap.size + _) 3 i0 (.int .i64 0) 1 8 Tryz.underlying84 hi hz0 hz1 hz2 rfl (by decide) _ _ _ rfl (L2.out.own.alloc _) ⟨w2.heap.size, 0, none⟩ 1 1 [.int .i64 0] rfl rfl (news_one _ _ _) (one_int _ _) ?c3 ?c4 ?c5 ?_)
        case c3 => have := L2.out.le; unfold maxLen; omega
        case c4 => have := L2.out.le; omega
        case c5 => have := L2.out.size; simp at this ⊢; omega
        intro v' w1 hown' hgrow _
        have HR := Lib.hid (L2.out.step hlt HB.out hown' hgrow)
        clear hown' hgrow
        go_wp2_with fail
        go_roundw
        case rel => exact ⟨k + 1, 0, by go_num, rfl, HN2.out.symm, HR.out⟩
        case measure => simp [intOf]; omega
      by_cases h110 : x = 1 ∧ y = 1 ∧ cc = 0
      · obtain ⟨rfl, rfl, rfl⟩ := h110
        have HB : Hid (X / 2 ^ k % 2 = 0) := by
          have h1 := HBIT.out
          have h2 := HZ.out
          show _ = _
          omega
        have HN2 : Hid ((X % 2 ^ (k + 1) + val b0 b1 b2 b3 % 2 ^ (k + 1)) / 2 ^ (k + 1) = 0) := by
          have h1 := HN.out
          have h2 := HBIT.out
          have h3 := HZ.out
          show _ = _
          omega
        go_wp2_with fail
        refine wp_region_after (by kernel_rfl) (by kernel_rfl) ?_
        repeat (go_big_quiet_step ((first | (go_at_call_of 54 ((a0 : Nat) : Int); exact after_call (CA.out _)) | (go_at_call_of 54 ((b0 : Nat) : Int); exact after_call (CB.out _)))))
        refine wpQuiet_nil ?_
        rintro _ ⟨u, rfl⟩
        clear ua0 ua1 ua2 ua3 ub0 ub1 ub2 ub3
        have L2 := Lib.hid (L.later u.below)
        clear L
        generalize u.w = w2 at *
        go_wp2_with (at_builtin; refine wpList_append_own _ rfl _ _ 84 rfl (w.heap.size + _) 3 i0 (.int .i64 0) 1 8 Tryz.underlying84 hi hz0 hz1 hz2 rfl (by decide) _ _ _ rfl (L2.out.own.alloc _) ⟨w2.heap.size, 0, none⟩ 1 1 [.int .i64 0] rfl rfl (news_one _ _ _) (one_int _ _) ?c3 ?c4 ?c5 ?_)
        case c3 => have := L2.out.le; unfold maxLen; omega
        case c4 => have := L2.out.le; omega
        case c5 => have := L2.out.size; simp at this ⊢; omega
        intro v' w1 hown' hgrow _
        have HR := Lib.hid (L2.out.step hlt HB.out hown' hgrow)
        clear hown' hgrow
        go_wp2_with fail
        go_roundw
        case rel => exact ⟨k + 1, 0, by go_num, rfl, HN2.out.symm, HR.out⟩
        case measure => simp [intOf]; omega
      by_cases h111 : x = 1 ∧ y = 1 ∧ cc = 1
      · obtain ⟨rfl, rfl, rfl⟩ := h111
        have HB : Hid (X / 2 ^ k % 2 = 1) := by
          have h1 := HBIT.out
          have h2 := HZ.out
          show _ = _
          omega
        have HN2 : Hid ((X % 2 ^ (k + 1) + val b0 b1 b2 b3 % 2 ^ (k + 1)) / 2 ^ (k + 1) = 1) := by
          have h1 := HN.out
          have h2 := HBIT.out
          have h3 := HZ.out
          show _ = _
          omega
        go_wp2_with fail
        refine wp_region_after (by kernel_rfl) (by kernel_rfl) ?_
        repeat (go_big_quiet_step ((first | (go_at_call_of 54 ((a0 : Nat) : Int); exact after_call (CA.out _)) | (go_at_call_of 54 ((b0 : Nat) : Int); exact after_call (CB.out _)))))
        refine wpQuiet_nil ?_
        rintro _ ⟨u, rfl⟩
        clear ua0 ua1 ua2 ua3 ub0 ub1 ub2 ub3
        have L2 := Lib.hid (L.later u.below)
        clear L
        generalize u.w = w2 at *
        go_wp2_with (at_builtin; refine wpList_append_own _ rfl _ _ 84 rfl (w.heap.size + _) 3 i0 (.int .i64 0) 1 8 Tryz.underlying84 hi hz0 hz1 hz2 rfl (by decide) _ _ _ rfl (L2.out.own.alloc _) ⟨w2.heap.size, 0, none⟩ 1 1 [.int .i64 1] rfl rfl (news_one _ _ _) (one_int _ _) ?c3 ?c4 ?c5 ?_)
        case c3 => have := L2.out.le; unfold maxLen; omega
        case c4 => have := L2.out.le; omega
        case c5 => have := L2.out.size; simp at this ⊢; omega
        intro v' w1 hown' hgrow _
        have HR := Lib.hid (L2.out.step hlt HB.out hown' hgrow)
        clear hown' hgrow
        go_wp2_with fail
        go_roundw
        case rel => exact ⟨k + 1, 1, by go_num, rfl, HN2.out.symm, HR.out⟩
        case measure => simp [intOf]; omega
      omega
    · obtain rfl : k = 256 := by have := L.le; omega
      have hend : (cc = 1 ∧ val a0 a1 a2 a3 < val b0 b1 b2 b3) ∨ (cc = 0 ∧ ¬ val a0 a1 a2 a3 < val b0 b1 b2 b3) := by
        have h1 := LA.out
        have h2 := LB.out
        have h3 := HX.out
        rw [show (2 : Nat) ^ 256 = 115792089237316195423570985008687907853269984665640564039457584007913129639936 by decide] at hcc
        omega
      clear hcc
      rcases hend with ⟨rfl, he⟩ | ⟨rfl, he⟩
      · obtain ⟨B, cap, rfl, hB, hBw, hbits⟩ := owned_bits L.own
        have HBITS := Lib.hid hbits
        have L1 := Lib.hid L
        clear hbits L
        go_wp2_with fail
        refine (from_any X B cap _ hB HBITS.out).mono ?_
        rintro e w2 ⟨o0, o1, o2, o3, rfl, wo, vo, hc⟩
        have L2 := Lib.hid (L1.out.later hc)
        have H5 : Holds w2 (w.heap.size + 2) #[.int .u64 0, .int .u64 0, .int .u64 0, .int .u64 0] 51 := L2.out.box 2 _ rfl
        have HV := Lib.hid vo
        clear vo hc HBITS L1 hB
        have d0 : w2.cell? ⟨w.heap.size + 2, 0, none⟩ = some (.int .u64 0) := H5.cell 0
        have z0 : w2.frozen? ⟨w.heap.size + 2, 0, none⟩ = false := H5.free 0
        have d1 : w2.cell? ⟨w.heap.size + 2, 1, none⟩ = some (.int .u64 0) := H5.cell 1
        have z1 : w2.frozen? ⟨w.heap.size + 2, 1, none⟩ = false := H5.free 1
        have d2 : w2.cell? ⟨w.heap.size + 2, 2, none⟩ = some (.int .u64 0) := H5.cell 2
        have z2 : w2.frozen? ⟨w.heap.size + 2, 2, none⟩ = false := H5.free 2
        have d3 : w2.cell? ⟨w.heap.size + 2, 3, none⟩ = some (.int .u64 0) := H5.cell 3
        have z3 : w2.frozen? ⟨w.heap.size + 2, 3, none⟩ = false := H5.free 3
        obtain rfl : o = true := by rw [HO.out]; exact decide_eq_true he
        clear he HO
        go_wp2_with fail
        have b := ((((L2.out.bel.setCell (p := ⟨w.heap.size + 2, 0, none⟩) (by simp) (.int .u64 (o0 : Nat))).setCell (p := ⟨w.heap.size + 2, 1, none⟩) (by simp) (.int .u64 (o1 : Nat))).setCell (p := ⟨w.heap.size + 2, 2, none⟩) (by simp) (.int .u64 (o2 : Nat))).setCell (p := ⟨w.heap.size + 2, 3, none⟩) (by simp) (.int .u64 (o3 : Nat)))
        have HS : Holds ((((w2.setCell ⟨w.heap.size + 2, 0, none⟩ (.int .u64 (o0 : Nat))).setCell ⟨w.heap.size + 2, 1, none⟩ (.int .u64 (o1 : Nat))).setCell ⟨w.heap.size + 2, 2, none⟩ (.int .u64 (o2 : Nat))).setCell ⟨w.heap.size + 2, 3, none⟩ (.int .u64 (o3 : Nat))) (w.heap.size + 2) #[.int .u64 (o0 : Nat), .int .u64 (o1 : Nat), .int .u64 (o2 : Nat), .int .u64 (o3 : Nat)] 51 := (((H5.set _).set _).set _).set _
        have g0 : ((((w2.setCell ⟨w.heap.size + 2, 0, none⟩ (.int .u64 (o0 : Nat))).setCell ⟨w.heap.size + 2, 1, none⟩ (.int .u64 (o1 : Nat))).setCell ⟨w.heap.size + 2, 2, none⟩ (.int .u64 (o2 : Nat))).setCell ⟨w.heap.size + 2, 3, none⟩ (.int .u64 (o3 : Nat))).cell? ⟨w.heap.size + 2, 0, none⟩ = some (.int .u64 (o0 : Nat)) := HS.cell 0
        have g1 : ((((w2.setCell ⟨w.heap.size + 2, 0, none⟩ (.int .u64 (o0 : Nat))).setCell ⟨w.heap.size + 2, 1, none⟩ (.int .u64 (o1 : Nat))).setCell ⟨w.heap.size + 2, 2, none⟩ (.int .u64 (o2 : Nat))).setCell ⟨w.heap.size + 2, 3, none⟩ (.int .u64 (o3 : Nat))).cell? ⟨w.heap.size + 2, 1, none⟩ = some (.int .u64 (o1 : Nat)) := HS.cell 1
        have g2 : ((((w2.setCell ⟨w.heap.size + 2, 0, none⟩ (.int .u64 (o0 : Nat))).setCell ⟨w.heap.size + 2, 1, none⟩ (.int .u64 (o1 : Nat))).setCell ⟨w.heap.size + 2, 2, none⟩ (.int .u64 (o2 : Nat))).setCell ⟨w.heap.size + 2, 3, none⟩ (.int .u64 (o3 : Nat))).cell? ⟨w.heap.size + 2, 2, none⟩ = some (.int .u64 (o2 : Nat)) := HS.cell 2
        have g3 : ((((w2.setCell ⟨w.heap.size + 2, 0, none⟩ (.int .u64 (o0 : Nat))).setCell ⟨w.heap.size + 2, 1, none⟩ (.int .u64 (o1 : Nat))).setCell ⟨w.heap.size + 2, 2, none⟩ (.int .u64 (o2 : Nat))).setCell ⟨w.heap.size + 2, 3, none⟩ (.int .u64 (o3 : Nat))).cell? ⟨w.heap.size + 2, 3, none⟩ = some (.int .u64 (o3 : Nat)) := HS.cell 3
        refine bodyPost_ret (v := .tuple #[.agg #[.int .u64 (o0 : Nat), .int .u64 (o1 : Nat), .int .u64 (o2 : Nat), .int .u64 (o3 : Nat)], .bool true]) (by simp [results, Tryz.results79, go_sem, g0, g1, g2, g3]) rfl ⟨o0, o1, o2, o3, rfl, wo, HV.out, b⟩
      · obtain ⟨B, cap, rfl, hB, hBw, hbits⟩ := owned_bits L.own
        have HBITS := Lib.hid hbits
        have L1 := Lib.hid L
        clear hbits L
        go_wp2_with fail
        refine (from_any X B cap _ hB HBITS.out).mono ?_
        rintro e w2 ⟨o0, o1, o2, o3, rfl, wo, vo, hc⟩
        have L2 := Lib.hid (L1.out.later hc)
        have H5 : Holds w2 (w.heap.size + 2) #[.int .u64 0, .int .u64 0, .int .u64 0, .int .u64 0] 51 := L2.out.box 2 _ rfl
        have HV := Lib.hid vo
        clear vo hc HBITS L1 hB
        have d0 : w2.cell? ⟨w.heap.size + 2, 0, none⟩ = some (.int .u64 0) := H5.cell 0
        have z0 : w2.frozen? ⟨w.heap.size + 2, 0, none⟩ = false := H5.free 0
        have d1 : w2.cell? ⟨w.heap.size + 2, 1, none⟩ = some (.int .u64 0) := H5.cell 1
        have z1 : w2.frozen? ⟨w.heap.size + 2, 1, none⟩ = false := H5.free 1
        have d2 : w2.cell? ⟨w.heap.size + 2, 2, none⟩ = some (.int .u64 0) := H5.cell 2
        have z2 : w2.frozen? ⟨w.heap.size + 2, 2, none⟩ = false := H5.free 2
        have d3 : w2.cell? ⟨w.heap.size + 2, 3, none⟩ = some (.int .u64 0) := H5.cell 3
        have z3 : w2.frozen? ⟨w.heap.size + 2, 3, none⟩ = false := H5.free 3
        obtain rfl : o = false := by rw [HO.out]; exact decide_eq_false he
        clear he HO
        go_wp2_with fail
        have b := ((((L2.out.bel.setCell (p := ⟨w.heap.size + 2, 0, none⟩) (by simp) (.int .u64 (o0 : Nat))).setCell (p := ⟨w.heap.size + 2, 1, none⟩) (by simp) (.int .u64 (o1 : Nat))).setCell (p := ⟨w.heap.size + 2, 2, none⟩) (by simp) (.int .u64 (o2 : Nat))).setCell (p := ⟨w.heap.size + 2, 3, none⟩) (by simp) (.int .u64 (o3 : Nat)))
        have HS : Holds ((((w2.setCell ⟨w.heap.size + 2, 0, none⟩ (.int .u64 (o0 : Nat))).setCell ⟨w.heap.size + 2, 1, none⟩ (.int .u64 (o1 : Nat))).setCell ⟨w.heap.size + 2, 2, none⟩ (.int .u64 (o2 : Nat))).setCell ⟨w.heap.size + 2, 3, none⟩ (.int .u64 (o3 : Nat))) (w.heap.size + 2) #[.int .u64 (o0 : Nat), .int .u64 (o1 : Nat), .int .u64 (o2 : Nat), .int .u64 (o3 : Nat)] 51 := (((H5.set _).set _).set _).set _
        have g0 : ((((w2.setCell ⟨w.heap.size + 2, 0, none⟩ (.int .u64 (o0 : Nat))).setCell ⟨w.heap.size + 2, 1, none⟩ (.int .u64 (o1 : Nat))).setCell ⟨w.heap.size + 2, 2, none⟩ (.int .u64 (o2 : Nat))).setCell ⟨w.heap.size + 2, 3, none⟩ (.int .u64 (o3 : Nat))).cell? ⟨w.heap.size + 2, 0, none⟩ = some (.int .u64 (o0 : Nat)) := HS.cell 0
        have g1 : ((((w2.setCell ⟨w.heap.size + 2, 0, none⟩ (.int .u64 (o0 : Nat))).setCell ⟨w.heap.size + 2, 1, none⟩ (.int .u64 (o1 : Nat))).setCell ⟨w.heap.size + 2, 2, none⟩ (.int .u64 (o2 : Nat))).setCell ⟨w.heap.size + 2, 3, none⟩ (.int .u64 (o3 : Nat))).cell? ⟨w.heap.size + 2, 1, none⟩ = some (.int .u64 (o1 : Nat)) := HS.cell 1
        have g2 : ((((w2.setCell ⟨w.heap.size + 2, 0, none⟩ (.int .u64 (o0 : Nat))).setCell ⟨w.heap.size + 2, 1, none⟩ (.int .u64 (o1 : Nat))).setCell ⟨w.heap.size + 2, 2, none⟩ (.int .u64 (o2 : Nat))).setCell ⟨w.heap.size + 2, 3, none⟩ (.int .u64 (o3 : Nat))).cell? ⟨w.heap.size + 2, 2, none⟩ = some (.int .u64 (o2 : Nat)) := HS.cell 2
        have g3 : ((((w2.setCell ⟨w.heap.size + 2, 0, none⟩ (.int .u64 (o0 : Nat))).setCell ⟨w.heap.size + 2, 1, none⟩ (.int .u64 (o1 : Nat))).setCell ⟨w.heap.size + 2, 2, none⟩ (.int .u64 (o2 : Nat))).setCell ⟨w.heap.size + 2, 3, none⟩ (.int .u64 (o3 : Nat))).cell? ⟨w.heap.size + 2, 3, none⟩ = some (.int .u64 (o3 : Nat)) := HS.cell 3
        refine bodyPost_ret (v := .tuple #[.agg #[.int .u64 (o0 : Nat), .int .u64 (o1 : Nat), .int .u64 (o2 : Nat), .int .u64 (o3 : Nat)], .bool false]) (by simp [results, Tryz.results79, go_sem, g0, g1, g2, g3]) rfl ⟨o0, o1, o2, o3, rfl, wo, HV.out, b⟩

end Go.Proofs.YtimjmmiajgfblaaGreatDoor.Bg
