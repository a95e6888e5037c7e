/- Sub of the document's answers of layer 2, at every two numbers. -/
import Derived.Test.YtnipajfglmahiaaRefAdd
namespace Go.Proofs.Ytnipajfglmahiaa
open Go.RowKit

set_option maxRecDepth 100000 in
set_option maxHeartbeats 16000000 in
theorem refsub_any {a0 a1 a2 a3 b0 b1 b2 b3 : Nat} (ha : Words a0 a1 a2 a3) (hb : Words b0 b1 b2 b3) (o : Bool) (ho : o = decide (val a0 a1 a2 a3 < val b0 b1 b2 b3)) (w : World) : Calls Try.prog 34 #[.agg #[.int .u64 (a0 : Nat), .int .u64 (a1 : Nat), .int .u64 (a2 : Nat), .int .u64 (a3 : Nat)], .agg #[.int .u64 (b0 : Nat), .int .u64 (b1 : Nat), .int .u64 (b2 : Nat), .int .u64 (b3 : Nat)]] w (SumPost (val a0 a1 a2 a3 + 115792089237316195423570985008687907853269984665640564039457584007913129639936 - val b0 b1 b2 b3) o w) := by
  obtain ⟨i0, hi, hz0, hz1, hz2⟩ := info_parts Try.infoInt
  have lA : val a0 a1 a2 a3 < 115792089237316195423570985008687907853269984665640564039457584007913129639936 := by obtain ⟨_, _, _, _⟩ := ha; unfold val; omega
  have lB : val b0 b1 b2 b3 < 115792089237316195423570985008687907853269984665640564039457584007913129639936 := by obtain ⟨_, _, _, _⟩ := hb; unfold val; omega
  have LA := Lib.hid lA
  have LB := Lib.hid lB
  clear lA lB
  obtain ⟨X, hX⟩ : ∃ X, X = val a0 a1 a2 a3 + 115792089237316195423570985008687907853269984665640564039457584007913129639936 - val b0 b1 b2 b3 := ⟨_, rfl⟩
  rw [← hX]
  have HX := Lib.hid hX
  have HO := Lib.hid ho
  clear hX ho
  go_enter Try.func34, Try.ntmps34
  go_wp2_with fail
  go_loopw [6, 7, 8] (fun v c i wr => ∃ k cc : Nat, i = .int .i64 (k : Nat) ∧ c = .int .i64 (cc : Nat) ∧ cc = (X % 2 ^ k + val b0 b1 b2 b3 % 2 ^ k) / 2 ^ k ∧ ListAt X w [#[.int .u64 (a0 : Nat), .int .u64 (a1 : Nat), .int .u64 (a2 : Nat), .int .u64 (a3 : Nat)], #[.int .u64 (b0 : Nat), .int .u64 (b1 : Nat), .int .u64 (b2 : Nat), .int .u64 (b3 : Nat)], #[.int .u64 0, .int .u64 0, .int .u64 0, .int .u64 0]] k v wr) (fun _ _ i _ => 256 - (intOf i).toNat)
  case atStart => exact ⟨0, 0, rfl, rfl, by rw [Nat.pow_zero, Nat.mod_one, Nat.mod_one], ⟨by omega, ⟨rfl, Or.inl ⟨rfl, rfl⟩⟩, boxes3 _ _ _ _, below3 _ _ _ _, by simp⟩⟩
  case round =>
    obtain ⟨k, cc, rfl, rfl, hcc, L⟩ := hrel
    by_cases hlt : k < 256
    · have t1 : decide ((k : Int) < 256) = true := decide_eq_true (by omega)
      have a0' : wr.cell? ⟨w.heap.size, 0, none⟩ = some (.int .u64 (a0 : Nat)) := (L.box 0 _ rfl).cell 0
      have a1' : wr.cell? ⟨w.heap.size, 1, none⟩ = some (.int .u64 (a1 : Nat)) := (L.box 0 _ rfl).cell 1
      have a2' : wr.cell? ⟨w.heap.size, 2, none⟩ = some (.int .u64 (a2 : Nat)) := (L.box 0 _ rfl).cell 2
      have a3' : wr.cell? ⟨w.heap.size, 3, none⟩ = some (.int .u64 (a3 : Nat)) := (L.box 0 _ rfl).cell 3
      have b0' : wr.cell? ⟨w.heap.size + 1, 0, none⟩ = some (.int .u64 (b0 : Nat)) := (L.box 1 _ rfl).cell 0
      have b1' : wr.cell? ⟨w.heap.size + 1, 1, none⟩ = some (.int .u64 (b1 : Nat)) := (L.box 1 _ rfl).cell 1
      have b2' : wr.cell? ⟨w.heap.size + 1, 2, none⟩ = some (.int .u64 (b2 : Nat)) := (L.box 1 _ rfl).cell 2
      have b3' : wr.cell? ⟨w.heap.size + 1, 3, none⟩ = some (.int .u64 (b3 : Nat)) := (L.box 1 _ rfl).cell 3
      have ua0 : ∀ u : After wr, u.w.cell? ⟨w.heap.size, 0, none⟩ = some (.int .u64 (a0 : Nat)) := fun u => u.cell a0'
      have ua1 : ∀ u : After wr, u.w.cell? ⟨w.heap.size, 1, none⟩ = some (.int .u64 (a1 : Nat)) := fun u => u.cell a1'
      have ua2 : ∀ u : After wr, u.w.cell? ⟨w.heap.size, 2, none⟩ = some (.int .u64 (a2 : Nat)) := fun u => u.cell a2'
      have ua3 : ∀ u : After wr, u.w.cell? ⟨w.heap.size, 3, none⟩ = some (.int .u64 (a3 : Nat)) := fun u => u.cell a3'
      have ub0 : ∀ u : After wr, u.w.cell? ⟨w.heap.size + 1, 0, none⟩ = some (.int .u64 (b0 : Nat)) := fun u => u.cell b0'
      have ub1 : ∀ u : After wr, u.w.cell? ⟨w.heap.size + 1, 1, none⟩ = some (.int .u64 (b1 : Nat)) := fun u => u.cell b1'
      have ub2 : ∀ u : After wr, u.w.cell? ⟨w.heap.size + 1, 2, none⟩ = some (.int .u64 (b2 : Nat)) := fun u => u.cell b2'
      have ub3 : ∀ u : After wr, u.w.cell? ⟨w.heap.size + 1, 3, none⟩ = some (.int .u64 (b3 : Nat)) := fun u => u.cell b3'
      obtain ⟨x, hx⟩ : ∃ x, x = val a0 a1 a2 a3 / 2 ^ k % 2 := ⟨_, rfl⟩
      obtain ⟨y, hy⟩ : ∃ y, y = val b0 b1 b2 b3 / 2 ^ k % 2 := ⟨_, rfl⟩
      have CA := Lib.hid (bitIs ha hlt hx)
      have CB := Lib.hid (bitIs hb hlt hy)
      have c1 : cc ≤ 1 := by rw [hcc]; exact carry_le _ _ _
      obtain ⟨hbit, hnext⟩ := add_bit X (val b0 b1 b2 b3) k
      have hz2' := bit_two (X / 2 ^ k)
      rw [← hy, ← hcc] at hbit hnext
      rw [show X + val b0 b1 b2 b3 = val a0 a1 a2 a3 + 115792089237316195423570985008687907853269984665640564039457584007913129639936 by have := HX.out; have := LB.out; omega, add_high_bit _ _ hlt, ← hx] at hbit
      have hx2 : x = 0 ∨ x = 1 := by rw [hx]; exact bit_two _
      have hy2 : y = 0 ∨ y = 1 := by rw [hy]; exact bit_two _
      have hc2 : cc = 0 ∨ cc = 1 := by omega
      have HN := Lib.hid hnext
      have HC := Lib.hid hcc
      have HBIT := Lib.hid hbit
      clear hnext hcc hx hy hbit c1
      have HZ := Lib.hid hz2'
      clear hz2'
      by_cases h000 : x = 0 ∧ y = 0 ∧ cc = 0
      · obtain ⟨rfl, rfl, rfl⟩ := h000
        have HB : Hid (X / 2 ^ k % 2 = 0) := by
          have h1 := HBIT.out
          have h2 := HZ.out
          show _ = _
          omega
        have HN2 : Hid ((X % 2 ^ (k + 1) + val b0 b1 b2 b3 % 2 ^ (k + 1)) / 2 ^ (k + 1) = 0) := by
          have h1 := HN.out
          have h2 := HBIT.out
          have h3 := HZ.out
          show _ = _
          omega
        go_wp2_with fail
        refine wp_region_after (by kernel_rfl) (by kernel_rfl) ?_
        repeat (go_big_quiet_step ((first | (go_at_call_of 33 ((a0 : Nat) : Int); exact after_call (CA.out _)) | (go_at_call_of 33 ((b0 : Nat) : Int); exact after_call (CB.out _)))))
        refine wpQuiet_nil ?_
        rintro _ ⟨u, rfl⟩
        clear ua0 ua1 ua2 ua3 ub0 ub1 ub2 ub3
        have L2 := Lib.hid (L.later u.below)
        clear L
        generalize u.w = w2 at *
        go_wp2_with (at_builtin; refine wpList_append_own _ rfl _ _ 58 rfl (w.heap.size + _) 3 i0 (.int .i64 0) 1 8 Try.underlying58 hi hz0 hz1 hz2 rfl (by decide) _ _ _ rfl (L2.out.own.alloc _) ⟨w2.heap.size, 0, none⟩ 1 1 [.int .i64 0] rfl rfl (news_one _ _ _) (one_int _ _) ?c3 ?c4 ?c5 ?_)
        case c3 => have := L2.out.le; unfold maxLen; omega
        case c4 => have := L2.out.le; omega
        case c5 => have := L2.out.size; simp at this ⊢; omega
        intro v' w1 hown' hgrow _
        have HR := Lib.hid (L2.out.step hlt HB.out hown' hgrow)
        clear hown' hgrow
        go_wp2_with fail
        go_roundw
        case rel => exact ⟨k + 1, 0, by go_num, rfl, HN2.out.symm, HR.out⟩
        case measure => simp [intOf]; omega
      by_cases h001 : x = 0 ∧ y = 0 ∧ cc = 1
      · obtain ⟨rfl, rfl, rfl⟩ := h001
        have HB : Hid (X / 2 ^ k % 2 = 1) := by
          have h1 := HBIT.out
          have h2 := HZ.out
          show _ = _
          omega
        have HN2 : Hid ((X % 2 ^ (k + 1) + val b0 b1 b2 b3 % 2 ^ (k + 1)) / 2 ^ (k + 1) = 1) := by
          have h1 := HN.out
          have h2 := HBIT.out
          have h3 := HZ.out
          show _ = _
          omega
        go_wp2_with fail
        refine wp_region_after (by kernel_rfl) (by kernel_rfl) ?_
        repeat (go_big_quiet_step ((first | (go_at_call_of 33 ((a0 : Nat) : Int); exact after_call (CA.out _)) | (go_at_call_of 33 ((b0 : Nat) : Int); exact after_call (CB.out _)))))
        refine wpQuiet_nil ?_
        rintro _ ⟨u, rfl⟩
        clear ua0 ua1 ua2 ua3 ub0 ub1 ub2 ub3
        have L2 := Lib.hid (L.later u.below)
        clear L
        generalize u.w = w2 at *
        go_wp2_with (at_builtin; refine wpList_append_own _ rfl _ _ 58 rfl (w.heap.size + _) 3 i0 (.int .i64 0) 1 8 Try.underlying58 hi hz0 hz1 hz2 rfl (by decide) _ _ _ rfl (L2.out.own.alloc _) ⟨w2.heap.size, 0, none⟩ 1 1 [.int .i64 1] rfl rfl (news_one _ _ _) (one_int _ _) ?c3 ?c4 ?c5 ?_)
        case c3 => have := L2.out.le; unfold maxLen; omega
        case c4 => have := L2.out.le; omega
        case c5 => have := L2.out.size; simp at this ⊢; omega
        intro v' w1 hown' hgrow _
        have HR := Lib.hid (L2.out.step hlt HB.out hown' hgrow)
        clear hown' hgrow
        go_wp2_with fail
        go_roundw
        case rel => exact ⟨k + 1, 1, by go_num, rfl, HN2.out.symm, HR.out⟩
        case measure => simp [intOf]; omega
      by_cases h010 : x = 0 ∧ y = 1 ∧ cc = 0
      · obtain ⟨rfl, rfl, rfl⟩ := h010
        have HB : Hid (X / 2 ^ k % 2 = 1) := by
          have h1 := HBIT.out
          have h2 := HZ.out
          show _ = _
          omega
        have HN2 : Hid ((X % 2 ^ (k + 1) + val b0 b1 b2 b3 % 2 ^ (k + 1)) / 2 ^ (k + 1) = 1) := by
          have h1 := HN.out
          have h2 := HBIT.out
          have h3 := HZ.out
          show _ = _
          omega
        go_wp2_with fail
        refine wp_region_after (by kernel_rfl) (by kernel_rfl) ?_
        repeat (go_big_quiet_step ((first | (go_at_call_of 33 ((a0 : Nat) : Int); exact after_call (CA.out _)) | (go_at_call_of 33 ((b0 : Nat) : Int); exact after_call (CB.out _)))))
        refine wpQuiet_nil ?_
        rintro _ ⟨u, rfl⟩
        clear ua0 ua1 ua2 ua3 ub0 ub1 ub2 ub3
        have L2 := Lib.hid (L.later u.below)
        clear L
        generalize u.w = w2 at *
        go_wp2_with (at_builtin; refine wpList_append_own _ rfl _ _ 58 rfl (w.heap.size + _) 3 i0 (.int .i64 0) 1 8 Try.underlying58 hi hz0 hz1 hz2 rfl (by decide) _ _ _ rfl (L2.out.own.alloc _) ⟨w2.heap.size, 0, none⟩ 1 1 [.int .i64 1] rfl rfl (news_one _ _ _) (one_int _ _) ?c3 ?c4 ?c5 ?_)
        case c3 => have := L2.out.le; unfold maxLen; omega
        case c4 => have := L2.out.le; omega
        case c5 => have := L2.out.size; simp at this ⊢; omega
        intro v' w1 hown' hgrow _
        have HR := Lib.hid (L2.out.step hlt HB.out hown' hgrow)
        clear hown' hgrow
        go_wp2_with fail
        go_roundw
        case rel => exact ⟨k + 1, 1, by go_num, rfl, HN2.out.symm, HR.out⟩
        case measure => simp [intOf]; omega
      by_cases h011 : x = 0 ∧ y = 1 ∧ cc = 1
      · obtain ⟨rfl, rfl, rfl⟩ := h011
        have HB : Hid (X / 2 ^ k % 2 = 0) := by
          have h1 := HBIT.out
          have h2 := HZ.out
          show _ = _
          omega
        have HN2 : Hid ((X % 2 ^ (k + 1) + val b0 b1 b2 b3 % 2 ^ (k + 1)) / 2 ^ (k + 1) = 1) := by
          have h1 := HN.out
          have h2 := HBIT.out
          have h3 := HZ.out
          show _ = _
          omega
        go_wp2_with fail
        refine wp_region_after (by kernel_rfl) (by kernel_rfl) ?_
        repeat (go_big_quiet_step ((first | (go_at_call_of 33 ((a0 : Nat) : Int); exact after_call (CA.out _)) | (go_at_call_of 33 ((b0 : Nat) : Int); exact after_call (CB.out _)))))
        refine wpQuiet_nil ?_
        rintro _ ⟨u, rfl⟩
        clear ua0 ua1 ua2 ua3 ub0 ub1 ub2 ub3
        have L2 := Lib.hid (L.later u.below)
        clear L
        generalize u.w = w2 at *
        go_wp2_with (at_builtin; refine wpList_append_own _ rfl _ _ 58 rfl (w.heap.size + _) 3 i0 (.int .i64 0) 1 8 Try.underlying58 hi hz0 hz1 hz2 rfl (by decide) _ _ _ rfl (L2.out.own.alloc _) ⟨w2.heap.size, 0, none⟩ 1 1 [.int .i64 0] rfl rfl (news_one _ _ _) (one_int _ _) ?c3 ?c4 ?c5 ?_)
        case c3 => have := L2.out.le; unfold maxLen; omega
        case c4 => have := L2.out.le; omega
        case c5 => have := L2.out.size; simp at this ⊢; omega
        intro v' w1 hown' hgrow _
        have HR := Lib.hid (L2.out.step hlt HB.out hown' hgrow)
        clear hown' hgrow
        go_wp2_with fail
        go_roundw
        case rel => exact ⟨k + 1, 1, by go_num, rfl, HN2.out.symm, HR.out⟩
        case measure => simp [intOf]; omega
      by_cases h100 : x = 1 ∧ y = 0 ∧ cc = 0
      · obtain ⟨rfl, rfl, rfl⟩ := h100
        have HB : Hid (X / 2 ^ k % 2 = 1) := by
          have h1 := HBIT.out
          have h2 := HZ.out
          show _ = _
          omega
        have HN2 : Hid ((X % 2 ^ (k + 1) + val b0 b1 b2 b3 % 2 ^ (k + 1)) / 2 ^ (k + 1) = 0) := by
          have h1 := HN.out
          have h2 := HBIT.out
          have h3 := HZ.out
          show _ = _
          omega
        go_wp2_with fail
        refine wp_region_after (by kernel_rfl) (by kernel_rfl) ?_
        repeat (go_big_quiet_step ((first | (go_at_call_of 33 ((a0 : Nat) : Int); exact after_call (CA.out _)) | (go_at_call_of 33 ((b0 : Nat) : Int); exact after_call (CB.out _)))))
        refine wpQuiet_nil ?_
        rintro _ ⟨u, rfl⟩
        clear ua0 ua1 ua2 ua3 ub0 ub1 ub2 ub3
        have L2 := Lib.hid (L.later u.below)
        clear L
        generalize u.w = w2 at *
        go_wp2_with (at_builtin; refine wpList_append_own _ rfl _ _ 58 rfl (w.heap.size + _) 3 i0 (.int .i64 0) 1 8 Try.underlying58 hi hz0 hz1 hz2 rfl (by decide) _ _ _ rfl (L2.out.own.alloc _) ⟨w2.heap.size, 0, none⟩ 1 1 [.int .i64 1] rfl rfl (news_one _ _ _) (one_int _ _) ?c3 ?c4 ?c5 ?_)
        case c3 => have := L2.out.le; unfold maxLen; omega
        case c4 => have := L2.out.le; omega
        case c5 => have := L2.out.size; simp at this ⊢; omega
        intro v' w1 hown' hgrow _
        have HR := Lib.hid (L2.out.step hlt HB.out hown' hgrow)
        clear hown' hgrow
        go_wp2_with fail
        go_roundw
        case rel => exact ⟨k + 1, 0, by go_num, rfl, HN2.out.symm, HR.out⟩
        case measure => simp [intOf]; omega
      by_cases h101 : x = 1 ∧ y = 0 ∧ cc = 1
      · obtain ⟨rfl, rfl, rfl⟩ := h101
        have HB : Hid (X / 2 ^ k % 2 = 0) := by
          have h1 := HBIT.out
          have h2 := HZ.out
          show _ = _
          omega
        have HN2 : Hid ((X % 2 ^ (k + 1) + val b0 b1 b2 b3 % 2 ^ (k + 1)) / 2 ^ (k + 1) = 0) := by
          have h1 := HN.out
          have h2 := HBIT.out
          have h3 := HZ.out
          show _ = _
          omega
        go_wp2_with fail
        refine wp_region_after (by kernel_rfl) (by kernel_rfl) ?_
        repeat (go_big_quiet_step ((first | (go_at_call_of 33 ((a0 : Nat) : Int); exact after_call (CA.out _)) | (go_at_call_of 33 ((b0 : Nat) : Int); exact after_call (CB.out _)))))
        refine wpQuiet_nil ?_
        rintro _ ⟨u, rfl⟩
        clear ua0 ua1 ua2 ua3 ub0 ub1 ub2 ub3
        have L2 := Lib.hid (L.later u.below)
        clear L
        generalize u.w = w2 at *
        go_wp2_with (at_builtin; refine wpList_append_own _ rfl _ _ 58 rfl (w.heap.size + _) 3 i0 (.int .i64 0) 1 8 Try.underlying58 hi hz0 hz1 hz2 rfl (by decide) _ _ _ rfl (L2.out.own.alloc _) ⟨w2.heap.size, 0, none⟩ 1 1 [.int .i64 0] rfl rfl (news_one _ _ _) (one_int _ _) ?c3 ?c4 ?c5 ?_)
        case c3 => have := L2.out.le; unfold maxLen; omega
        case c4 => have := L2.out.le; omega
        case c5 => have := L2.out.size; simp at this ⊢; omega
        intro v' w1 hown' hgrow _
        have HR := Lib.hid (L2.out.step hlt HB.out hown' hgrow)
        clear hown' hgrow
        go_wp2_with fail
        go_roundw
        case rel => exact ⟨k + 1, 0, by go_num, rfl, HN2.out.symm, HR.out⟩
        case measure => simp [intOf]; omega
      by_cases h110 : x = 1 ∧ y = 1 ∧ cc = 0
      · obtain ⟨rfl, rfl, rfl⟩ := h110
        have HB : Hid (X / 2 ^ k % 2 = 0) := by
          have h1 := HBIT.out
          have h2 := HZ.out
          show _ = _
          omega
        have HN2 : Hid ((X % 2 ^ (k + 1) + val b0 b1 b2 b3 % 2 ^ (k + 1)) / 2 ^ (k + 1) = 0) := by
          have h1 := HN.out
          have h2 := HBIT.out
          have h3 := HZ.out
          show _ = _
          omega
        go_wp2_with fail
        refine wp_region_after (by kernel_rfl) (by kernel_rfl) ?_
        repeat (go_big_quiet_step ((first | (go_at_call_of 33 ((a0 : Nat) : Int); exact after_call (CA.out _)) | (go_at_call_of 33 ((b0 : Nat) : Int); exact after_call (CB.out _)))))
        refine wpQuiet_nil ?_
        rintro _ ⟨u, rfl⟩
        clear ua0 ua1 ua2 ua3 ub0 ub1 ub2 ub3
        have L2 := Lib.hid (L.later u.below)
        clear L
        generalize u.w = w2 at *
        go_wp2_with (at_builtin; refine wpList_append_own _ rfl _ _ 58 rfl (w.heap.size + _) 3 i0 (.int .i64 0) 1 8 Try.underlying58 hi hz0 hz1 hz2 rfl (by decide) _ _ _ rfl (L2.out.own.alloc _) ⟨w2.heap.size, 0, none⟩ 1 1 [.int .i64 0] rfl rfl (news_one _ _ _) (one_int _ _) ?c3 ?c4 ?c5 ?_)
        case c3 => have := L2.out.le; unfold maxLen; omega
        case c4 => have := L2.out.le; omega
        case c5 => have := L2.out.size; simp at this ⊢; omega
        intro v' w1 hown' hgrow _
        have HR := Lib.hid (L2.out.step hlt HB.out hown' hgrow)
        clear hown' hgrow
        go_wp2_with fail
        go_roundw
        case rel => exact ⟨k + 1, 0, by go_num, rfl, HN2.out.symm, HR.out⟩
        case measure => simp [intOf]; omega
      by_cases h111 : x = 1 ∧ y = 1 ∧ cc = 1
      · obtain ⟨rfl, rfl, rfl⟩ := h111
        have HB : Hid (X / 2 ^ k % 2 = 1) := by
          have h1 := HBIT.out
          have h2 := HZ.out
          show _ = _
          omega
        have HN2 : Hid ((X % 2 ^ (k + 1) + val b0 b1 b2 b3 % 2 ^ (k + 1)) / 2 ^ (k + 1) = 1) := by
          have h1 := HN.out
          have h2 := HBIT.out
          have h3 := HZ.out
          show _ = _
          omega
        go_wp2_with fail
        refine wp_region_after (by kernel_rfl) (by kernel_rfl) ?_
        repeat (go_big_quiet_step ((first | (go_at_call_of 33 ((a0 : Nat) : Int); exact after_call (CA.out _)) | (go_at_call_of 33 ((b0 : Nat) : Int); exact after_call (CB.out _)))))
        refine wpQuiet_nil ?_
        rintro _ ⟨u, rfl⟩
        clear ua0 ua1 ua2 ua3 ub0 ub1 ub2 ub3
        have L2 := Lib.hid (L.later u.below)
        clear L
        generalize u.w = w2 at *
        go_wp2_with (at_builtin; refine wpList_append_own _ rfl _ _ 58 rfl (w.heap.size + _) 3 i0 (.int .i64 0) 1 8 Try.underlying58 hi hz0 hz1 hz2 rfl (by decide) _ _ _ rfl (L2.out.own.alloc _) ⟨w2.heap.size, 0, none⟩ 1 1 [.int .i64 1] rfl rfl (news_one _ _ _) (one_int _ _) ?c3 ?c4 ?c5 ?_)
        case c3 => have := L2.out.le; unfold maxLen; omega
        case c4 => have := L2.out.le; omega
        case c5 => have := L2.out.size; simp at this ⊢; omega
        intro v' w1 hown' hgrow _
        have HR := Lib.hid (L2.out.step hlt HB.out hown' hgrow)
        clear hown' hgrow
        go_wp2_with fail
        go_roundw
        case rel => exact ⟨k + 1, 1, by go_num, rfl, HN2.out.symm, HR.out⟩
        case measure => simp [intOf]; omega
      omega
    · obtain rfl : k = 256 := by have := L.le; omega
      have hend : (cc = 1 ∧ val a0 a1 a2 a3 < val b0 b1 b2 b3) ∨ (cc = 0 ∧ ¬ val a0 a1 a2 a3 < val b0 b1 b2 b3) := by
        have h1 := LA.out
        have h2 := LB.out
        have h3 := HX.out
        rw [show (2 : Nat) ^ 256 = 115792089237316195423570985008687907853269984665640564039457584007913129639936 by decide] at hcc
        omega
      clear hcc
      rcases hend with ⟨rfl, he⟩ | ⟨rfl, he⟩
      · obtain ⟨B, cap, rfl, hB, hBw, hbits⟩ := owned_bits L.own
        have HBITS := Lib.hid hbits
        have L1 := Lib.hid L
        clear hbits L
        go_wp2_with fail
        refine (from_any X B cap _ hB HBITS.out).mono ?_
        rintro e w2 ⟨o0, o1, o2, o3, rfl, wo, vo, hc⟩
        have L2 := Lib.hid (L1.out.later hc)
        have H5 : Holds w2 (w.heap.size + 2) #[.int .u64 0, .int .u64 0, .int .u64 0, .int .u64 0] 25 := L2.out.box 2 _ rfl
        have HV := Lib.hid vo
        clear vo hc HBITS L1 hB
        have d0 : w2.cell? ⟨w.heap.size + 2, 0, none⟩ = some (.int .u64 0) := H5.cell 0
        have z0 : w2.frozen? ⟨w.heap.size + 2, 0, none⟩ = false := H5.free 0
        have d1 : w2.cell? ⟨w.heap.size + 2, 1, none⟩ = some (.int .u64 0) := H5.cell 1
        have z1 : w2.frozen? ⟨w.heap.size + 2, 1, none⟩ = false := H5.free 1
        have d2 : w2.cell? ⟨w.heap.size + 2, 2, none⟩ = some (.int .u64 0) := H5.cell 2
        have z2 : w2.frozen? ⟨w.heap.size + 2, 2, none⟩ = false := H5.free 2
        have d3 : w2.cell? ⟨w.heap.size + 2, 3, none⟩ = some (.int .u64 0) := H5.cell 3
        have z3 : w2.frozen? ⟨w.heap.size + 2, 3, none⟩ = false := H5.free 3
        obtain rfl : o = true := by rw [HO.out]; exact decide_eq_true he
        clear he HO
        go_wp2_with fail
        have b := ((((L2.out.bel.setCell (p := ⟨w.heap.size + 2, 0, none⟩) (by simp) (.int .u64 (o0 : Nat))).setCell (p := ⟨w.heap.size + 2, 1, none⟩) (by simp) (.int .u64 (o1 : Nat))).setCell (p := ⟨w.heap.size + 2, 2, none⟩) (by simp) (.int .u64 (o2 : Nat))).setCell (p := ⟨w.heap.size + 2, 3, none⟩) (by simp) (.int .u64 (o3 : Nat)))
        have HS : Holds ((((w2.setCell ⟨w.heap.size + 2, 0, none⟩ (.int .u64 (o0 : Nat))).setCell ⟨w.heap.size + 2, 1, none⟩ (.int .u64 (o1 : Nat))).setCell ⟨w.heap.size + 2, 2, none⟩ (.int .u64 (o2 : Nat))).setCell ⟨w.heap.size + 2, 3, none⟩ (.int .u64 (o3 : Nat))) (w.heap.size + 2) #[.int .u64 (o0 : Nat), .int .u64 (o1 : Nat), .int .u64 (o2 : Nat), .int .u64 (o3 : Nat)] 25 := (((H5.set _).set _).set _).set _
        have g0 : ((((w2.setCell ⟨w.heap.size + 2, 0, none⟩ (.int .u64 (o0 : Nat))).setCell ⟨w.heap.size + 2, 1, none⟩ (.int .u64 (o1 : Nat))).setCell ⟨w.heap.size + 2, 2, none⟩ (.int .u64 (o2 : Nat))).setCell ⟨w.heap.size + 2, 3, none⟩ (.int .u64 (o3 : Nat))).cell? ⟨w.heap.size + 2, 0, none⟩ = some (.int .u64 (o0 : Nat)) := HS.cell 0
        have g1 : ((((w2.setCell ⟨w.heap.size + 2, 0, none⟩ (.int .u64 (o0 : Nat))).setCell ⟨w.heap.size + 2, 1, none⟩ (.int .u64 (o1 : Nat))).setCell ⟨w.heap.size + 2, 2, none⟩ (.int .u64 (o2 : Nat))).setCell ⟨w.heap.size + 2, 3, none⟩ (.int .u64 (o3 : Nat))).cell? ⟨w.heap.size + 2, 1, none⟩ = some (.int .u64 (o1 : Nat)) := HS.cell 1
        have g2 : ((((w2.setCell ⟨w.heap.size + 2, 0, none⟩ (.int .u64 (o0 : Nat))).setCell ⟨w.heap.size + 2, 1, none⟩ (.int .u64 (o1 : Nat))).setCell ⟨w.heap.size + 2, 2, none⟩ (.int .u64 (o2 : Nat))).setCell ⟨w.heap.size + 2, 3, none⟩ (.int .u64 (o3 : Nat))).cell? ⟨w.heap.size + 2, 2, none⟩ = some (.int .u64 (o2 : Nat)) := HS.cell 2
        have g3 : ((((w2.setCell ⟨w.heap.size + 2, 0, none⟩ (.int .u64 (o0 : Nat))).setCell ⟨w.heap.size + 2, 1, none⟩ (.int .u64 (o1 : Nat))).setCell ⟨w.heap.size + 2, 2, none⟩ (.int .u64 (o2 : Nat))).setCell ⟨w.heap.size + 2, 3, none⟩ (.int .u64 (o3 : Nat))).cell? ⟨w.heap.size + 2, 3, none⟩ = some (.int .u64 (o3 : Nat)) := HS.cell 3
        refine bodyPost_ret (v := .tuple #[.agg #[.int .u64 (o0 : Nat), .int .u64 (o1 : Nat), .int .u64 (o2 : Nat), .int .u64 (o3 : Nat)], .bool true]) (by simp [results, Try.results34, go_sem, g0, g1, g2, g3]) rfl ⟨o0, o1, o2, o3, rfl, wo, HV.out, b⟩
      · obtain ⟨B, cap, rfl, hB, hBw, hbits⟩ := owned_bits L.own
        have HBITS := Lib.hid hbits
        have L1 := Lib.hid L
        clear hbits L
        go_wp2_with fail
        refine (from_any X B cap _ hB HBITS.out).mono ?_
        rintro e w2 ⟨o0, o1, o2, o3, rfl, wo, vo, hc⟩
        have L2 := Lib.hid (L1.out.later hc)
        have H5 : Holds w2 (w.heap.size + 2) #[.int .u64 0, .int .u64 0, .int .u64 0, .int .u64 0] 25 := L2.out.box 2 _ rfl
        have HV := Lib.hid vo
        clear vo hc HBITS L1 hB
        have d0 : w2.cell? ⟨w.heap.size + 2, 0, none⟩ = some (.int .u64 0) := H5.cell 0
        have z0 : w2.frozen? ⟨w.heap.size + 2, 0, none⟩ = false := H5.free 0
        have d1 : w2.cell? ⟨w.heap.size + 2, 1, none⟩ = some (.int .u64 0) := H5.cell 1
        have z1 : w2.frozen? ⟨w.heap.size + 2, 1, none⟩ = false := H5.free 1
        have d2 : w2.cell? ⟨w.heap.size + 2, 2, none⟩ = some (.int .u64 0) := H5.cell 2
        have z2 : w2.frozen? ⟨w.heap.size + 2, 2, none⟩ = false := H5.free 2
        have d3 : w2.cell? ⟨w.heap.size + 2, 3, none⟩ = some (.int .u64 0) := H5.cell 3
        have z3 : w2.frozen? ⟨w.heap.size + 2, 3, none⟩ = false := H5.free 3
        obtain rfl : o = false := by rw [HO.out]; exact decide_eq_false he
        clear he HO
        go_wp2_with fail
        have b := ((((L2.out.bel.setCell (p := ⟨w.heap.size + 2, 0, none⟩) (by simp) (.int .u64 (o0 : Nat))).setCell (p := ⟨w.heap.size + 2, 1, none⟩) (by simp) (.int .u64 (o1 : Nat))).setCell (p := ⟨w.heap.size + 2, 2, none⟩) (by simp) (.int .u64 (o2 : Nat))).setCell (p := ⟨w.heap.size + 2, 3, none⟩) (by simp) (.int .u64 (o3 : Nat)))
        have HS : Holds ((((w2.setCell ⟨w.heap.size + 2, 0, none⟩ (.int .u64 (o0 : Nat))).setCell ⟨w.heap.size + 2, 1, none⟩ (.int .u64 (o1 : Nat))).setCell ⟨w.heap.size + 2, 2, none⟩ (.int .u64 (o2 : Nat))).setCell ⟨w.heap.size + 2, 3, none⟩ (.int .u64 (o3 : Nat))) (w.heap.size + 2) #[.int .u64 (o0 : Nat), .int .u64 (o1 : Nat), .int .u64 (o2 : Nat), .int .u64 (o3 : Nat)] 25 := (((H5.set _).set _).set _).set _
        have g0 : ((((w2.setCell ⟨w.heap.size + 2, 0, none⟩ (.int .u64 (o0 : Nat))).setCell ⟨w.heap.size + 2, 1, none⟩ (.int .u64 (o1 : Nat))).setCell ⟨w.heap.size + 2, 2, none⟩ (.int .u64 (o2 : Nat))).setCell ⟨w.heap.size + 2, 3, none⟩ (.int .u64 (o3 : Nat))).cell? ⟨w.heap.size + 2, 0, none⟩ = some (.int .u64 (o0 : Nat)) := HS.cell 0
        have g1 : ((((w2.setCell ⟨w.heap.size + 2, 0, none⟩ (.int .u64 (o0 : Nat))).setCell ⟨w.heap.size + 2, 1, none⟩ (.int .u64 (o1 : Nat))).setCell ⟨w.heap.size + 2, 2, none⟩ (.int .u64 (o2 : Nat))).setCell ⟨w.heap.size + 2, 3, none⟩ (.int .u64 (o3 : Nat))).cell? ⟨w.heap.size + 2, 1, none⟩ = some (.int .u64 (o1 : Nat)) := HS.cell 1
        have g2 : ((((w2.setCell ⟨w.heap.size + 2, 0, none⟩ (.int .u64 (o0 : Nat))).setCell ⟨w.heap.size + 2, 1, none⟩ (.int .u64 (o1 : Nat))).setCell ⟨w.heap.size + 2, 2, none⟩ (.int .u64 (o2 : Nat))).setCell ⟨w.heap.size + 2, 3, none⟩ (.int .u64 (o3 : Nat))).cell? ⟨w.heap.size + 2, 2, none⟩ = some (.int .u64 (o2 : Nat)) := HS.cell 2
        have g3 : ((((w2.setCell ⟨w.heap.size + 2, 0, none⟩ (.int .u64 (o0 : Nat))).setCell ⟨w.heap.size + 2, 1, none⟩ (.int .u64 (o1 : Nat))).setCell ⟨w.heap.size + 2, 2, none⟩ (.int .u64 (o2 : Nat))).setCell ⟨w.heap.size + 2, 3, none⟩ (.int .u64 (o3 : Nat))).cell? ⟨w.heap.size + 2, 3, none⟩ = some (.int .u64 (o3 : Nat)) := HS.cell 3
        refine bodyPost_ret (v := .tuple #[.agg #[.int .u64 (o0 : Nat), .int .u64 (o1 : Nat), .int .u64 (o2 : Nat), .int .u64 (o3 : Nat)], .bool false]) (by simp [results, Try.results34, go_sem, g0, g1, g2, g3]) rfl ⟨o0, o1, o2, o3, rfl, wo, HV.out, b⟩

end Go.Proofs.Ytnipajfglmahiaa
