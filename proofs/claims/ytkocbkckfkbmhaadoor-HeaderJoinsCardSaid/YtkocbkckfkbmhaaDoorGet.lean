/- header.Get: which header bytes are. No condition. -/
import Derived.Test.YtkocbkckfkbmhaaDoorGetL
namespace Go.Proofs.YtkocbkckfkbmhaaDoor
open Go.RowKit

set_option maxRecDepth 100000 in
set_option maxHeartbeats 4000000 in
theorem get_any {A : Option Addr} {n c : Nat} {L : List Nat} (w : World) (hn : n = 80) (hnc : n ≤ c) (hL : Bs w A n L) : Calls Tryd.prog 12 #[.slice A n c] w fun e w' => e = .returned (.tuple #[.agg (hdV (getH L)).toArray, .int .i64 0]) ∧ Below w.heap.size w w' := by
  subst hn
  obtain ⟨a, rfl, hab, hcel⟩ := hL.cel (by decide)
  have z0 := zeroHd
  have z1 := (Below.refl w.heap.size w).alloc (Nat.le_refl _) (.cells (hdV zeroH).toArray 26)
  have R1 := Ro.new (w.alloc (.cells (hdV zeroH).toArray 26)) 26 (hdV zeroH)
  rw [World.size_alloc] at R1
  have G0 : Hid (GetAt w L 0 ((w.alloc (.cells (hdV zeroH).toArray 26)).alloc (.cells (hdV zeroH).toArray 26))) := Lib.hid ⟨(Ro.new w 26 (hdV zeroH)).alloc (.cells (hdV zeroH).toArray 26), R1, z1.alloc z1.size (.cells (hdV zeroH).toArray 26)⟩
  have HL := Lib.hid hL
  have HC := Lib.hid hcel
  clear z1 R1 hL hcel
  go_enter Tryd.func12, Tryd.ntmps12
  go_wp2_with fail
  refine (numbers_any _ _).mono ?_
  rintro e w2 ⟨rfl, hb⟩
  have G2 : Hid (GetAt w L 0 w2) := Lib.hid ⟨G0.out.rs.later hb, G0.out.hd.later hb, G0.out.bel.trans (hb.mono G0.out.bel.size)⟩
  clear hb G0 z0
  obtain ⟨NV, hNV⟩ : ∃ N, (numV (w.heap.size + 1)).toArray = N := ⟨_, rfl⟩
  rw [hNV]
  have IX : Hid (∀ k, k < 4 → ∀ w1, (Instr.index 57 (.agg NV) (.int .i64 (k : Nat))).run Tryd.prog w1 = .ok (.agg #[.int .i64 (atN k : Nat), .pointer (some ⟨w.heap.size + 1, poN k, none⟩)]) w1) := Lib.hid (fun k hk w1 => by rw [← hNV]; exact index_num _ hk w1)
  clear hNV
  go_wp2_with fail
  go_loopw [13] (fun i wr => ∃ k : Nat, k ≤ 4 ∧ i = .int .i64 (k : Nat) ∧ GetAt w L k wr) (fun i _ => 4 - (intOf i).toNat)
  case atStart => exact ⟨0, Nat.zero_le _, rfl, G2.out⟩
  case round =>
    clear G2
    obtain ⟨k, hk, rfl, P⟩ := hrel
    have HP := Lib.hid P
    clear P
    by_cases hlt : k < 4
    · have ix := IX.out k hlt
      obtain ⟨at_, hat⟩ : ∃ x, atN k = x := ⟨_, rfl⟩
      obtain ⟨po, hpo⟩ : ∃ x, poN k = x := ⟨_, rfl⟩
      rw [hat, hpo] at ix
      have HA := Lib.hid hat
      have HPO := Lib.hid hpo
      have a76 : at_ ≤ 76 := by subst hat; rcases four hlt with rfl | rfl | rfl | rfl <;> decide
      clear hat hpo
      go_wp2_with fail
      have I0 : Hid (GIn w L k 0 wr.heap.size (wr.alloc (.cells #[.int .i64 (at_ : Nat), .pointer (some ⟨w.heap.size + 1, po, none⟩)] 56))) := Lib.hid ⟨HP.out.rs.alloc _, by rw [numJ, putN_zero L hlt]; exact HP.out.hd.alloc _, by rw [HA.out, HPO.out]; exact Ro.new _ _ _, HP.out.bel.alloc HP.out.bel.size _, by have := HP.out.hd.lt; omega⟩
      obtain ⟨xb, hxb⟩ : ∃ b, b = wr.heap.size := ⟨_, rfl⟩
      rw [← hxb] at I0 ⊢
      go_loopw [16] (fun i wr => ∃ j : Nat, j ≤ 4 ∧ i = .int .i64 (j : Nat) ∧ GIn w L k j xb wr) (fun i _ => 4 - (intOf i).toNat)
      case atStart => exact ⟨0, Nat.zero_le _, rfl, I0.out⟩
      case round =>
        clear I0 HP hxb
        obtain ⟨j, hj, rfl, I⟩ := hrel
        have HI := Lib.hid I
        clear I
        by_cases hlt2 : j < 4
        · have c0 := HI.out.hd.cell (hdV_no' (by rw [(putN_p _ _ _).1, (gotH_p L k).1]; rfl) (by rw [(putN_p _ _ _).2, (gotH_p L k).2]; rfl) hlt)
          rw [no_put hlt, HPO.out, HA.out] at c0
          have f0 := HI.out.hd.free po
          have c1 := HI.out.xs.cell (k := 0) rfl
          have c2 := HI.out.xs.cell (k := 1) rfl
          rw [HA.out] at c1
          rw [HPO.out] at c2
          have c3 : wr.cell? (a.add (at_ + j)) = some (.int .u8 (nth L (at_ + j) : Nat)) := by rw [← HC.out (at_ + j) (by omega)]; exact HI.out.bel.cell (by rw [add_block]; exact hab)
          obtain ⟨x, hx⟩ : ∃ x, nth L (at_ + j) = x := ⟨_, rfl⟩
          obtain ⟨y, hy⟩ : ∃ y, numJ L at_ j = y := ⟨_, rfl⟩
          have x256 : x < 256 := by rw [← hx]; exact nth_lt HL.out.byt _
          have y256 : y < 256 ^ j := by rw [← hy]; exact numJ_lt HL.out.byt _ _
          have or1 := or_u32 y x hlt2 y256 x256
          have nx : Hid (numJ L (atN k) (j + 1) = y + x * 256 ^ j) := Lib.hid (by rw [HA.out, numJ, hx, hy])
          rw [hx] at c3
          rw [hy] at c0
          clear hx hy
          rcases four hlt2 with rfl | rfl | rfl | rfl
          · simp only [Nat.add_zero, Nat.pow_zero, Nat.mul_one] at c3 or1 y256
            obtain rfl : y = 0 := by omega
            have OR := Lib.hid or1
            clear or1
            go_wp2_with fail
            go_region
            go_wp2_with fail
            go_roundw
            case rel => exact ⟨1, by omega, by go_num, HI.out.next hlt HPO.out (by rw [nx.out]; have := OR.out; simpa using this)⟩
            case measure => simp [intOf]
          · have c4 : wr.cell? ⟨a.block, a.off + (at_ + 1), none⟩ = some (.int .u8 (x : Nat)) := by rw [← c3]; unfold Addr.add; rw [if_neg (by omega)]
            have OR := Lib.hid or1
            clear c3 or1
            go_wp2_with fail
            go_region
            go_wp2_with fail
            go_roundw
            case rel => exact ⟨2, by omega, by go_num, HI.out.next hlt HPO.out (by rw [nx.out]; have := OR.out; simpa using this)⟩
            case measure => simp [intOf]
          · have c4 : wr.cell? ⟨a.block, a.off + (at_ + 2), none⟩ = some (.int .u8 (x : Nat)) := by rw [← c3]; unfold Addr.add; rw [if_neg (by omega)]
            have OR := Lib.hid or1
            clear c3 or1
            go_wp2_with fail
            go_region
            go_wp2_with fail
            go_roundw
            case rel => exact ⟨3, by omega, by go_num, HI.out.next hlt HPO.out (by rw [nx.out]; have := OR.out; simpa using this)⟩
            case measure => simp [intOf]
          · have c4 : wr.cell? ⟨a.block, a.off + (at_ + 3), none⟩ = some (.int .u8 (x : Nat)) := by rw [← c3]; unfold Addr.add; rw [if_neg (by omega)]
            have OR := Lib.hid or1
            clear c3 or1
            go_wp2_with fail
            go_region
            go_wp2_with fail
            go_roundw
            case rel => exact ⟨4, by omega, by go_num, HI.out.next hlt HPO.out (by rw [nx.out]; have := OR.out; simpa using this)⟩
            case measure => simp [intOf]
        · obtain rfl : j = 4 := by omega
          go_wp2_with fail
          exact ⟨⟨k + 1, by omega, by go_num, HI.out.rs, by rw [gotH, ← numJ_four]; exact HI.out.hd, HI.out.bel⟩, by simp [intOf]; omega⟩
    · obtain rfl : k = 4 := by omega
      have n4 : ¬ c = 4 := by omega
      have n36 : ¬ c = 36 := by omega
      go_wp2_with fail
      go_still_tail 4, (by kernel_rfl)
      have bd : ∀ u : World, Below u.heap.size u u.drew := fun u => (Below.refl _ _).drew
      refine wpList_copy_ro rfl (.tmp 39) (.tmp 41) rfl (b := w.heap.size + 1) (k := 1) (m := 32) (n := 76) (c1 := 32) (c2 := c - 4) (A := some ⟨a.block, a.off + 4, none⟩) (M := L.drop 4) (q := 32) (S := 26) (zs := hdV (gotH L 4)) rfl rfl (HP.out.hd.later (bd wr)) ((HL.out.later (HP.out.bel.drew)).from (by decide) (by decide) (by decide)) (by rw [hdV_len' (by rw [(gotH_p L 4).1]; rfl) (by rw [(gotH_p L 4).2]; rfl)]; decide) rfl ?_
      intro w4 R4 g4
      rw [hd_splice_p (by rw [(gotH_p L 4).1]; rfl) (by rw [List.length_take, List.length_drop, HL.out.len]; rfl)] at R4
      have P4 : Hid (Ro w4 w.heap.size 26 (hdV zeroH) ∧ Below w.heap.size w w4) := Lib.hid ⟨(HP.out.rs.later (bd wr)).far g4 (fun e => by injection e; omega), HP.out.bel.drew.grown g4 (Nat.le_trans HP.out.bel.size (Nat.le_refl _)) (fun q e => by injection e; omega)⟩
      have HR4 := Lib.hid R4
      clear HP R4 g4
      go_wp2_with fail
      go_still_tail 4, (by kernel_rfl)
      refine wpList_copy_ro rfl (.tmp 44) (.tmp 46) rfl (b := w.heap.size + 1) (k := 33) (m := 32) (n := 44) (c1 := 32) (c2 := c - 36) (A := some ⟨a.block, a.off + 36, none⟩) (M := L.drop 36) (q := 32) (S := 26) (zs := hdV { gotH L 4 with p := (L.drop 4).take 32 }) rfl rfl (HR4.out.later (bd w4)) ((HL.out.later (P4.out.2.drew)).from (by decide) (by decide) (by decide)) (by rw [hdV_len' (by show ((L.drop 4).take 32).length = 32; rw [List.length_take, List.length_drop, HL.out.len]; rfl) (by rw [(gotH_p L 4).2]; rfl)]; decide) rfl ?_
      intro w5 R5 g5
      rw [hd_splice_r (by show ((L.drop 4).take 32).length = 32; rw [List.length_take, List.length_drop, HL.out.len]; rfl) (by rw [(gotH_p L 4).2]; rfl) (by rw [List.length_take, List.length_drop, HL.out.len]; rfl)] at R5
      have e5 : ({ ({ gotH L 4 with p := (L.drop 4).take 32 } : Hd) with r := (L.drop 36).take 32 } : Hd) = getH L := by rw [gotH_four]; rfl
      rw [e5] at R5
      have P5 : Hid (Ro w5 w.heap.size 26 (hdV zeroH) ∧ Below w.heap.size w w5) := Lib.hid ⟨(P4.out.1.later (bd w4)).far g5 (fun e => by injection e; omega), P4.out.2.drew.grown g5 (Nat.le_trans P4.out.2.size (Nat.le_refl _)) (fun q e => by injection e; omega)⟩
      have HR5 := Lib.hid R5
      have lG : Hid ((hdV (getH L)).length = 68) := Lib.hid (hdV_len (getH_ok HL.out.byt HL.out.len))
      clear P4 HR4 R5 g5 e5 bd n4 n36
      go_wp2_with (first | (refine wpList_load_ro rfl (.tmp 4) rfl rfl rowHd HR5.out lG.out ?_) | (refine wpList_store_ro rfl (.tmp 2) (.tmp 48) rfl rfl rfl rowHd P5.out.1 rfl lG.out (hdV_one _) ?_))
      intro w6 R6 g6
      go_wp2_with fail
      exact bodyPost_ret (results_ro2 Tryd.results12 _ rfl rowHd R6 lG.out rfl) rfl ⟨rfl, P5.out.2.grown g6 P5.out.2.size (fun q e => by injection e; omega)⟩
end Go.Proofs.YtkocbkckfkbmhaaDoor
