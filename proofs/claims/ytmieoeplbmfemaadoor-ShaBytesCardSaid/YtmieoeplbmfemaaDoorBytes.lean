/- ShaBytes: bytes that are added one by one. No condition but the statement's own. -/
import Derived.Test.YtmieoeplbmfemaaDoorSums
import Derived.Test.YtmieoeplbmfemaaDoorLast
import Derived.Test.YtmieoeplbmfemaaDoorSeg
namespace Go.Proofs.YtmieoeplbmfemaaDoor
open Go.RowKit

theorem stateL_nil : stateL [] = stV (List.replicate 8 0) (List.replicate 64 0) 0 := rfl

set_option maxRecDepth 100000 in
set_option maxHeartbeats 8000000 in
theorem bytes_law {A : Option Addr} {n c : Nat} {L : List Nat} {w : World} (hc : n ≤ c) (_ : c ≤ 9223372036854775807) (hL : Bs w A n L) (hLd : Laid w) :
    Calls Tryd.prog 7 #[.slice A n c] w fun e w' => e = .returned (.bool true) ∧ Below w.heap.size w w' := by
  have HD := Lib.hid hLd
  have HL := Lib.hid hL
  clear hLd hL
  go_enter Tryd.func7, Tryd.ntmps7
  by_cases hbig : 4096 < n
  · have t1 : decide ((4096 : Int) < (n : Int)) = true := decide_eq_true (by omega)
    go_wp2_with fail
    refine (works_any _ HD.out).mono ?_
    rintro e w1 ⟨rfl, hb⟩
    have HB := Lib.hid hb
    clear hb
    go_wp2_with fail
    go_ret
    exact ⟨rfl, HB.out⟩
  · have t1 : decide ((4096 : Int) < (n : Int)) = false := decide_eq_false (by omega)
    have z0 := zero38
    have R0 := Lib.hid (Ro.new w 38 (stV (List.replicate 8 0) (List.replicate 64 0) 0))
    have G0 := Lib.hid ((Below.refl w.heap.size w).alloc (Nat.le_refl _) (.cells (stV (List.replicate 8 0) (List.replicate 64 0) 0).toArray 38))
    go_wp2_with fail
    clear z0
    go_loopw [4] (fun i wr => ∃ k : Nat, k ≤ n ∧ i = .int .i64 (k : Nat) ∧ Ro wr w.heap.size 38 (stateL (L.take k)) ∧ Below w.heap.size w wr) (fun i _ => n - (intOf i).toNat)
    case atStart => exact ⟨0, Nat.zero_le _, rfl, by rw [List.take_zero, stateL_nil]; exact R0.out, G0.out⟩
    case round =>
      clear R0 G0
      obtain ⟨k, hk, rfl, R, B⟩ := hrel
      have HR := Lib.hid R
      have HB := Lib.hid B
      clear R B
      by_cases hlt : k < n
      · have t2 : decide ((k : Int) < (n : Int)) = true := decide_eq_true (by omega)
        have ek : L.take (k + 1) = L.take k ++ (L.drop k).take 1 := List.take_add
        obtain ⟨S1, hS1⟩ : ∃ S, stateL (L.take k) = S := ⟨_, rfl⟩
        obtain ⟨S2, hS2⟩ : ∃ S, stateL (L.take (k + 1)) = S := ⟨_, rfl⟩
        have bt : ∀ j, AllB (L.take j) := fun j x hx => HL.out.byt x (List.mem_of_mem_take hx)
        have ll : ∀ j, (L.take j).length ≤ 4096 := fun j => by rw [List.length_take, HL.out.len]; omega
        have l1 : ((L.drop k).take 1).length = 1 := by rw [List.length_take, List.length_drop, HL.out.len]; omega
        have SL1 : Hid (S1.length = 73) := Lib.hid (by rw [← hS1]; exact stateL_len _)
        have SL2 : Hid (S2.length = 73) := Lib.hid (by rw [← hS2]; exact stateL_len _)
        have SO2 : Hid (∀ u ∈ S2, u.oneCell' = true) := Lib.hid (by rw [← hS2]; exact stateL_one _)
        have H2 := Lib.hid hS2
        have CA : Hid (∀ (u : World), Below w.heap.size w u → Calls Tryd.prog 16 #[.agg S1.toArray, .slice (A.map (·.add k)) 1 (c - k)] u fun e w' => e = .returned (.agg S2.toArray) ∧ Below u.heap.size u w') := Lib.hid (fun u b => by
          have hb := (HL.out.later b).cut (c := c) (k := k) (m := 1) (by omega) hc
          rw [if_neg (by omega)] at hb
          rw [← hS1, ← hS2, ek, ← stateV_def, ← stateV_def]
          exact addm_st l1 (bt k) (fun x hx => HL.out.byt x (List.mem_of_mem_drop (List.mem_of_mem_take hx))) (by have := ll k; omega) (by decide) u (HD.out.later HD.out.lt b) hb (by omega))
        have CN : Hid (∀ (u : World), Below w.heap.size w u → Calls Tryd.prog 16 #[.agg S2.toArray, .slice none 0 0] u fun e w' => e = .returned (.agg S2.toArray) ∧ Below u.heap.size u w') := Lib.hid (fun u b => by
          rw [← hS2, ← stateV_def]
          have h := addm_st (L := L.take (k + 1)) (M := []) (m := 0) (c := 0) rfl (bt (k + 1)) allB_nil (by have := ll (k + 1); omega) (by decide) u (HD.out.later HD.out.lt b) (Bs.nil u none) (Nat.le_refl _)
          rw [List.append_nil] at h
          exact h)
        rw [hS1] at HR
        clear hS1 hS2 ek bt ll l1
        have v1 : IntKind.i64.wrap ((k : Int) + 1) = (k : Int) + 1 := by rw [IntKind.wrap_i64]; omega
        have v2 : ((k : Int) + 1).toNat = k + 1 := by omega
        go_wp2_with fail
        refine wp_region_last 8 (by kernel_rfl) (Nat.le_of_ble_eq_true (by kernel_rfl)) (by kernel_rfl) (by kernel_rfl) (by kernel_rfl) (by kernel_rfl) (fun _ _ _ _ _ h => h) ?_
        apply Exists.intro
        refine ⟨?_, ?_⟩
        · intro wg hg
          simp only [List.take_succ_cons, List.take_zero]
          have E1 : Hid (∀ u : After wg, Calls Tryd.prog 16 #[.agg S1.toArray, .slice (A.map (·.add k)) 1 (c - k)] u.w fun e w' => e = .returned (.agg S2.toArray) ∧ Below u.w.heap.size u.w w') := Lib.hid (fun u => CA.out u.w ((HB.out.trans (hg.mono HB.out.size)).trans (u.below.mono (Nat.le_trans HB.out.size hg.size))))
          have E2 : Hid (∀ u : After wg, Calls Tryd.prog 16 #[.agg S2.toArray, .slice none 0 0] u.w fun e w' => e = .returned (.agg S2.toArray) ∧ Below u.w.heap.size u.w w') := Lib.hid (fun u => CN.out u.w ((HB.out.trans (hg.mono HB.out.size)).trans (u.below.mono (Nat.le_trans HB.out.size hg.size))))
          have HG := Lib.hid (HR.out.later hg)
          go_big_quiet_want
          refine quiet_load_part (.tmp 3) rfl rfl row38 (fun w9 h9 => by obtain ⟨u, rfl⟩ := h9; exact rangeAt_later HG.out HG.out.whole u.below) SL1.out ?_
          simp only [Act.put, List.setIfInBounds_toArray, List.set_cons_succ, List.set_cons_zero]
          go_big_quiet_on
          repeat (go_big_quiet_step (fail))
          go_big_quiet_step (exact after_call (E1.out _))
          go_big_quiet_step (exact after_call (E2.out _))
          refine wpQuiet_nil ?_
          exact rfl
        intro wg hg
        simp only [List.drop_succ_cons, List.drop_zero]
        have HG := Lib.hid (HR.out.later hg)
        have BG := Lib.hid (HB.out.trans (hg.mono HB.out.size))
        clear hg HR HB
        refine wpList_store_ro rfl (.tmp 3) (.tmp 22) rfl rfl rfl row38 HG.out SL1.out SL2.out SO2.out ?_
        intro wh R3 g3
        have R4 := Lib.hid R3
        have B4 := Lib.hid (BG.out.grown g3 BG.out.size (fun q e => by injection e; omega))
        clear R3 g3 HG BG
        go_wp2_with fail
        exact ⟨⟨k + 1, by omega, by go_num, by rw [H2.out]; exact R4.out, B4.out⟩, by simp [intOf]; omega⟩
      · obtain rfl : k = n := by omega
        have eL : L.take k = L := List.take_of_length_le (by rw [HL.out.len]; exact Nat.le_refl _)
        rw [eL] at HR
        obtain ⟨S1, hS1⟩ : ∃ S, stateL L = S := ⟨_, rfl⟩
        obtain ⟨G, hG⟩ : ∃ S, shaS L = S := ⟨_, rfl⟩
        have lL := HL.out.len
        have SL1 : Hid (S1.length = 73) := Lib.hid (by rw [← hS1]; exact stateL_len _)
        have GL : Hid (G.length = 32) := Lib.hid (by rw [← hG]; exact shaS_len _)
        have CE : Hid (∀ (u : World), Below w.heap.size w u → Calls Tryd.prog 17 #[.agg S1.toArray] u fun e w' => e = .returned (.agg (vals G).toArray) ∧ Below u.heap.size u w') := Lib.hid (fun u b => by
          rw [← hS1, ← stateV_def, ← hG]
          exact end_st HL.out.byt (by omega) u (HD.out.later HD.out.lt b))
        have CS : Hid (∀ (u : World), Below w.heap.size w u → Calls Tryd.prog 10 #[.slice A k c] u fun e w' => e = .returned (.agg (vals G).toArray) ∧ Below u.heap.size u w') := Lib.hid (fun u b => by
          rw [← hG]
          exact sum_st lL HL.out.byt (by omega) u (HD.out.later HD.out.lt b) (HL.out.later b) hc)
        have CN : Hid (∀ (u : World) (a : Addr), Below w.heap.size w u → Calls Tryd.prog 16 #[.agg S1.toArray, .slice (some a) 0 0] u fun e w' => e = .returned (.agg S1.toArray) ∧ Below u.heap.size u w') := Lib.hid (fun u a b => by
          rw [← hS1, ← stateV_def]
          have h := addm_st (L := L) (M := []) (m := 0) (c := 0) rfl HL.out.byt allB_nil (by omega) (by decide) u (HD.out.later HD.out.lt b) (Bs.nil u (some a)) (Nat.le_refl _)
          rw [List.append_nil] at h
          exact h)
        have CW : Hid (∀ (u : World), Below w.heap.size w u → Calls Tryd.prog 8 #[] u fun e w' => e = .returned (.bool true) ∧ Below u.heap.size u w') := Lib.hid (fun u b => works_any u (HD.out.later HD.out.lt b))
        rw [hS1] at HR
        clear hS1 hG eL lL
        go_wp2_with fail
        have EQ := eq_same GL.out
        refine wp_region_seg (W := wr) (by kernel_rfl) fun wa ga => ?_
        refine wpK_seg 0 7 (f := 11) (by kernel_rfl) (fun _ _ _ _ _ h => h) (by kernel_rfl) (by kernel_rfl) (by kernel_rfl) ga ?_
        apply Exists.intro
        refine ⟨?_, ?_⟩
        · intro wg hg
          simp only [List.drop_zero, List.take_succ_cons, List.take_zero]
          have BU : Hid (∀ u : After wg, Below w.heap.size w u.w) := Lib.hid (fun u => (HB.out.trans (hg.mono HB.out.size)).trans (u.below.mono (Nat.le_trans HB.out.size hg.size)))
          have HG := Lib.hid (HR.out.later hg)
          go_big_quiet_want
          refine quiet_load_part (.tmp 3) rfl rfl row38 (fun w9 h9 => by obtain ⟨u, rfl⟩ := h9; exact rangeAt_later HG.out HG.out.whole u.below) SL1.out ?_
          simp only [Act.put, List.setIfInBounds_toArray, List.set_cons_succ, List.set_cons_zero]
          go_big_quiet_on
          go_big_quiet_step (exact after_call (CE.out _ (BU.out _)))
          go_big_quiet_step (fail)
          go_big_quiet_step (exact after_call (CS.out _ (BU.out _)))
          go_big_quiet_step (fail)
          go_big_quiet_step (fail)
          go_big_quiet_want
          refine quiet_load_part (.tmp 3) rfl rfl row38 (fun w9 h9 => by obtain ⟨u, rfl⟩ := h9; exact rangeAt_later HG.out HG.out.whole u.below) SL1.out ?_
          simp only [Act.put, List.setIfInBounds_toArray, List.set_cons_succ, List.set_cons_zero]
          go_big_quiet_on
          refine wpQuiet_nil ?_
          exact rfl
        refine wpK_seg 10 1 (f := 10) (by kernel_rfl) (fun _ _ _ _ _ h => h) (by kernel_rfl) (by kernel_rfl) (by kernel_rfl) ga ?_
        apply Exists.intro
        refine ⟨?_, ?_⟩
        · intro wg hg
          simp only [List.drop_succ_cons, List.drop_zero, List.take_succ_cons, List.take_zero]
          have HG := Lib.hid (HR.out.later hg)
          go_big_quiet_want
          refine quiet_load_part (.tmp 3) rfl rfl row38 (fun w9 h9 => by obtain ⟨u, rfl⟩ := h9; exact rangeAt_later HG.out HG.out.whole u.below) SL1.out ?_
          simp only [Act.put, List.setIfInBounds_toArray, List.set_cons_succ, List.set_cons_zero]
          go_big_quiet_on
          refine wpQuiet_nil ?_
          exact rfl
        refine wpK_call_want (f := 9) (i := 7) (by kernel_rfl) rfl (by rfl) ga ?_
        intro wb gb K hK
        go_simp
        have GN := Lib.hid (Grows.trans gb ((Below.refl _ _).alloc (Nat.le_refl _) (.cells #[] 5)))
        refine hK _ _ ((Below.refl _ _).alloc (Nat.le_refl _) (.cells #[] 5)) ?_
        clear hK K
        refine wpK_from GN.out _ _ _ _ ?_
        obtain ⟨wn, hwn⟩ : ∃ wn, wn = wb.alloc (.cells #[] 5) := ⟨_, rfl⟩
        rw [← hwn] at GN ⊢
        clear hwn
        have BN := Lib.hid (HB.out.trans (GN.out.mono HB.out.size))
        refine wpK_seg 8 2 (f := 7) (by kernel_rfl) (fun _ _ _ _ _ h => h) (by kernel_rfl) (by kernel_rfl) (by kernel_rfl) (Grows.refl wn) ?_
        apply Exists.intro
        refine ⟨?_, ?_⟩
        · intro wg hg
          simp only [List.drop_succ_cons, List.drop_zero, List.take_succ_cons, List.take_zero]
          have BU : Hid (∀ u : After wg, Below w.heap.size w u.w) := Lib.hid (fun u => (BN.out.trans (hg.mono BN.out.size)).trans (u.below.mono (Nat.le_trans BN.out.size hg.size)))
          go_big_quiet_step (exact after_call (CN.out _ _ (BU.out _)))
          go_big_quiet_step (exact after_call (CE.out _ (BU.out _)))
          refine wpQuiet_nil ?_
          exact rfl
        refine wpK_seg 11 7 (f := 0) (by kernel_rfl) (fun _ _ _ _ _ h => h) (by kernel_rfl) (by kernel_rfl) (by kernel_rfl) (Grows.refl wn) ?_
        apply Exists.intro
        refine ⟨?_, ?_⟩
        · intro wg hg
          simp only [List.drop_succ_cons, List.drop_zero, List.take_succ_cons, List.take_zero]
          have BU : Hid (∀ u : After wg, Below w.heap.size w u.w) := Lib.hid (fun u => (BN.out.trans (hg.mono BN.out.size)).trans (u.below.mono (Nat.le_trans BN.out.size hg.size)))
          go_big_quiet_step (exact after_call (CE.out _ (BU.out _)))
          repeat (go_big_quiet_step (exact after_call (CW.out _ (BU.out _))))
          refine wpQuiet_nil ?_
          exact rfl
        refine wpK_end (by kernel_rfl) fun wz gz => ?_
        have Bz := Lib.hid (BN.out.trans (gz.mono BN.out.size))
        go_wp2_with fail
        go_ret
        exact ⟨rfl, Bz.out⟩
end Go.Proofs.YtmieoeplbmfemaaDoor
