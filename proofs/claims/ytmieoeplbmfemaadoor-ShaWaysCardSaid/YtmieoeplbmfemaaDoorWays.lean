/- ShaWays: a state goes on in two ways. No condition but the statement's own. -/
import Derived.Test.YtmieoeplbmfemaaDoorSums
namespace Go.Proofs.YtmieoeplbmfemaaDoor
open Go.RowKit

set_option maxRecDepth 100000 in
set_option maxHeartbeats 8000000 in
theorem ways_law {A1 A2 A3 : Option Addr} {n m k c1 c2 c3 : Nat} {L M K : List Nat} {w : World} (hc1 : n ≤ c1) (_ : c1 ≤ 9223372036854775807) (hL : Bs w A1 n L) (hc2 : m ≤ c2) (_ : c2 ≤ 9223372036854775807) (hM : Bs w A2 m M) (hc3 : k ≤ c3) (_ : c3 ≤ 9223372036854775807) (hK : Bs w A3 k K) (hLd : Laid w) :
    Calls Tryd.prog 6 #[.slice A1 n c1, .slice A2 m c2, .slice A3 k c3] w fun e w' => e = .returned (.bool true) ∧ Below w.heap.size w w' := by
  have HD := Lib.hid hLd
  have HL := Lib.hid hL
  have HM := Lib.hid hM
  have HK := Lib.hid hK
  clear hLd hL hM hK
  have fin : ∀ w1, Below w.heap.size w w1 → Calls Tryd.prog 8 #[] w1 fun e w' => e = .returned (.bool true) ∧ Below w.heap.size w w' := fun w1 b => (works_any w1 (HD.out.later HD.out.lt b)).mono fun e w' ⟨h1, h2⟩ => ⟨h1, b.trans (h2.mono b.size)⟩
  have FIN := Lib.hid fin
  clear fin
  by_cases hbig : 4096 < n ∨ 4096 < m ∨ 4096 < k
  · have tail : ∀ (b1 b2 b3 : Bool), decide ((4096 : Int) < (n : Int)) = b1 → decide ((4096 : Int) < (m : Int)) = b2 → decide ((4096 : Int) < (k : Int)) = b3 → (b1 || b2 || b3) = true → Calls Tryd.prog 6 #[.slice A1 n c1, .slice A2 m c2, .slice A3 k c3] w fun e w' => e = .returned (.bool true) ∧ Below w.heap.size w w' := by
      intro b1 b2 b3 e1 e2 e3 hb
      go_enter Tryd.func6, Tryd.ntmps6
      cases b1
      · cases b2
        · cases b3
          · cases hb
          · go_wp2_with fail
            refine (FIN.out _ (Below.refl _ _)).mono ?_
            rintro e w1 ⟨rfl, hb⟩
            have HB := Lib.hid hb
            clear hb
            go_wp2_with fail
            go_ret
            exact ⟨rfl, HB.out⟩
        · go_wp2_with fail
          refine (FIN.out _ (Below.refl _ _)).mono ?_
          rintro e w1 ⟨rfl, hb⟩
          have HB := Lib.hid hb
          clear hb
          go_wp2_with fail
          go_ret
          exact ⟨rfl, HB.out⟩
      · go_wp2_with fail
        refine (FIN.out _ (Below.refl _ _)).mono ?_
        rintro e w1 ⟨rfl, hb⟩
        have HB := Lib.hid hb
        clear hb
        go_wp2_with fail
        go_ret
        exact ⟨rfl, HB.out⟩
    exact tail _ _ _ rfl rfl rfl (by simp; omega)
  · have n1 : n ≤ 4096 := by omega
    have n2 : m ≤ 4096 := by omega
    have n3 : k ≤ 4096 := by omega
    have t1 : decide ((4096 : Int) < (n : Int)) = false := decide_eq_false (by omega)
    have t2 : decide ((4096 : Int) < (m : Int)) = false := decide_eq_false (by omega)
    have t3 : decide ((4096 : Int) < (k : Int)) = false := decide_eq_false (by omega)
    obtain ⟨v0, hv0⟩ : ∃ v, stateV [] = v := ⟨_, rfl⟩
    obtain ⟨S1, hS1⟩ : ∃ S, stateL L = S := ⟨_, rfl⟩
    obtain ⟨G1, hG1⟩ : ∃ S, shaS L = S := ⟨_, rfl⟩
    obtain ⟨S2, hS2⟩ : ∃ S, stateL (L ++ M) = S := ⟨_, rfl⟩
    obtain ⟨G2, hG2⟩ : ∃ S, shaS (L ++ M) = S := ⟨_, rfl⟩
    obtain ⟨S3, hS3⟩ : ∃ S, stateL (L ++ K) = S := ⟨_, rfl⟩
    obtain ⟨G3, hG3⟩ : ∃ S, shaS (L ++ K) = S := ⟨_, rfl⟩
    obtain ⟨S4, hS4⟩ : ∃ S, stateL (L ++ M ++ K) = S := ⟨_, rfl⟩
    obtain ⟨G4, hG4⟩ : ∃ S, shaS (L ++ M ++ K) = S := ⟨_, rfl⟩
    have ln : L.length = n := HL.out.len
    have lm : M.length = m := HM.out.len
    have lk : K.length = k := HK.out.len
    have bL := HL.out.byt
    have bM := HM.out.byt
    have bK := HK.out.byt
    have CB := Lib.hid begin_st
    rw [hv0] at CB
    have CA1 : Hid (∀ (u : World) (A : Option Addr) (c : Nat), Laid u → Bs u A n L → n ≤ c → Calls Tryd.prog 16 #[v0, .slice A n c] u fun e w' => e = .returned (.agg S1.toArray) ∧ Below u.heap.size u w') := Lib.hid (fun u A c h1 h2 h3 => by
      rw [← hv0, ← hS1, ← stateV_def]
      exact addm_st (L := []) (M := L) (m := n) ln allB_nil bL (by first | omega | (rw [List.length_append]; omega) | (rw [List.length_append, List.length_append]; omega) | decide) (by omega) u h1 h2 h3)
    have CA2 : Hid (∀ (u : World) (A : Option Addr) (c : Nat), Laid u → Bs u A m M → m ≤ c → Calls Tryd.prog 16 #[.agg S1.toArray, .slice A m c] u fun e w' => e = .returned (.agg S2.toArray) ∧ Below u.heap.size u w') := Lib.hid (fun u A c h1 h2 h3 => by
      rw [← hS1, ← stateV_def, ← hS2, ← stateV_def]
      exact addm_st (L := L) (M := M) (m := m) lm bL bM (by first | omega | (rw [List.length_append]; omega) | (rw [List.length_append, List.length_append]; omega) | decide) (by omega) u h1 h2 h3)
    have CA3 : Hid (∀ (u : World) (A : Option Addr) (c : Nat), Laid u → Bs u A k K → k ≤ c → Calls Tryd.prog 16 #[.agg S1.toArray, .slice A k c] u fun e w' => e = .returned (.agg S3.toArray) ∧ Below u.heap.size u w') := Lib.hid (fun u A c h1 h2 h3 => by
      rw [← hS1, ← stateV_def, ← hS3, ← stateV_def]
      exact addm_st (L := L) (M := K) (m := k) lk bL bK (by first | omega | (rw [List.length_append]; omega) | (rw [List.length_append, List.length_append]; omega) | decide) (by omega) u h1 h2 h3)
    have CA4 : Hid (∀ (u : World) (A : Option Addr) (c : Nat), Laid u → Bs u A k K → k ≤ c → Calls Tryd.prog 16 #[.agg S2.toArray, .slice A k c] u fun e w' => e = .returned (.agg S4.toArray) ∧ Below u.heap.size u w') := Lib.hid (fun u A c h1 h2 h3 => by
      rw [← hS2, ← stateV_def, ← hS4, ← stateV_def]
      exact addm_st (L := (L ++ M)) (M := K) (m := k) lk (bL.app bM) bK (by first | omega | (rw [List.length_append]; omega) | (rw [List.length_append, List.length_append]; omega) | decide) (by omega) u h1 h2 h3)
    have CE1 : Hid (∀ (u : World), Laid u → Calls Tryd.prog 17 #[.agg S1.toArray] u fun e w' => e = .returned (.agg (vals G1).toArray) ∧ Below u.heap.size u w') := Lib.hid (fun u h1 => by
      rw [← hS1, ← stateV_def, ← hG1]
      exact end_st bL (by first | omega | (rw [List.length_append]; omega) | (rw [List.length_append, List.length_append]; omega) | decide) u h1)
    have CS1 : Hid (∀ (u : World) (A : Option Addr) (c : Nat), Laid u → Bs u A n L → n ≤ c → Calls Tryd.prog 10 #[.slice A n c] u fun e w' => e = .returned (.agg (vals G1).toArray) ∧ Below u.heap.size u w') := Lib.hid (fun u A c h1 h2 h3 => by
      rw [← hG1]
      exact sum_st (by first | omega | (rw [List.length_append]; omega) | (rw [List.length_append, List.length_append]; omega) | decide) bL (by omega) u h1 h2 h3)
    have SL1 : Hid (S1.length = 73) := Lib.hid (by rw [← hS1]; exact stateL_len _)
    have SO1 : Hid (∀ u ∈ S1, u.oneCell' = true) := Lib.hid (by rw [← hS1]; exact stateL_one _)
    have GL1 : Hid (G1.length = 32) := Lib.hid (by rw [← hG1]; exact shaS_len _)
    have CE2 : Hid (∀ (u : World), Laid u → Calls Tryd.prog 17 #[.agg S2.toArray] u fun e w' => e = .returned (.agg (vals G2).toArray) ∧ Below u.heap.size u w') := Lib.hid (fun u h1 => by
      rw [← hS2, ← stateV_def, ← hG2]
      exact end_st (bL.app bM) (by first | omega | (rw [List.length_append]; omega) | (rw [List.length_append, List.length_append]; omega) | decide) u h1)
    have CS2 : Hid (∀ (u : World) (A : Option Addr) (c : Nat), Laid u → Bs u A (n + m) (L ++ M) → (n + m) ≤ c → Calls Tryd.prog 10 #[.slice A (n + m) c] u fun e w' => e = .returned (.agg (vals G2).toArray) ∧ Below u.heap.size u w') := Lib.hid (fun u A c h1 h2 h3 => by
      rw [← hG2]
      exact sum_st (by first | omega | (rw [List.length_append]; omega) | (rw [List.length_append, List.length_append]; omega) | decide) (bL.app bM) (by omega) u h1 h2 h3)
    have SL2 : Hid (S2.length = 73) := Lib.hid (by rw [← hS2]; exact stateL_len _)
    have SO2 : Hid (∀ u ∈ S2, u.oneCell' = true) := Lib.hid (by rw [← hS2]; exact stateL_one _)
    have GL2 : Hid (G2.length = 32) := Lib.hid (by rw [← hG2]; exact shaS_len _)
    have CE3 : Hid (∀ (u : World), Laid u → Calls Tryd.prog 17 #[.agg S3.toArray] u fun e w' => e = .returned (.agg (vals G3).toArray) ∧ Below u.heap.size u w') := Lib.hid (fun u h1 => by
      rw [← hS3, ← stateV_def, ← hG3]
      exact end_st (bL.app bK) (by first | omega | (rw [List.length_append]; omega) | (rw [List.length_append, List.length_append]; omega) | decide) u h1)
    have CS3 : Hid (∀ (u : World) (A : Option Addr) (c : Nat), Laid u → Bs u A (n + k) (L ++ K) → (n + k) ≤ c → Calls Tryd.prog 10 #[.slice A (n + k) c] u fun e w' => e = .returned (.agg (vals G3).toArray) ∧ Below u.heap.size u w') := Lib.hid (fun u A c h1 h2 h3 => by
      rw [← hG3]
      exact sum_st (by first | omega | (rw [List.length_append]; omega) | (rw [List.length_append, List.length_append]; omega) | decide) (bL.app bK) (by omega) u h1 h2 h3)
    have SL3 : Hid (S3.length = 73) := Lib.hid (by rw [← hS3]; exact stateL_len _)
    have SO3 : Hid (∀ u ∈ S3, u.oneCell' = true) := Lib.hid (by rw [← hS3]; exact stateL_one _)
    have GL3 : Hid (G3.length = 32) := Lib.hid (by rw [← hG3]; exact shaS_len _)
    have CE4 : Hid (∀ (u : World), Laid u → Calls Tryd.prog 17 #[.agg S4.toArray] u fun e w' => e = .returned (.agg (vals G4).toArray) ∧ Below u.heap.size u w') := Lib.hid (fun u h1 => by
      rw [← hS4, ← stateV_def, ← hG4]
      exact end_st ((bL.app bM).app bK) (by first | omega | (rw [List.length_append]; omega) | (rw [List.length_append, List.length_append]; omega) | decide) u h1)
    have CS4 : Hid (∀ (u : World) (A : Option Addr) (c : Nat), Laid u → Bs u A (n + m + k) (L ++ M ++ K) → (n + m + k) ≤ c → Calls Tryd.prog 10 #[.slice A (n + m + k) c] u fun e w' => e = .returned (.agg (vals G4).toArray) ∧ Below u.heap.size u w') := Lib.hid (fun u A c h1 h2 h3 => by
      rw [← hG4]
      exact sum_st (by first | omega | (rw [List.length_append]; omega) | (rw [List.length_append, List.length_append]; omega) | decide) ((bL.app bM).app bK) (by omega) u h1 h2 h3)
    have SL4 : Hid (S4.length = 73) := Lib.hid (by rw [← hS4]; exact stateL_len _)
    have SO4 : Hid (∀ u ∈ S4, u.oneCell' = true) := Lib.hid (by rw [← hS4]; exact stateL_one _)
    have GL4 : Hid (G4.length = 32) := Lib.hid (by rw [← hG4]; exact shaS_len _)
    clear hv0 hS1 hG1 hS2 hG2 hS3 hG3 hS4 hG4 ln lm lk bL bM bK hbig
    go_enter Tryd.func6, Tryd.ntmps6
    go_wp2_with fail
    refine (CB.out _).mono ?_
    rintro e w1 ⟨rfl, hb⟩
    have Bw1 : Hid (Below w.heap.size w w1) := Lib.hid hb
    clear hb
    go_wp2_with fail
    refine (CA1.out _ _ _ (HD.out.later HD.out.lt Bw1.out) (HL.out.later Bw1.out) hc1).mono ?_
    rintro e w2 ⟨rfl, hb⟩
    have Bw2 : Hid (Below w.heap.size w w2) := Lib.hid (Bw1.out.trans (Below.mono hb Bw1.out.size))
    clear Bw1
    clear hb
    have z0 := zero38
    go_wp2_with (refine wpList_store_ro rfl (.tmp 7) (.tmp 30) rfl rfl rfl row38 (Ro.new w2 38 (stV (List.replicate 8 0) (List.replicate 64 0) 0)) (stV_len rfl rfl) SL1.out SO1.out ?_)
    intro w3 r0 g0
    have b0 := box_store g0
    have Bw3 : Hid (Below w.heap.size w w3) := Lib.hid (Bw2.out.trans (Below.mono b0 Bw2.out.size))
    clear Bw2
    have R1 := Lib.hid r0
    clear r0 g0 b0 z0
    go_wp2_with (refine wpList_load_ro rfl (.tmp 7) rfl rfl row38 R1.out SL1.out ?_)
    refine (CA2.out _ _ _ (HD.out.later HD.out.lt Bw3.out) (HM.out.later Bw3.out) hc2).mono ?_
    rintro e w4 ⟨rfl, hb⟩
    have Bw4 : Hid (Below w.heap.size w w4) := Lib.hid (Bw3.out.trans (Below.mono hb Bw3.out.size))
    replace R1 := Lib.hid (R1.out.later hb)
    clear Bw3
    clear hb
    have z0 := zero38
    go_wp2_with (refine wpList_store_ro rfl (.tmp 8) (.tmp 33) rfl rfl rfl row38 (Ro.new w4 38 (stV (List.replicate 8 0) (List.replicate 64 0) 0)) (stV_len rfl rfl) SL2.out SO2.out ?_)
    intro w5 r0 g0
    have b0 := box_store g0
    have Bw5 : Hid (Below w.heap.size w w5) := Lib.hid (Bw4.out.trans (Below.mono b0 Bw4.out.size))
    replace R1 := Lib.hid (R1.out.later b0)
    clear Bw4
    have R2 := Lib.hid r0
    clear r0 g0 b0 z0
    go_wp2_with (refine wpList_load_ro rfl (.tmp 7) rfl rfl row38 R1.out SL1.out ?_)
    refine (CA3.out _ _ _ (HD.out.later HD.out.lt Bw5.out) (HK.out.later Bw5.out) hc3).mono ?_
    rintro e w6 ⟨rfl, hb⟩
    have Bw6 : Hid (Below w.heap.size w w6) := Lib.hid (Bw5.out.trans (Below.mono hb Bw5.out.size))
    replace R1 := Lib.hid (R1.out.later hb)
    replace R2 := Lib.hid (R2.out.later hb)
    clear Bw5
    clear hb
    have z0 := zero38
    go_wp2_with (refine wpList_store_ro rfl (.tmp 9) (.tmp 36) rfl rfl rfl row38 (Ro.new w6 38 (stV (List.replicate 8 0) (List.replicate 64 0) 0)) (stV_len rfl rfl) SL3.out SO3.out ?_)
    intro w7 r0 g0
    have b0 := box_store g0
    have Bw7 : Hid (Below w.heap.size w w7) := Lib.hid (Bw6.out.trans (Below.mono b0 Bw6.out.size))
    replace R1 := Lib.hid (R1.out.later b0)
    replace R2 := Lib.hid (R2.out.later b0)
    clear Bw6
    have R3 := Lib.hid r0
    clear r0 g0 b0 z0
    go_wp2_with (refine wpList_load_ro rfl (.tmp 8) rfl rfl row38 R2.out SL2.out ?_)
    refine (CA4.out _ _ _ (HD.out.later HD.out.lt Bw7.out) (HK.out.later Bw7.out) hc3).mono ?_
    rintro e w8 ⟨rfl, hb⟩
    have Bw8 : Hid (Below w.heap.size w w8) := Lib.hid (Bw7.out.trans (Below.mono hb Bw7.out.size))
    replace R1 := Lib.hid (R1.out.later hb)
    replace R2 := Lib.hid (R2.out.later hb)
    replace R3 := Lib.hid (R3.out.later hb)
    clear Bw7
    clear hb
    have z0 := zero38
    go_wp2_with (refine wpList_store_ro rfl (.tmp 10) (.tmp 39) rfl rfl rfl row38 (Ro.new w8 38 (stV (List.replicate 8 0) (List.replicate 64 0) 0)) (stV_len rfl rfl) SL4.out SO4.out ?_)
    intro w9 r0 g0
    have b0 := box_store g0
    have Bw9 : Hid (Below w.heap.size w w9) := Lib.hid (Bw8.out.trans (Below.mono b0 Bw8.out.size))
    replace R1 := Lib.hid (R1.out.later b0)
    replace R2 := Lib.hid (R2.out.later b0)
    replace R3 := Lib.hid (R3.out.later b0)
    clear Bw8
    have R4 := Lib.hid r0
    clear r0 g0 b0 z0
    go_wp2_with fail
    refine (copied_any _ (by omega) (HL.out.later Bw9.out)).mono ?_
    rintro e w10 ⟨Ax, nx, cx, rfl, hcx, O⟩
    obtain rfl : n = nx := HL.out.len.symm.trans O.len
    have OX := Lib.hid O
    clear O
    go_wp2_with (at_builtin; refine wpList_app rfl _ _ rfl rfl OX.out rfl (HM.out.later (Bw9.out.trans (OX.out.bel.mono Bw9.out.size))) ?c3 ?_)
    case c3 => omega
    intro Ay cy w11 hcy O _
    replace OX := Lib.hid O
    clear O
    have ox := OX.out.reads
    have ob := OX.out.bel
    clear OX
    have OR := Lib.hid ox
    clear ox
    have Bw11 : Hid (Below w.heap.size w w11) := Lib.hid (Bw9.out.trans (Below.mono ob Bw9.out.size))
    replace R1 := Lib.hid (R1.out.later ob)
    replace R2 := Lib.hid (R2.out.later ob)
    replace R3 := Lib.hid (R3.out.later ob)
    replace R4 := Lib.hid (R4.out.later ob)
    clear Bw9
    clear ob
    go_wp2_with fail
    refine (CS2.out _ _ _ (HD.out.later HD.out.lt Bw11.out) OR.out hcy).mono ?_
    rintro e w12 ⟨rfl, hb⟩
    have Bw12 : Hid (Below w.heap.size w w12) := Lib.hid (Bw11.out.trans (Below.mono hb Bw11.out.size))
    replace R1 := Lib.hid (R1.out.later hb)
    replace R2 := Lib.hid (R2.out.later hb)
    replace R3 := Lib.hid (R3.out.later hb)
    replace R4 := Lib.hid (R4.out.later hb)
    clear Bw11
    clear hb
    clear OR
    go_wp2_with (refine wpList_store_ro rfl (.tmp 11) (.tmp 44) rfl rfl rfl row26 (Ro.new w12 26 (vals (List.replicate 32 0))) (by simp [vals]) (by rw [vals_length]; exact GL2.out) (vals_one _) ?_)
    intro w13 r0 g0
    have b0 := box_store g0
    have Bw13 : Hid (Below w.heap.size w w13) := Lib.hid (Bw12.out.trans (Below.mono b0 Bw12.out.size))
    replace R1 := Lib.hid (R1.out.later b0)
    replace R2 := Lib.hid (R2.out.later b0)
    replace R3 := Lib.hid (R3.out.later b0)
    replace R4 := Lib.hid (R4.out.later b0)
    clear Bw12
    have Q2 := Lib.hid r0
    clear r0 g0 b0
    go_wp2_with fail
    refine (copied_any _ (by omega) (HL.out.later Bw13.out)).mono ?_
    rintro e w14 ⟨Ax, nx, cx, rfl, hcx, O⟩
    obtain rfl : n = nx := HL.out.len.symm.trans O.len
    have OX := Lib.hid O
    clear O
    go_wp2_with (at_builtin; refine wpList_app rfl _ _ rfl rfl OX.out rfl (HK.out.later (Bw13.out.trans (OX.out.bel.mono Bw13.out.size))) ?c3 ?_)
    case c3 => omega
    intro Ay cy w15 hcy O _
    replace OX := Lib.hid O
    clear O
    have ox := OX.out.reads
    have ob := OX.out.bel
    clear OX
    have OR := Lib.hid ox
    clear ox
    have Bw15 : Hid (Below w.heap.size w w15) := Lib.hid (Bw13.out.trans (Below.mono ob Bw13.out.size))
    replace R1 := Lib.hid (R1.out.later ob)
    replace R2 := Lib.hid (R2.out.later ob)
    replace R3 := Lib.hid (R3.out.later ob)
    replace R4 := Lib.hid (R4.out.later ob)
    replace Q2 := Lib.hid (Q2.out.later ob)
    clear Bw13
    clear ob
    go_wp2_with fail
    refine (CS3.out _ _ _ (HD.out.later HD.out.lt Bw15.out) OR.out hcy).mono ?_
    rintro e w16 ⟨rfl, hb⟩
    have Bw16 : Hid (Below w.heap.size w w16) := Lib.hid (Bw15.out.trans (Below.mono hb Bw15.out.size))
    replace R1 := Lib.hid (R1.out.later hb)
    replace R2 := Lib.hid (R2.out.later hb)
    replace R3 := Lib.hid (R3.out.later hb)
    replace R4 := Lib.hid (R4.out.later hb)
    replace Q2 := Lib.hid (Q2.out.later hb)
    clear Bw15
    clear hb
    clear OR
    go_wp2_with (refine wpList_store_ro rfl (.tmp 12) (.tmp 49) rfl rfl rfl row26 (Ro.new w16 26 (vals (List.replicate 32 0))) (by simp [vals]) (by rw [vals_length]; exact GL3.out) (vals_one _) ?_)
    intro w17 r0 g0
    have b0 := box_store g0
    have Bw17 : Hid (Below w.heap.size w w17) := Lib.hid (Bw16.out.trans (Below.mono b0 Bw16.out.size))
    replace R1 := Lib.hid (R1.out.later b0)
    replace R2 := Lib.hid (R2.out.later b0)
    replace R3 := Lib.hid (R3.out.later b0)
    replace R4 := Lib.hid (R4.out.later b0)
    replace Q2 := Lib.hid (Q2.out.later b0)
    clear Bw16
    have Q3 := Lib.hid r0
    clear r0 g0 b0
    go_wp2_with fail
    refine (copied_any _ (by omega) (HL.out.later Bw17.out)).mono ?_
    rintro e w18 ⟨Ax, nx, cx, rfl, hcx, O⟩
    obtain rfl : n = nx := HL.out.len.symm.trans O.len
    have OX := Lib.hid O
    clear O
    go_wp2_with (at_builtin; refine wpList_app rfl _ _ rfl rfl OX.out rfl (HM.out.later (Bw17.out.trans (OX.out.bel.mono Bw17.out.size))) ?c3 ?_)
    case c3 => omega
    intro Ay cy w19 hcy O _
    replace OX := Lib.hid O
    clear O
    go_wp2_with (at_builtin; refine wpList_app rfl _ _ rfl rfl OX.out rfl (HK.out.later (Bw17.out.trans (OX.out.bel.mono Bw17.out.size))) ?c3 ?_)
    case c3 => omega
    intro Ay cy w20 hcy O _
    replace OX := Lib.hid O
    clear O
    have ox := OX.out.reads
    have ob := OX.out.bel
    clear OX
    have OR := Lib.hid ox
    clear ox
    have Bw20 : Hid (Below w.heap.size w w20) := Lib.hid (Bw17.out.trans (Below.mono ob Bw17.out.size))
    replace R1 := Lib.hid (R1.out.later ob)
    replace R2 := Lib.hid (R2.out.later ob)
    replace R3 := Lib.hid (R3.out.later ob)
    replace R4 := Lib.hid (R4.out.later ob)
    replace Q2 := Lib.hid (Q2.out.later ob)
    replace Q3 := Lib.hid (Q3.out.later ob)
    clear Bw17
    clear ob
    go_wp2_with fail
    refine (CS4.out _ _ _ (HD.out.later HD.out.lt Bw20.out) (by rw [List.append_assoc]; exact OR.out) hcy).mono ?_
    rintro e w21 ⟨rfl, hb⟩
    have Bw21 : Hid (Below w.heap.size w w21) := Lib.hid (Bw20.out.trans (Below.mono hb Bw20.out.size))
    replace R1 := Lib.hid (R1.out.later hb)
    replace R2 := Lib.hid (R2.out.later hb)
    replace R3 := Lib.hid (R3.out.later hb)
    replace R4 := Lib.hid (R4.out.later hb)
    replace Q2 := Lib.hid (Q2.out.later hb)
    replace Q3 := Lib.hid (Q3.out.later hb)
    clear Bw20
    clear hb
    clear OR
    go_wp2_with (refine wpList_store_ro rfl (.tmp 13) (.tmp 56) rfl rfl rfl row26 (Ro.new w21 26 (vals (List.replicate 32 0))) (by simp [vals]) (by rw [vals_length]; exact GL4.out) (vals_one _) ?_)
    intro w22 r0 g0
    have b0 := box_store g0
    have Bw22 : Hid (Below w.heap.size w w22) := Lib.hid (Bw21.out.trans (Below.mono b0 Bw21.out.size))
    replace R1 := Lib.hid (R1.out.later b0)
    replace R2 := Lib.hid (R2.out.later b0)
    replace R3 := Lib.hid (R3.out.later b0)
    replace R4 := Lib.hid (R4.out.later b0)
    replace Q2 := Lib.hid (Q2.out.later b0)
    replace Q3 := Lib.hid (Q3.out.later b0)
    clear Bw21
    have Q4 := Lib.hid r0
    clear r0 g0 b0
    go_wp2_with fail
    have EQ1 := eq_same GL1.out
    have EQ2 := eq_same GL2.out
    have EQ3 := eq_same GL3.out
    have EQ4 := eq_same GL4.out
    have E1 : Hid (∀ u : After w22, Calls Tryd.prog 17 #[.agg S1.toArray] u.w fun e w' => e = .returned (.agg (vals G1).toArray) ∧ Below u.w.heap.size u.w w') := Lib.hid (fun u => CE1.out u.w (HD.out.later HD.out.lt (Bw22.out.trans (u.below.mono Bw22.out.size))))
    have E2 : Hid (∀ u : After w22, Calls Tryd.prog 17 #[.agg S2.toArray] u.w fun e w' => e = .returned (.agg (vals G2).toArray) ∧ Below u.w.heap.size u.w w') := Lib.hid (fun u => CE2.out u.w (HD.out.later HD.out.lt (Bw22.out.trans (u.below.mono Bw22.out.size))))
    have E3 : Hid (∀ u : After w22, Calls Tryd.prog 17 #[.agg S3.toArray] u.w fun e w' => e = .returned (.agg (vals G3).toArray) ∧ Below u.w.heap.size u.w w') := Lib.hid (fun u => CE3.out u.w (HD.out.later HD.out.lt (Bw22.out.trans (u.below.mono Bw22.out.size))))
    have E4 : Hid (∀ u : After w22, Calls Tryd.prog 17 #[.agg S4.toArray] u.w fun e w' => e = .returned (.agg (vals G4).toArray) ∧ Below u.w.heap.size u.w w') := Lib.hid (fun u => CE4.out u.w (HD.out.later HD.out.lt (Bw22.out.trans (u.below.mono Bw22.out.size))))
    have F1 : Hid (∀ u : After w22, Calls Tryd.prog 10 #[.slice A1 n c1] u.w fun e w' => e = .returned (.agg (vals G1).toArray) ∧ Below u.w.heap.size u.w w') := Lib.hid (fun u => CS1.out u.w _ _ (HD.out.later HD.out.lt (Bw22.out.trans (u.below.mono Bw22.out.size))) (HL.out.later (Bw22.out.trans (u.below.mono Bw22.out.size))) hc1)
    have FW : Hid (∀ u : After w22, Calls Tryd.prog 8 #[] u.w fun e w' => e = .returned (.bool true) ∧ Below u.w.heap.size u.w w') := Lib.hid (fun u => works_any u.w (HD.out.later HD.out.lt (Bw22.out.trans (u.below.mono Bw22.out.size))))
    refine wp_region_after (by kernel_rfl) (by kernel_rfl) ?_
    go_big_quiet_want
    refine quiet_load_part (.tmp 8) rfl rfl row38 (fun w9 h9 => by obtain ⟨u, rfl⟩ := h9; exact rangeAt_later R2.out R2.out.whole u.below) SL2.out ?_
    simp only [Act.put, List.setIfInBounds_toArray, List.set_cons_succ, List.set_cons_zero]
    go_big_quiet_on
    go_big_quiet_step (exact after_call (E2.out _))
    go_big_quiet_want
    refine quiet_load_part (.tmp 11) rfl rfl row26 (fun w9 h9 => by obtain ⟨u, rfl⟩ := h9; exact rangeAt_later Q2.out Q2.out.whole u.below) (by rw [vals_length]; exact GL2.out) ?_
    simp only [Act.put, List.setIfInBounds_toArray, List.set_cons_succ, List.set_cons_zero]
    go_big_quiet_on
    repeat (go_big_quiet_step (fail))
    go_big_quiet_want
    refine quiet_load_part (.tmp 9) rfl rfl row38 (fun w9 h9 => by obtain ⟨u, rfl⟩ := h9; exact rangeAt_later R3.out R3.out.whole u.below) SL3.out ?_
    simp only [Act.put, List.setIfInBounds_toArray, List.set_cons_succ, List.set_cons_zero]
    go_big_quiet_on
    go_big_quiet_step (exact after_call (E3.out _))
    go_big_quiet_want
    refine quiet_load_part (.tmp 12) rfl rfl row26 (fun w9 h9 => by obtain ⟨u, rfl⟩ := h9; exact rangeAt_later Q3.out Q3.out.whole u.below) (by rw [vals_length]; exact GL3.out) ?_
    simp only [Act.put, List.setIfInBounds_toArray, List.set_cons_succ, List.set_cons_zero]
    go_big_quiet_on
    repeat (go_big_quiet_step (fail))
    go_big_quiet_want
    refine quiet_load_part (.tmp 10) rfl rfl row38 (fun w9 h9 => by obtain ⟨u, rfl⟩ := h9; exact rangeAt_later R4.out R4.out.whole u.below) SL4.out ?_
    simp only [Act.put, List.setIfInBounds_toArray, List.set_cons_succ, List.set_cons_zero]
    go_big_quiet_on
    go_big_quiet_step (exact after_call (E4.out _))
    go_big_quiet_want
    refine quiet_load_part (.tmp 13) rfl rfl row26 (fun w9 h9 => by obtain ⟨u, rfl⟩ := h9; exact rangeAt_later Q4.out Q4.out.whole u.below) (by rw [vals_length]; exact GL4.out) ?_
    simp only [Act.put, List.setIfInBounds_toArray, List.set_cons_succ, List.set_cons_zero]
    go_big_quiet_on
    repeat (go_big_quiet_step (fail))
    go_big_quiet_want
    refine quiet_load_part (.tmp 7) rfl rfl row38 (fun w9 h9 => by obtain ⟨u, rfl⟩ := h9; exact rangeAt_later R1.out R1.out.whole u.below) SL1.out ?_
    simp only [Act.put, List.setIfInBounds_toArray, List.set_cons_succ, List.set_cons_zero]
    go_big_quiet_on
    go_big_quiet_step (exact after_call (E1.out _))
    go_big_quiet_step (fail)
    go_big_quiet_step (exact after_call (F1.out _))
    repeat (go_big_quiet_step (fail))
    go_big_quiet_want
    refine quiet_load_part (.tmp 8) rfl rfl row38 (fun w9 h9 => by obtain ⟨u, rfl⟩ := h9; exact rangeAt_later R2.out R2.out.whole u.below) SL2.out ?_
    simp only [Act.put, List.setIfInBounds_toArray, List.set_cons_succ, List.set_cons_zero]
    go_big_quiet_on
    go_big_quiet_step (exact after_call (E2.out _))
    go_big_quiet_want
    refine quiet_load_part (.tmp 11) rfl rfl row26 (fun w9 h9 => by obtain ⟨u, rfl⟩ := h9; exact rangeAt_later Q2.out Q2.out.whole u.below) (by rw [vals_length]; exact GL2.out) ?_
    simp only [Act.put, List.setIfInBounds_toArray, List.set_cons_succ, List.set_cons_zero]
    go_big_quiet_on
    repeat (go_big_quiet_step (fail))
    go_big_quiet_step (exact after_call (FW.out _))
    repeat (go_big_quiet_step (fail))
    refine wpQuiet_nil ?_
    rintro wz ⟨u, rfl⟩
    have Bz := Lib.hid (Bw22.out.trans (u.below.mono Bw22.out.size))
    go_wp2_with fail
    go_ret
    exact ⟨rfl, Bz.out⟩
end Go.Proofs.YtmieoeplbmfemaaDoor
