/- The chapter's examples hold: the statements' anchor. No condition but that the tables lie as laid. -/
import Derived.Test.YtmieoeplbmfemaaDoorEq
import Derived.BigRegion
import Derived.Lib.SmallJoins
namespace Go.Proofs.YtmieoeplbmfemaaDoor
open Go.RowKit

theorem box_store {wa wb : World} {o : Obj} (g : (wa.alloc o).grownBy wb (some wa.heap.size)) : Below wa.heap.size wa wb := ((Below.refl wa.heap.size wa).alloc (Nat.le_refl _) o).grown g (by simp) (fun q e => by injection e; omega)
theorem kconv (u : World) (C : Array Value) (n c : Nat) : (convert 22 22 (.slice (some ⟨u.heap.size, 0, none⟩) n c)).run Tryd.prog (u.alloc (.cells C 5)) = .ok (.slice (some ⟨u.heap.size, 0, none⟩) n c) (u.alloc (.cells C 5 (C.size, C.size + 1))) := Go.Joins.run_convert_bytes_const_at (P := Tryd.prog) u 22 5 C n c u.heap.size rfl Tryd.underlying22 Tryd.underlying5
theorem ev1 : nth (shaS []) 0 = 227 ∧ nth (shaS []) 31 = 85 := by decide +kernel
theorem ev2 : nth (shaS [97, 98, 99]) 0 = 186 ∧ nth (shaS [97, 98, 99]) 31 = 173 ∧ nth (shaS [97, 98, 99]) 15 = 35 := by decide +kernel
theorem ev3 : nth (shaS (shaS [104, 101, 108, 108, 111])) 0 = 149 ∧ nth (shaS (shaS [104, 101, 108, 108, 111])) 31 = 80 := by decide +kernel
theorem Bs.litM (w : World) (L : List Nat) (h : AllB L) (fr : Nat × Nat) : Bs (w.alloc (.cells (vals L).toArray 5 fr)) (some ⟨w.heap.size, 0, none⟩) L.length L := by
  refine ⟨rfl, h, fun _ => ⟨_, rfl, by simp, fun k hk => ?_⟩⟩
  have e : (⟨w.heap.size, 0, none⟩ : Addr).add k = ⟨w.heap.size, k, none⟩ := by unfold Addr.add; split <;> simp_all
  rw [e]
  have hh := heap_alloc_new w (.cells (vals L).toArray 5 fr)
  unfold World.cell?
  simp only [hh]
  simpa using vals_get L k hk
theorem Bs.lits (w : World) (L : List Nat) (h : AllB L) (n : Nat) (hn : L.length = n) : Bs (w.alloc (.cells (vals L).toArray 5 (n, n + 1))) (some ⟨w.heap.size, 0, none⟩) n L := hn ▸ Bs.litM w L h _
theorem sum_st {M : List Nat} {m : Nat} (hn : M.length = m) (hMb : AllB M) (hm : m ≤ 1099511627776) (w : World) (hLd : Laid w) {A : Option Addr} {c : Nat} (hA : Bs w A m M) (hc : m ≤ c) :
    Calls Tryd.prog 10 #[.slice A m c] w fun e w' => e = .returned (.agg (vals (shaS M)).toArray) ∧ Below w.heap.size w w' := by
  subst hn; exact shaSum_any hMb hm w hLd hA hc
theorem twice_st {M : List Nat} {m : Nat} (hn : M.length = m) (hMb : AllB M) (hm : m ≤ 1099511627776) (w : World) (hLd : Laid w) {A : Option Addr} {c : Nat} (hA : Bs w A m M) (hc : m ≤ c) :
    Calls Tryd.prog 12 #[.slice A m c] w fun e w' => e = .returned (.agg (vals (shaS (shaS M))).toArray) ∧ Below w.heap.size w w' := by
  subst hn; exact shaTwice_any hMb hm w hLd hA hc
theorem addm_st {L M : List Nat} {m : Nat} (hn : M.length = m) (hL : AllB L) (hMb : AllB M) (hl : L.length < 1099511627776) (hm : m ≤ 1099511627776) (w : World) (hLd : Laid w) {A : Option Addr} {c : Nat} (hA : Bs w A m M) (hc : m ≤ c) :
    Calls Tryd.prog 16 #[stateV L, .slice A m c] w fun e w' => e = .returned (stateV (L ++ M)) ∧ Below w.heap.size w w' := by
  subst hn; exact add_st hL hMb hl hm w hLd hA hc
def stateL (L : List Nat) : List Value := stV (if 64 ≤ L.length then pieces L (L.length / 64) else List.replicate 8 0) (partL L) L.length
theorem stateV_def (L : List Nat) : stateV L = .agg (stateL L).toArray := rfl
theorem stateL_len (L : List Nat) : (stateL L).length = 73 := by
  unfold stateL
  refine stV_len ?_ (partL_len L)
  split
  · exact pieces_len _ _
  · rfl
theorem stateL_one (L : List Nat) : ∀ u ∈ stateL L, u.oneCell' = true := stV_one _ _ _
theorem byt3 : AllB [97, 98, 99] := fun x hx => by simp at hx; omega
theorem byt5 : AllB [104, 101, 108, 108, 111] := fun x hx => by simp at hx; omega
theorem byt2 : AllB [97, 98] := fun x hx => by simp at hx; omega

set_option maxRecDepth 100000 in
set_option maxHeartbeats 4000000 in
theorem works_any (w : World) (hLd : Laid w) : Calls Tryd.prog 8 #[] w fun e w' => e = .returned (.bool true) ∧ Below w.heap.size w w' := by
  have HD := Lib.hid hLd
  have cv := kconv
  clear hLd
  obtain ⟨v0, hv0⟩ : ∃ v, stateV [] = v := ⟨_, rfl⟩
  obtain ⟨v1, hv1⟩ : ∃ v, stateV [97, 98] = v := ⟨_, rfl⟩
  obtain ⟨S2, hS2⟩ : ∃ S, stateL [97, 98, 99] = S := ⟨_, rfl⟩
  have CB := Lib.hid (begin_st)
  have CA1 : Hid (∀ (u : World) (A : Option Addr), Laid u → Bs u A 2 [97, 98] → Calls Tryd.prog 16 #[v0, .slice A 2 2] u fun e w' => e = .returned v1 ∧ Below u.heap.size u w') := Lib.hid (fun u A h1 h2 => by
    rw [← hv0, ← hv1]
    exact addm_st (L := []) (M := [97, 98]) (m := 2) rfl allB_nil byt2 (by decide) (by decide) u h1 h2 (Nat.le_refl _))
  have CA2 : Hid (∀ (u : World) (A : Option Addr), Laid u → Bs u A 1 [99] → Calls Tryd.prog 16 #[v1, .slice A 1 1] u fun e w' => e = .returned (.agg S2.toArray) ∧ Below u.heap.size u w') := Lib.hid (fun u A h1 h2 => by
    rw [← hv1, ← hS2, ← stateV_def]
    exact addm_st (L := [97, 98]) (M := [99]) (m := 1) rfl byt2 (allB_one (by decide)) (by decide) (by decide) u h1 h2 (Nat.le_refl _))
  have SL : Hid (S2.length = 73) := Lib.hid (by rw [← hS2]; exact stateL_len _)
  have SO : Hid (∀ u ∈ S2, u.oneCell' = true) := Lib.hid (by rw [← hS2]; exact stateL_one _)
  have CEN : Hid (∀ (u : World), Laid u → Calls Tryd.prog 17 #[.agg S2.toArray] u fun e w' => e = .returned (.agg (vals (shaS [97, 98, 99])).toArray) ∧ Below u.heap.size u w') := Lib.hid (fun u h1 => by
    rw [← hS2, ← stateV_def]
    exact end_st byt3 (by decide) u h1)
  rw [hv0] at CB
  clear hv0 hv1 hS2
  go_enter Tryd.func8, Tryd.ntmps8
  go_wp2_with fail
  refine (sum_st (m := 0) rfl allB_nil (by decide) _ HD.out (Bs.nil _ _) (Nat.le_refl _)).mono ?_
  rintro e w1 ⟨rfl, hb⟩
  have Bw1 := Lib.hid hb
  clear hb
  go_wp2_with (refine wpList_store_ro rfl (.tmp 1) (.tmp 5) rfl rfl rfl row26 (Ro.new w1 26 (vals (List.replicate 32 0))) (by simp [vals]) (by rw [vals_length]; exact shaS_len _) (vals_one _) ?_)
  intro w2 r0 g0
  have b0 := box_store g0
  have Bw2 := Lib.hid (Bw1.out.trans (b0.mono Bw1.out.size))
  have Rw2 := Lib.hid r0
  clear r0 g0 b0 Bw1
  have R1 := Rw2
  clear Rw2
  have GL : ∀ (u : World) (L : List Nat) (n : Nat), Below u.heap.size u (u.alloc (.cells (vals L).toArray 5 (n, n + 1))) := fun u L n => (Below.refl _ _).alloc (Nat.le_refl _) _
  have HG := Lib.hid GL
  clear GL
  go_wp2_with fail
  refine (sum_st (M := [97, 98, 99]) (m := 3) rfl byt3 (by decide) _ (HD.out.later HD.out.lt (Bw2.out.trans ((HG.out w2 [97, 98, 99] 3).mono Bw2.out.size))) (Bs.lits w2 [97, 98, 99] byt3 3 rfl) (Nat.le_refl _)).mono ?_
  rintro e w3 ⟨rfl, hb⟩
  have b3 : Below w2.heap.size w2 w3 := (HG.out w2 [97, 98, 99] 3).trans (hb.mono (HG.out w2 [97, 98, 99] 3).size)
  have Bw3 := Lib.hid (Bw2.out.trans (b3.mono Bw2.out.size))
  replace R1 := Lib.hid (R1.out.later b3)
  clear hb b3 Bw2
  go_wp2_with (refine wpList_store_ro rfl (.tmp 2) (.tmp 8) rfl rfl rfl row26 (Ro.new w3 26 (vals (List.replicate 32 0))) (by simp [vals]) (by rw [vals_length]; exact shaS_len _) (vals_one _) ?_)
  intro w4 r0 g0
  have b0 := box_store g0
  have Bw4 := Lib.hid (Bw3.out.trans (b0.mono Bw3.out.size))
  have Rw4 := Lib.hid r0
  replace R1 := Lib.hid (R1.out.later b0)
  clear r0 g0 b0 Bw3
  have R2 := Rw4
  clear Rw4
  go_wp2_with fail
  refine (twice_st (M := [104, 101, 108, 108, 111]) (m := 5) rfl byt5 (by decide) _ (HD.out.later HD.out.lt (Bw4.out.trans ((HG.out w4 [104, 101, 108, 108, 111] 5).mono Bw4.out.size))) (Bs.lits w4 [104, 101, 108, 108, 111] byt5 5 rfl) (Nat.le_refl _)).mono ?_
  rintro e w5 ⟨rfl, hb⟩
  have b5 : Below w4.heap.size w4 w5 := (HG.out w4 [104, 101, 108, 108, 111] 5).trans (hb.mono (HG.out w4 [104, 101, 108, 108, 111] 5).size)
  have Bw5 := Lib.hid (Bw4.out.trans (b5.mono Bw4.out.size))
  replace R1 := Lib.hid (R1.out.later b5)
  replace R2 := Lib.hid (R2.out.later b5)
  clear hb b5 Bw4
  go_wp2_with (refine wpList_store_ro rfl (.tmp 3) (.tmp 11) rfl rfl rfl row26 (Ro.new w5 26 (vals (List.replicate 32 0))) (by simp [vals]) (by rw [vals_length]; exact shaS_len _) (vals_one _) ?_)
  intro w6 r0 g0
  have b0 := box_store g0
  have Bw6 := Lib.hid (Bw5.out.trans (b0.mono Bw5.out.size))
  have Rw6 := Lib.hid r0
  replace R1 := Lib.hid (R1.out.later b0)
  replace R2 := Lib.hid (R2.out.later b0)
  clear r0 g0 b0 Bw5
  have R3 := Rw6
  clear Rw6
  go_wp2_with fail
  refine (CB.out _).mono ?_
  rintro e w7 ⟨rfl, hb⟩
  have Bw7 := Lib.hid (Bw6.out.trans (hb.mono Bw6.out.size))
  replace R1 := Lib.hid (R1.out.later hb)
  replace R2 := Lib.hid (R2.out.later hb)
  replace R3 := Lib.hid (R3.out.later hb)
  clear hb Bw6
  go_wp2_with fail
  refine (CA1.out _ _ (HD.out.later HD.out.lt (Bw7.out.trans ((HG.out w7 [97, 98] 2).mono Bw7.out.size))) (Bs.lits w7 [97, 98] byt2 2 rfl)).mono ?_
  rintro e w8 ⟨rfl, hb⟩
  have b0 : Below w7.heap.size w7 w8 := (HG.out w7 [97, 98] 2).trans (hb.mono (HG.out w7 [97, 98] 2).size)
  have Bw8 := Lib.hid (Bw7.out.trans (b0.mono Bw7.out.size))
  replace R1 := Lib.hid (R1.out.later b0)
  replace R2 := Lib.hid (R2.out.later b0)
  replace R3 := Lib.hid (R3.out.later b0)
  clear hb b0 Bw7
  go_wp2_with fail
  refine (CA2.out _ _ (HD.out.later HD.out.lt (Bw8.out.trans ((HG.out w8 [99] 1).mono Bw8.out.size))) (Bs.lits w8 [99] (allB_one (by decide)) 1 rfl)).mono ?_
  rintro e w9 ⟨rfl, hb⟩
  have b0 : Below w8.heap.size w8 w9 := (HG.out w8 [99] 1).trans (hb.mono (HG.out w8 [99] 1).size)
  have Bw9 := Lib.hid (Bw8.out.trans (b0.mono Bw8.out.size))
  replace R1 := Lib.hid (R1.out.later b0)
  replace R2 := Lib.hid (R2.out.later b0)
  replace R3 := Lib.hid (R3.out.later b0)
  clear hb b0 Bw8
  have z0 := zero38
  go_wp2_with (refine wpList_store_ro rfl (.tmp 4) (.tmp 18) rfl rfl rfl row38 (Ro.new w9 38 (stV (List.replicate 8 0) (List.replicate 64 0) 0)) (stV_len rfl rfl) SL.out SO.out ?_)
  intro wa r0 g0
  have b0 := box_store g0
  have Bwa := Lib.hid (Bw9.out.trans (b0.mono Bw9.out.size))
  have R4 := Lib.hid r0
  replace R1 := Lib.hid (R1.out.later b0)
  replace R2 := Lib.hid (R2.out.later b0)
  replace R3 := Lib.hid (R3.out.later b0)
  clear r0 g0 b0 Bw9 z0 CB CA1 CA2
  have HDa := Lib.hid (HD.out.later HD.out.lt Bwa.out)
  have e1 := ev1
  have e2 := ev2
  have e3 := ev3
  obtain ⟨A1, hA1⟩ : ∃ A, shaS [] = A := ⟨_, rfl⟩
  obtain ⟨A2, hA2⟩ : ∃ A, shaS [97, 98, 99] = A := ⟨_, rfl⟩
  obtain ⟨A3, hA3⟩ : ∃ A, shaS (shaS [104, 101, 108, 108, 111]) = A := ⟨_, rfl⟩
  have L1 : A1.length = 32 := by rw [← hA1]; exact shaS_len _
  have L2 : A2.length = 32 := by rw [← hA2]; exact shaS_len _
  have L3 : A3.length = 32 := by rw [← hA3]; exact shaS_len _
  rw [hA1] at e1 R1
  rw [hA2] at e2 R2 CEN
  rw [hA3] at e3 R3
  rw [hA1, hA2, hA3]
  clear hA1 hA2 hA3
  go_wp2_with fail
  have u1 : ∀ u : After wa, u.w.cell? ⟨w1.heap.size, 0, none⟩ = some (.int .u8 227) := fun u => u.cell (by have h := R1.out.u8 (k := 0) (by rw [L1]; decide); rw [e1.1] at h; exact h)
  have u2 : ∀ u : After wa, u.w.cell? ⟨w1.heap.size, 31, none⟩ = some (.int .u8 85) := fun u => u.cell (by have h := R1.out.u8 (k := 31) (by rw [L1]; decide); rw [e1.2] at h; exact h)
  have u3 : ∀ u : After wa, u.w.cell? ⟨w3.heap.size, 0, none⟩ = some (.int .u8 186) := fun u => u.cell (by have h := R2.out.u8 (k := 0) (by rw [L2]; decide); rw [e2.1] at h; exact h)
  have u4 : ∀ u : After wa, u.w.cell? ⟨w3.heap.size, 31, none⟩ = some (.int .u8 173) := fun u => u.cell (by have h := R2.out.u8 (k := 31) (by rw [L2]; decide); rw [e2.2.1] at h; exact h)
  have u5 : ∀ u : After wa, u.w.cell? ⟨w3.heap.size, 15, none⟩ = some (.int .u8 35) := fun u => u.cell (by have h := R2.out.u8 (k := 15) (by rw [L2]; decide); rw [e2.2.2] at h; exact h)
  have u6 : ∀ u : After wa, u.w.cell? ⟨w5.heap.size, 0, none⟩ = some (.int .u8 149) := fun u => u.cell (by have h := R3.out.u8 (k := 0) (by rw [L3]; decide); rw [e3.1] at h; exact h)
  have u7 : ∀ u : After wa, u.w.cell? ⟨w5.heap.size, 31, none⟩ = some (.int .u8 80) := fun u => u.cell (by have h := R3.out.u8 (k := 31) (by rw [L3]; decide); rw [e3.2] at h; exact h)
  have EQ : ∀ w, (Op.equalIn 10000 26 (.agg (vals A2).toArray) (.agg (vals A2).toArray)).run Tryd.prog w = .ok true w := fun w => (eq_hash L2 L2 w).trans (by rw [eqB_yes rfl])
  have CE : ∀ u : After wa, Calls Tryd.prog 17 #[.agg S2.toArray] u.w fun e w' => e = .returned (.agg (vals A2).toArray) ∧ Below u.w.heap.size u.w w' := fun u => CEN.out u.w (HDa.out.later HDa.out.lt (u.below.mono (Nat.le_refl _)))
  have HCE := Lib.hid CE
  clear CE e1 e2 e3
  refine wp_region_after (by kernel_rfl) (by kernel_rfl) ?_
  repeat (go_big_quiet_step (fail))
  go_big_quiet_want
  refine quiet_load_part (.tmp 4) rfl rfl row38 (fun w9 h9 => by obtain ⟨u, rfl⟩ := h9; exact rangeAt_later R4.out R4.out.whole u.below) SL.out ?_
  simp only [Act.put, List.setIfInBounds_toArray, List.set_cons_succ, List.set_cons_zero]
  go_big_quiet_on
  go_big_quiet_step (exact after_call (HCE.out _))
  go_big_quiet_want
  refine quiet_load_part (.tmp 2) rfl rfl row26 (fun w9 h9 => by obtain ⟨u, rfl⟩ := h9; exact rangeAt_later R2.out R2.out.whole u.below) (by rw [vals_length, L2]) ?_
  simp only [Act.put, List.setIfInBounds_toArray, List.set_cons_succ, List.set_cons_zero]
  go_big_quiet_on
  repeat (go_big_quiet_step (fail))
  refine wpQuiet_nil ?_
  rintro wz ⟨u, rfl⟩
  have Bz := Lib.hid (Bwa.out.trans (u.below.mono Bwa.out.size))
  go_wp2_with fail
  go_ret
  exact ⟨rfl, Bz.out⟩
end Go.Proofs.YtmieoeplbmfemaaDoor
