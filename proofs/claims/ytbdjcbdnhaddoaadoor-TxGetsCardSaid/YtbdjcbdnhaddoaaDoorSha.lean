/- The program's sums: of bytes, of the sum. No condition but a bound on the length. -/
import Derived.Test.YtbdjcbdnhaddoaaDoorGc
namespace Go.Proofs.YtbdjcbdnhaddoaaDoor
open Go.RowKit

/-- A value that is a state of the bytes L. -/
def StaV (L : List Nat) (v : Value) : Prop := ∃ W, v = .agg (stV W (partL L) L.length).toArray ∧ WOf L W
theorem StaV.add {L M : List Nat} {v : Value} (h : StaV L v) (hL : AllB L) (hMb : AllB M) (hl : L.length < 1099511627776) (hm : M.length ≤ 1099511627776) (w : World) (hLd : Laid w) {A : Option Addr} {c : Nat} (hA : Bs w A M.length M) (hc : M.length ≤ c) :
    Calls Tryd.prog 64 #[v, .slice A M.length c] w fun e w' => ∃ v', e = .returned v' ∧ StaV (L ++ M) v' ∧ Below w.heap.size w w' := by
  obtain ⟨W, rfl, hW⟩ := h
  refine (add_any hW hL hMb hl hm w hLd hA hc).mono ?_
  rintro e w' ⟨W', rfl, h1, h2⟩
  exact ⟨_, rfl, ⟨W', rfl, h1⟩, h2⟩
theorem StaV.end_ {L : List Nat} {v : Value} (h : StaV L v) (hL : AllB L) (hl : L.length < 2199023255552) (w : World) (hLd : Laid w) :
    Calls Tryd.prog 65 #[v] w fun e w' => e = .returned (.agg (vals (shaS L)).toArray) ∧ Below w.heap.size w w' := by
  obtain ⟨W, rfl, hW⟩ := h
  exact end_any hW hL hl w hLd
/-- The state of the bytes L. -/
def stateV (L : List Nat) : Value := .agg (stV (if 64 ≤ L.length then pieces L (L.length / 64) else List.replicate 8 0) (partL L) L.length).toArray
theorem staV_eq {L : List Nat} {v : Value} (h : StaV L v) : v = stateV L := by
  obtain ⟨W, rfl, hW⟩ := h
  unfold stateV
  by_cases h64 : 64 ≤ L.length
  · rw [if_pos h64, hW.val h64]
  · rw [if_neg h64, hW.zer (by omega)]
theorem staV_state (L : List Nat) : StaV L (stateV L) := by
  refine ⟨_, rfl, ?_, fun h => if_pos h, fun h => if_neg (by omega)⟩
  split
  · exact pieces_len _ _
  · rfl
theorem add_st {L M : List Nat} (hL : AllB L) (hMb : AllB M) (hl : L.length < 1099511627776) (hm : M.length ≤ 1099511627776) (w : World) (hLd : Laid w) {A : Option Addr} {c : Nat} (hA : Bs w A M.length M) (hc : M.length ≤ c) :
    Calls Tryd.prog 64 #[stateV L, .slice A M.length c] w fun e w' => e = .returned (stateV (L ++ M)) ∧ Below w.heap.size w w' := by
  refine ((staV_state L).add hL hMb hl hm w hLd hA hc).mono ?_
  rintro e w' ⟨v, rfl, hv, hb⟩
  exact ⟨by rw [staV_eq hv], hb⟩
theorem end_st {L : List Nat} (hL : AllB L) (hl : L.length < 2199023255552) (w : World) (hLd : Laid w) :
    Calls Tryd.prog 65 #[stateV L] w fun e w' => e = .returned (.agg (vals (shaS L)).toArray) ∧ Below w.heap.size w w' := (staV_state L).end_ hL hl w hLd
theorem staV_nil : StaV [] (.agg (stV (List.replicate 8 0) (List.replicate 64 0) 0).toArray) := ⟨List.replicate 8 0, rfl, wOf_nil⟩
theorem shaS_len (L : List Nat) : (shaS L).length = 32 := bytesS_len _
theorem shaS_byt (L : List Nat) : AllB (shaS L) := bytesS_byt _
theorem build38 (w : World) : (Instr.build 89 #[]).run Tryd.prog w = .ok (.agg (stV (List.replicate 8 0) (List.replicate 64 0) 0).toArray) w := by kernel_rfl

set_option maxRecDepth 100000 in
set_option maxHeartbeats 4000000 in
theorem begin_any (w : World) : Calls Tryd.prog 63 #[] w fun e w' => (∃ v, e = .returned v ∧ StaV [] v) ∧ Below w.heap.size w w' := by
  have z0 := zero38
  have z1 := build38
  have R1 := Ro.new w 89 (stV (List.replicate 8 0) (List.replicate 64 0) 0)
  have B1 := (Below.refl w.heap.size w).alloc (Nat.le_refl _) (.cells (stV (List.replicate 8 0) (List.replicate 64 0) 0).toArray 89)
  have HR := Lib.hid R1
  have HB := Lib.hid B1
  clear R1 B1
  go_enter Tryd.func63, Tryd.ntmps63
  go_wp2_with (refine wpList_store_ro (vs := stV (List.replicate 8 0) (List.replicate 64 0) 0) rfl (.tmp 0) (.tmp 1) rfl rfl rfl row38 HR.out (stV_len rfl rfl) (stV_len rfl rfl) (stV_one _ _ _) ?_)
  intro w4 R4 g4
  go_wp2_with fail
  exact bodyPost_ret (results_ro Tryd.results63 _ rfl row38 R4 (stV_len rfl rfl)) rfl ⟨⟨_, rfl, staV_nil⟩, HB.out.grown g4 HB.out.size (fun q e => by injection e; omega)⟩

set_option maxRecDepth 100000 in
set_option maxHeartbeats 4000000 in
theorem shaSum_any {M : List Nat} (hMb : AllB M) (hm : M.length ≤ 1099511627776) (w : World) (hLd : Laid w) {A : Option Addr} {c : Nat} (hA : Bs w A M.length M) (hc : M.length ≤ c) :
    Calls Tryd.prog 55 #[.slice A M.length c] w fun e w' => e = .returned (.agg (vals (shaS M)).toArray) ∧ Below w.heap.size w w' := by
  have R1 := Lib.hid (Ro.new w 32 (vals (List.replicate 32 0)))
  have B1 := Lib.hid ((Below.refl w.heap.size w).alloc (Nat.le_refl _) (.cells (vals (List.replicate 32 0)).toArray 32))
  have HD := Lib.hid hLd
  have HA := Lib.hid hA
  have HM := Lib.hid hMb
  have HL := Lib.hid hm
  clear hLd hA hMb hm
  obtain ⟨m, hmm⟩ : ∃ m, M.length = m := ⟨_, rfl⟩
  rw [hmm] at hc ⊢
  have HN := Lib.hid hmm
  clear hmm
  have CA : Hid (∀ v w1, StaV [] v → Below w.heap.size w w1 → Calls Tryd.prog 64 #[v, .slice A m c] w1 fun e w' => ∃ v', e = .returned v' ∧ StaV M v' ∧ Below w1.heap.size w1 w') := Lib.hid (fun v w1 h1 h2 => by
    have h := h1.add allB_nil HM.out (by decide) HL.out w1 (HD.out.later HD.out.lt h2) (HA.out.later h2) (c := c) (by rw [HN.out]; exact hc)
    rw [HN.out] at h
    exact h)
  go_enter Tryd.func55, Tryd.ntmps55
  go_wp2_with fail
  refine (begin_any _).mono ?_
  rintro e w2 ⟨⟨v, rfl, hv⟩, hb⟩
  have R2 := Lib.hid (R1.out.later hb)
  have B2 := Lib.hid (B1.out.trans (hb.mono B1.out.size))
  have HV := Lib.hid hv
  clear hb R1 B1 hv
  go_wp2_with fail
  refine (CA.out v _ HV.out B2.out).mono ?_
  rintro e w3 ⟨v', rfl, hv, hb⟩
  have R3 := Lib.hid (R2.out.later hb)
  have B3 := Lib.hid (B2.out.trans (hb.mono B2.out.size))
  have HV' := Lib.hid hv
  clear hb R2 B2 hv
  go_wp2_with fail
  refine (HV'.out.end_ HM.out (by have := HL.out; omega) _ (HD.out.later HD.out.lt B3.out)).mono ?_
  rintro e w4 ⟨rfl, hb⟩
  have R4 := Lib.hid (R3.out.later hb)
  have B4 := Lib.hid (B3.out.trans (hb.mono B3.out.size))
  clear hb R3 B3
  go_wp2_with (refine wpList_store_ro rfl (.tmp 2) (.tmp 6) rfl rfl rfl row26 R4.out (by rw [vals_length]; rfl) (by rw [vals_length]; exact shaS_len _) (vals_one _) ?_)
  intro w5 R5 g5
  go_wp2_with fail
  exact bodyPost_ret (results_ro Tryd.results55 _ rfl row26 R5 (by rw [vals_length]; exact shaS_len _)) rfl ⟨rfl, B4.out.grown g5 B4.out.size (fun q e => by injection e; omega)⟩

theorem begin_st (w : World) : Calls Tryd.prog 63 #[] w fun e w' => e = .returned (stateV []) ∧ Below w.heap.size w w' := by
  refine (begin_any w).mono ?_
  rintro e w' ⟨⟨v, rfl, hv⟩, hb⟩
  exact ⟨by rw [staV_eq hv], hb⟩
/-- A row of bytes as a slice. -/
theorem Ro.bs {w : World} {b : Nat} {T : TypeId} {H : List Nat} (R : Ro w b T (vals H)) (hb : AllB H) : Bs w (some ⟨b, 0, none⟩) H.length H := by
  refine ⟨rfl, hb, fun _ => ⟨_, rfl, R.lt, fun k hk => ?_⟩⟩
  have e : (⟨b, 0, none⟩ : Addr).add k = ⟨b, k, none⟩ := by unfold Addr.add; split <;> simp_all
  rw [e]
  exact R.u8 hk

set_option maxRecDepth 100000 in
set_option maxHeartbeats 4000000 in
theorem shaTwice_any {M : List Nat} (hMb : AllB M) (hm : M.length ≤ 1099511627776) (w : World) (hLd : Laid w) {A : Option Addr} {c : Nat} (hA : Bs w A M.length M) (hc : M.length ≤ c) :
    Calls Tryd.prog 36 #[.slice A M.length c] w fun e w' => e = .returned (.agg (vals (shaS (shaS M))).toArray) ∧ Below w.heap.size w w' := by
  have R1 := Lib.hid (Ro.new w 32 (vals (List.replicate 32 0)))
  have B1 := Lib.hid ((Below.refl w.heap.size w).alloc (Nat.le_refl _) (.cells (vals (List.replicate 32 0)).toArray 32))
  have HD := Lib.hid hLd
  have CA : Hid (∀ w1, Below w.heap.size w w1 → Calls Tryd.prog 55 #[.slice A M.length c] w1 fun e w' => e = .returned (.agg (vals (shaS M)).toArray) ∧ Below w1.heap.size w1 w') := Lib.hid (fun w1 h => shaSum_any hMb hm w1 (hLd.later hLd.lt h) (hA.later h) hc)
  clear hLd hA hMb hm
  obtain ⟨m, hmm⟩ : ∃ m, M.length = m := ⟨_, rfl⟩
  rw [hmm] at hc CA ⊢
  clear hmm
  go_enter Tryd.func36, Tryd.ntmps36
  go_wp2_with fail
  refine (CA.out _ B1.out).mono ?_
  rintro e w2 ⟨rfl, hb⟩
  have R2 := Lib.hid (R1.out.later hb)
  have B2 := Lib.hid (B1.out.trans (hb.mono B1.out.size))
  clear hb R1 B1 CA
  obtain ⟨H, hH⟩ : ∃ H, shaS M = H := ⟨_, rfl⟩
  have H32 : Hid (H.length = 32) := Lib.hid (by rw [← hH]; exact shaS_len M)
  have HB : Hid (AllB H) := Lib.hid (by rw [← hH]; exact shaS_byt M)
  rw [hH]
  have HH := Lib.hid hH
  clear hH
  have N2 := Ro.new w2 32 (vals (List.replicate 32 0))
  have SM := Lib.hid ((Below.refl w2.heap.size w2).alloc (Nat.le_refl _) (.cells (vals (List.replicate 32 0)).toArray 32))
  go_wp2_with (refine wpList_store_ro rfl (.tmp 3) (.tmp 5) rfl rfl rfl row26 N2 (by rw [vals_length]; rfl) (by rw [vals_length]; exact H32.out) (vals_one _) ?_)
  intro w3 R3 g3
  have N3 := Lib.hid R3
  have Q3 := Lib.hid ((R2.out.later SM.out).far g3 (fun e => by injection e; have := R2.out.lt; omega))
  have B3 := Lib.hid ((B2.out.trans (SM.out.mono B2.out.size)).grown g3 (by have := B2.out.size; simp; omega) (fun q e => by injection e; have := B2.out.size; omega))
  clear R3 g3 R2 B2 SM N2
  have CB : Hid (Calls Tryd.prog 55 #[.slice (some ⟨w2.heap.size, 0, none⟩) 32 32] w3 fun e w' => e = .returned (.agg (vals (shaS H)).toArray) ∧ Below w3.heap.size w3 w') := Lib.hid (by
    have h := shaSum_any HB.out (by rw [H32.out]; omega) w3 (HD.out.later HD.out.lt B3.out) (c := 32) (N3.out.bs HB.out) (by rw [H32.out]; omega)
    rwa [H32.out] at h)
  go_wp2_with fail
  refine CB.out.mono ?_
  rintro e w4 ⟨rfl, hb⟩
  have R4 := Lib.hid (Q3.out.later hb)
  have B4 := Lib.hid (B3.out.trans (hb.mono B3.out.size))
  clear hb Q3 B3 CB
  go_wp2_with (refine wpList_store_ro rfl (.tmp 2) (.tmp 7) rfl rfl rfl row26 R4.out (by rw [vals_length]; rfl) (by rw [vals_length]; exact shaS_len _) (vals_one _) ?_)
  intro w5 R5 g5
  go_wp2_with fail
  exact bodyPost_ret (results_ro Tryd.results36 _ rfl row26 R5 (by rw [vals_length]; exact shaS_len _)) rfl ⟨by rw [HH.out], B4.out.grown g5 B4.out.size (fun q e => by injection e; omega)⟩
end Go.Proofs.YtbdjcbdnhaddoaaDoor
