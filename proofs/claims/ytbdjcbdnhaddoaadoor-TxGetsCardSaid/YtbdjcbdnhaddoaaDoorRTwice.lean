/- The reference's sum of the sum. No condition but a bound on the length. -/
import Derived.Test.YtbdjcbdnhaddoaaDoorRSum
import Derived.Test.YtbdjcbdnhaddoaaDoorSha
namespace Go.Proofs.YtbdjcbdnhaddoaaDoor
open Go.RowKit
set_option maxRecDepth 100000 in
set_option maxHeartbeats 4000000 in
theorem refTwice_any {M : List Nat} (hm : M.length ≤ 274877906944) (w : World) {A : Option Addr} {c : Nat} (hA : Bs w A M.length M) :
    Calls Tryd.prog 37 #[.slice A M.length c] w fun e w' => e = .returned (.agg (vals (shaS (shaS M))).toArray) ∧ Below w.heap.size w w' := by
  have R1 := Lib.hid (Ro.new w 32 (vals (List.replicate 32 0)))
  have B1 := Lib.hid ((Below.refl w.heap.size w).alloc (Nat.le_refl _) (.cells (vals (List.replicate 32 0)).toArray 32))
  have CA : Hid (∀ w1, Below w.heap.size w w1 → Calls Tryd.prog 56 #[.slice A M.length c] w1 fun e w' => e = .returned (.agg (vals (shaS M)).toArray) ∧ Below w1.heap.size w1 w') := Lib.hid (fun w1 h => refSum_any w1 hm (hA.later h))
  clear hA hm
  obtain ⟨m, hmm⟩ : ∃ m, M.length = m := ⟨_, rfl⟩
  rw [hmm] at CA ⊢
  clear hmm
  go_enter Tryd.func37, Tryd.ntmps37
  go_wp2_with fail
  refine (CA.out _ B1.out).mono ?_
  rintro e w2 ⟨rfl, hb⟩
  have R2 := Lib.hid (R1.out.later hb)
  have B2 := Lib.hid (B1.out.trans (hb.mono B1.out.size))
  clear hb R1 B1 CA
  obtain ⟨H, hH⟩ : ∃ H, shaS M = H := ⟨_, rfl⟩
  have H32 : Hid (H.length = 32) := Lib.hid (by rw [← hH]; exact shaS_len M)
  have HB : Hid (AllB H) := Lib.hid (by rw [← hH]; exact shaS_byt M)
  rw [hH]
  have HH := Lib.hid hH
  clear hH
  have N2 := Ro.new w2 32 (vals (List.replicate 32 0))
  have SM := Lib.hid ((Below.refl w2.heap.size w2).alloc (Nat.le_refl _) (.cells (vals (List.replicate 32 0)).toArray 32))
  go_wp2_with (refine wpList_store_ro rfl (.tmp 3) (.tmp 5) rfl rfl rfl row26 N2 (by rw [vals_length]; rfl) (by rw [vals_length]; exact H32.out) (vals_one _) ?_)
  intro w3 R3 g3
  have N3 := Lib.hid R3
  have Q3 := Lib.hid ((R2.out.later SM.out).far g3 (fun e => by injection e; have := R2.out.lt; omega))
  have B3 := Lib.hid ((B2.out.trans (SM.out.mono B2.out.size)).grown g3 (by have := B2.out.size; simp; omega) (fun q e => by injection e; have := B2.out.size; omega))
  clear R3 g3 R2 B2 SM N2
  have CB : Hid (Calls Tryd.prog 56 #[.slice (some ⟨w2.heap.size, 0, none⟩) 32 32] w3 fun e w' => e = .returned (.agg (vals (shaS H)).toArray) ∧ Below w3.heap.size w3 w') := Lib.hid (by
    have h := refSum_any w3 (by rw [H32.out]; omega) (c := 32) (N3.out.bs HB.out)
    rwa [H32.out] at h)
  go_wp2_with fail
  refine CB.out.mono ?_
  rintro e w4 ⟨rfl, hb⟩
  have R4 := Lib.hid (Q3.out.later hb)
  have B4 := Lib.hid (B3.out.trans (hb.mono B3.out.size))
  clear hb Q3 B3 CB
  go_wp2_with (refine wpList_store_ro rfl (.tmp 2) (.tmp 7) rfl rfl rfl row26 R4.out (by rw [vals_length]; rfl) (by rw [vals_length]; exact shaS_len _) (vals_one _) ?_)
  intro w5 R5 g5
  go_wp2_with fail
  exact bodyPost_ret (results_ro Tryd.results37 _ rfl row26 R5 (by rw [vals_length]; exact shaS_len _)) rfl ⟨by rw [HH.out], B4.out.grown g5 B4.out.size (fun q e => by injection e; omega)⟩
end Go.Proofs.YtbdjcbdnhaddoaaDoor
