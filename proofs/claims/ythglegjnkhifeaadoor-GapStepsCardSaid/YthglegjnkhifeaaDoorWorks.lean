/- The chapter's examples hold: the statements' anchor. No condition but that the tables lie as laid. -/
import Derived.Test.YthglegjnkhifeaaDoorScript
import Derived.Test.YthglegjnkhifeaaDoorWatch
namespace Go.Proofs.YthglegjnkhifeaaDoor
open Go.RowKit

theorem Is.lit (w : World) (L : List Int) (h : OkI L) : Is (w.alloc (.cells (ivs L).toArray 3)) (some ⟨w.heap.size, 0, none⟩) L.length L :=
  ⟨rfl, h, fun _ => ⟨_, _, rfl, by simp, fun k hk => by
    have R := Ro.new w 3 (ivs L)
    rw [Nat.zero_add]
    exact R.cell (ivs_get L hk)⟩⟩
theorem Is.lit1 (w : World) {x : Int} (h : -9223372036854775808 ≤ x ∧ x ≤ 9223372036854775807) : Is (w.alloc (.cells #[.int .i64 x] 3)) (some ⟨w.heap.size, 0, none⟩) 1 [x] := Is.lit w [x] (okI_one h)
theorem ex1 : watchS [] (max 5 1) = 5 := by decide +kernel
theorem ex2 : watchS [0] (max 5 1) = 6 := by decide +kernel
theorem ex3 : watchS [4, 0] (max 5 1) = 10 := by decide +kernel
theorem ex4 : watchS [7] (max 5 1) = 5 := by decide +kernel
theorem scriptS_one (L : List Nat) (i : Nat) : nth (scriptS L i) 1 = 20 := by
  unfold scriptS
  rw [nth_left (by decide)]; rfl
theorem eq_same {H : List Nat} (h : H.length = 32) : ∀ w, (Op.equalIn 10000 27 (.agg (vals H).toArray) (.agg (vals H).toArray)).run Tryd.prog w = .ok true w := fun w => (eq_hash h h w).trans (by rw [eqB_yes rfl])

set_option maxRecDepth 100000 in
set_option maxHeartbeats 4000000 in
theorem works_any (w : World) (hLd : Laid w) : Calls Tryd.prog 7 #[] w fun e w' => e = .returned (.bool true) ∧ Below w.heap.size w w' := by
  have HD := Lib.hid hLd
  have b1 := (Below.refl w.heap.size w).alloc (Nat.le_refl _) (.cells #[.int .u8 1] 5)
  have CS := script_any (c := 1) (i := 2) (w.alloc (.cells #[.int .u8 1] 5)) (hLd.later hLd.lt b1) (by decide) (by decide) (Bs.lit1 w (x := 1) (by decide))
  unfold scS at CS
  rw [if_neg (by decide)] at CS
  have hS1 := scriptS_one [1] (Int.toNat 2)
  have hS2 := scriptS_len [1] (Int.toNat 2)
  have hS3 : haS [1] 2 = shaS (scriptS [1] (Int.toNat 2)) := by unfold haS; rw [if_neg (by decide)]
  obtain ⟨S, hS⟩ : ∃ S, scriptS [1] (Int.toNat 2) = S := ⟨_, rfl⟩
  rw [hS] at CS hS1 hS2 hS3
  have HCS := Lib.hid CS
  have HS3 := Lib.hid hS3
  have B1 := Lib.hid b1
  have EQ := eq_same (shaS_len S)
  have C1 : Hid (∀ u, Calls Tryd.prog 12 #[.slice none 0 0, .int .i64 5] u fun e w' => e = .returned (.int .i64 5) ∧ Below u.heap.size u w') := Lib.hid (fun u => by
    have q := watch_any (c := 0) (x := 5) u (by decide) (by decide) (Is.nil u none)
    rw [ex1] at q
    exact q)
  have C2 : Hid (∀ u, Calls Tryd.prog 12 #[.slice (some ⟨u.heap.size, 0, none⟩) 1 1, .int .i64 5] (u.alloc (.cells #[.int .i64 0] 3)) fun e w' => e = .returned (.int .i64 6) ∧ Below u.heap.size u w') := Lib.hid (fun u => by
    have q := watch_any (c := 1) (x := 5) _ (by decide) (by decide) (Is.lit1 u (x := 0) (by decide))
    rw [ex2] at q
    exact q.mono fun e w' h => ⟨h.1, ((Below.refl _ u).alloc (Nat.le_refl _) _).trans (h.2.mono (by rw [World.size_alloc]; omega))⟩)
  have C3 : Hid (∀ u, Calls Tryd.prog 12 #[.slice (some ⟨u.heap.size, 0, none⟩) 2 2, .int .i64 5] (u.alloc (.cells #[.int .i64 4, .int .i64 0] 3)) fun e w' => e = .returned (.int .i64 10) ∧ Below u.heap.size u w') := Lib.hid (fun u => by
    have q := watch_any (c := 2) (x := 5) _ (by decide) (by decide) (Is.lit u [4, 0] (fun x hx => by
      rcases List.mem_cons.1 hx with rfl | h
      · decide
      · rw [List.mem_singleton] at h; subst h; decide))
    rw [ex3] at q
    exact q.mono fun e w' h => ⟨h.1, ((Below.refl _ u).alloc (Nat.le_refl _) _).trans (h.2.mono (by rw [World.size_alloc]; omega))⟩)
  have C4 : Hid (∀ u, Calls Tryd.prog 12 #[.slice (some ⟨u.heap.size, 0, none⟩) 1 1, .int .i64 5] (u.alloc (.cells #[.int .i64 7] 3)) fun e w' => e = .returned (.int .i64 5) ∧ Below u.heap.size u w') := Lib.hid (fun u => by
    have q := watch_any (c := 1) (x := 5) _ (by decide) (by decide) (Is.lit1 u (x := 7) (by decide))
    rw [ex4] at q
    exact q.mono fun e w' h => ⟨h.1, ((Below.refl _ u).alloc (Nat.le_refl _) _).trans (h.2.mono (by rw [World.size_alloc]; omega))⟩)
  clear hLd b1 CS hS hS3
  go_enter Tryd.func7, Tryd.ntmps7
  go_wp2_with fail
  refine HCS.out.mono ?_
  rintro e w1 ⟨A1, n1, c1, rfl, hc1, O⟩
  obtain rfl : n1 = 22 := by have := O.len; omega
  obtain ⟨g, cap, hv, _, hlt⟩ := O.row.form (by decide)
  have hA : A1 = some ⟨g, 0, none⟩ := by injection hv
  subst hA
  have BW := Lib.hid (B1.out.trans (O.bel.mono (by rw [World.size_alloc]; omega)))
  have R1 := Lib.hid O.reads
  clear hv O HCS
  go_wp2_with fail
  refine (C1.out _).mono ?_
  rintro e w2 ⟨rfl, hb⟩
  replace BW := Lib.hid (BW.out.trans (hb.mono BW.out.size))
  replace R1 := Lib.hid (R1.out.later hb)
  clear hb
  go_wp2_with fail
  refine (C2.out _).mono ?_
  rintro e w3 ⟨rfl, hb⟩
  replace BW := Lib.hid (BW.out.trans (hb.mono BW.out.size))
  replace R1 := Lib.hid (R1.out.later hb)
  clear hb
  go_wp2_with fail
  refine (C3.out _).mono ?_
  rintro e w4 ⟨rfl, hb⟩
  replace BW := Lib.hid (BW.out.trans (hb.mono BW.out.size))
  replace R1 := Lib.hid (R1.out.later hb)
  clear hb
  go_wp2_with fail
  refine (C4.out _).mono ?_
  rintro e w5 ⟨rfl, hb⟩
  replace BW := Lib.hid (BW.out.trans (hb.mono BW.out.size))
  replace R1 := Lib.hid (R1.out.later hb)
  clear hb C1 C2 C3 C4
  obtain ⟨a, ea, hab, hcel⟩ := R1.out.cel (by decide)
  injection ea with ea
  subst ea
  have k1 := hcel 1 (by decide)
  rw [add_at, hS1] at k1
  have ad := add_at g 0
  have CH := hash_any (c := 1) (i := 2) (w5.alloc (.cells #[.int .u8 1] 5)) (HD.out.later HD.out.lt (BW.out.alloc BW.out.size _)) (by decide) (by decide) (Bs.lit1 w5 (x := 1) (by decide))
  rw [HS3.out] at CH
  have HCH := Lib.hid CH
  clear CH hcel
  go_wp2_with fail
  refine HCH.out.mono ?_
  rintro e w6 ⟨rfl, hb⟩
  have hb' : Below w5.heap.size w5 w6 := ((Below.refl _ w5).alloc (Nat.le_refl _) _).trans (hb.mono (by rw [World.size_alloc]; omega))
  replace BW := Lib.hid (BW.out.trans (hb'.mono BW.out.size))
  replace R1 := Lib.hid (R1.out.later hb')
  clear hb hb' HCH k1
  have CT := Lib.hid (refSum_any (c := c1) w6 (by decide) R1.out)
  go_wp2_with fail
  refine CT.out.mono ?_
  rintro e w7 ⟨rfl, hb⟩
  replace BW := Lib.hid (BW.out.trans (hb.mono BW.out.size))
  clear hb CT
  go_wp2_with fail
  go_ret
  exact ⟨rfl, BW.out⟩
end Go.Proofs.YthglegjnkhifeaaDoor
