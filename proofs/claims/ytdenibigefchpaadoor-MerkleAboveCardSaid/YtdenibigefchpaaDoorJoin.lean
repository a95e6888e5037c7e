/- What two hashes are together: the program's and the reference's. No condition but that the tables lie as laid. -/
import Derived.Test.YtdenibigefchpaaDoorJoinA
import Derived.Deep.RegionLaw
namespace Go.Proofs.YtdenibigefchpaaDoor
open Go.RowKit

theorem shaTwice_m {M : List Nat} {m c : Nat} (hn : M.length = m) (hMb : AllB M) (hm : m ≤ 1099511627776) (w : World) (hLd : Laid w) {A : Option Addr} (hA : Bs w A m M) (hc : m ≤ c) :
    Calls Tryd.prog 27 #[.slice A m c] w fun e w' => e = .returned (.agg (vals (shaS (shaS M))).toArray) ∧ Below w.heap.size w w' := by
  subst hn; exact shaTwice_any hMb hm w hLd hA hc
theorem refTwice_m {M : List Nat} {m c : Nat} {A : Option Addr} (hm : m ≤ 274877906944) (w : World) (hA : Bs w A m M) : Calls Tryd.prog 28 #[.slice A m c] w fun e w' => e = .returned (.agg (vals (shaS (shaS M))).toArray) ∧ Below w.heap.size w w' := by
  obtain rfl := hA.len
  exact refTwice_any hm w hA
section
variable {P : Program} {w : World} {ops : Array Oper} {rest : List Oper} {o : Oper} {a : Act} {Q : Exit → Act → World → Prop} {K : Act → World → Prop} {T S : TypeId} {n b : Nat} {vs zs : List Value} {E : Prop}
theorem step_wp (hg : o.guard = none) (h : Oper.wp P o a w K Q) : if Region.wanted o (yielded ops a.tmps) = true then Oper.wp P o a w K Q else E := by
  have hw : Region.wanted o (yielded ops a.tmps) = true := by simp [Region.wanted, hg]
  rw [if_pos hw]
  exact h
end

set_option maxRecDepth 100000 in
set_option maxHeartbeats 1000000 in
theorem join_any {x y : List Nat} (ox : x.length = 32 ∧ AllB x) (oy : y.length = 32 ∧ AllB y) (w : World) (hLd : Laid w) : Calls Tryd.prog 12 #[.agg (vals x).toArray, .agg (vals y).toArray] w fun e w' => e = .returned (.agg (vals (joinS x y)).toArray) ∧ Below w.heap.size w w' := by
  have z1 := (Below.refl w.heap.size w).alloc (Nat.le_refl _) (.cells (vals x).toArray 24)
  have z2 := z1.alloc z1.size (.cells (vals y).toArray 24)
  have HB := Lib.hid (z2.alloc z2.size (.cells (vals (List.replicate 32 0)).toArray 24)).drew
  have RX := Lib.hid ((((Ro.new w 24 (vals x)).alloc (.cells (vals y).toArray 24)).alloc (.cells (vals (List.replicate 32 0)).toArray 24)).later (Below.refl _ _).drew)
  have r2 := ((Ro.new (w.alloc (.cells (vals x).toArray 24)) 24 (vals y)).alloc (.cells (vals (List.replicate 32 0)).toArray 24)).later (Below.refl _ _).drew
  have r3 := (Ro.new ((w.alloc (.cells (vals x).toArray 24)).alloc (.cells (vals y).toArray 24)) 24 (vals (List.replicate 32 0))).later (Below.refl _ _).drew
  rw [World.size_alloc] at r2
  rw [World.size_alloc, World.size_alloc] at r3
  have RY := Lib.hid r2
  have RZ := Lib.hid r3
  have HO := Lib.hid ox
  have HP := Lib.hid oy
  have HD := Lib.hid hLd
  obtain ⟨I, hI⟩ : ∃ I, joinS x y = I := ⟨_, rfl⟩
  have I32 : Hid (I.length = 32) := Lib.hid (by rw [← hI]; exact joinS_len x y)
  have CI : Hid (shaS (shaS (x ++ y)) = I) := Lib.hid hI
  rw [hI]
  clear z1 z2 r2 r3 ox oy hLd hI
  go_enter Tryd.func12, Tryd.ntmps12
  go_wp2_with fail
  refine wp_region_any (by kernel_rfl) ?_
  change wpAny _ _ _ _ _ _ _ (World.drew _)
  refine wpAny_take (i := 0) (v := ?_) rfl (by kernel_rfl) (by kernel_rfl) (by kernel_rfl) (fun _ _ _ h => h) (Or.inl ⟨by rfl, ?_⟩) ?_
  rotate_left
  · intro w
    go_simp
    with_reducible rfl
  refine wpAny_take (i := 1) (v := ?_) rfl (by kernel_rfl) (by kernel_rfl) (by kernel_rfl) (fun _ _ _ h => h) (Or.inl ⟨by rfl, ?_⟩) ?_
  rotate_left
  · intro w
    go_simp
    with_reducible rfl
  refine wpAny_ready (rs := [2]) (by kernel_rfl) (by simp) ?_
  refine AllReady.cons rfl (fun K hK => ?_) AllReady.nil
  refine step_wp rfl (wp_appFull (.tmp 5) (.tmp 6) rfl rfl (by have q := RX.out.bs HO.out.2; rwa [HO.out.1] at q) rfl (by have q := RY.out.bs HP.out.2; rwa [HP.out.1] at q) (by decide) (by decide) ?_)
  intro A7 c7 w7 hc7 O7 g7
  show K (Act.put _ (some 7) _) _
  have B7 := Lib.hid (HB.out.trans (O7.bel.mono HB.out.size))
  have R7 := Lib.hid (RZ.out.later O7.bel)
  have S7 := Lib.hid O7.reads
  clear O7 g7 HB RZ RX RY
  refine hK _ _ ?_
  clear hK K
  refine wpAny_ready (rs := [3]) (by kernel_rfl) (by simp) ?_
  refine AllReady.cons rfl (fun K hK => ?_) AllReady.nil
  go_simp
  with_reducible refine (shaTwice_m (M := x ++ y) (m := 32 + 32) (by rw [List.length_append, HO.out.1, HP.out.1]) (HO.out.2.app HP.out.2) (by decide) _ (HD.out.later HD.out.lt B7.out) S7.out (by omega)).mono ?_
  rintro e w8 ⟨rfl, hb8⟩
  rw [CI.out]
  have B8 := Lib.hid (B7.out.trans (hb8.mono B7.out.size))
  have R8 := Lib.hid (R7.out.later hb8)
  clear hb8 B7 R7 S7
  have ll := Lib.hid (show (vals I).length = 32 by rw [vals_length]; exact I32.out)
  go_simp
  refine hK _ _ ?_
  clear hK K
  refine wpAny_ready (rs := [4]) (by kernel_rfl) (by simp) ?_
  refine AllReady.cons rfl (fun K hK => ?_) AllReady.nil
  refine step_wp rfl (wp_store_ro (.tmp 4) (.tmp 8) rfl rfl rfl row26 R8.out rfl ll.out (vals_one _) ?_)
  intro w9 R9 g9
  show K (Act.put _ none _) _
  refine hK _ _ ?_
  clear hK K
  refine wpAny_done (by kernel_rfl) ?_ _
  go_wp2_with fail
  exact bodyPost_ret (results_ro Tryd.results12 _ rfl row26 R9 ll.out) rfl ⟨rfl, B8.out.grown g9 B8.out.size (fun q e => by injection e; omega)⟩

set_option maxRecDepth 100000 in
set_option maxHeartbeats 1000000 in
theorem refJoin_any {x y : List Nat} (ox : x.length = 32 ∧ AllB x) (oy : y.length = 32 ∧ AllB y) (w : World) : Calls Tryd.prog 13 #[.agg (vals x).toArray, .agg (vals y).toArray] w fun e w' => e = .returned (.agg (vals (joinS x y)).toArray) ∧ Below w.heap.size w w' := by
  have z1 := (Below.refl w.heap.size w).alloc (Nat.le_refl _) (.cells (vals x).toArray 24)
  have z2 := z1.alloc z1.size (.cells (vals y).toArray 24)
  have HB := Lib.hid (z2.alloc z2.size (.cells (vals (List.replicate 32 0)).toArray 24))
  have RX := Lib.hid (((Ro.new w 24 (vals x)).alloc (.cells (vals y).toArray 24)).alloc (.cells (vals (List.replicate 32 0)).toArray 24))
  have r2 := (Ro.new (w.alloc (.cells (vals x).toArray 24)) 24 (vals y)).alloc (.cells (vals (List.replicate 32 0)).toArray 24)
  have r3 := Ro.new ((w.alloc (.cells (vals x).toArray 24)).alloc (.cells (vals y).toArray 24)) 24 (vals (List.replicate 32 0))
  rw [World.size_alloc] at r2
  rw [World.size_alloc, World.size_alloc] at r3
  have RY := Lib.hid r2
  have RZ := Lib.hid r3
  have o0 := Own.made (Below.refl (((w.alloc (.cells (vals x).toArray 24)).alloc (.cells (vals y).toArray 24)).alloc (.cells (vals (List.replicate 32 0)).toArray 24)).heap.size _) #[] 0 (by decide) rfl
  rw [World.size_alloc, World.size_alloc, World.size_alloc] at o0
  have O0 := Lib.hid o0
  have HO := Lib.hid ox
  have HP := Lib.hid oy
  obtain ⟨I, hI⟩ : ∃ I, joinS x y = I := ⟨_, rfl⟩
  have I32 : Hid (I.length = 32) := Lib.hid (by rw [← hI]; exact joinS_len x y)
  have CI : Hid (shaS (shaS (x ++ y)) = I) := Lib.hid hI
  have ll := Lib.hid (show (vals I).length = 32 by rw [vals_length]; exact I32.out)
  rw [hI]
  clear z1 z2 r2 r3 o0 ox oy hI
  go_enter Tryd.func13, Tryd.ntmps13
  go_wp2_with (at_builtin; refine wpList_app rfl (.tmp 6) (.tmp 7) rfl rfl O0.out rfl (by have q := (RX.out.alloc (.cells #[] 5)).bs HO.out.2; rwa [HO.out.1] at q) (by decide) ?_)
  intro A7 c7 w7 hc7 O7 g7
  have RY7 := Lib.hid (RY.out.later O7.bel)
  have OH7 := Lib.hid O7
  clear O7 g7 RX RY O0
  go_wp2_with (at_builtin; refine wpList_app rfl (.tmp 9) (.tmp 10) rfl rfl OH7.out rfl (by have q := RY7.out.bs HP.out.2; rwa [HP.out.1] at q) (by decide) ?_)
  intro A8 c8 w8 hc8 O8 g8
  have B8 := Lib.hid (HB.out.trans (O8.bel.mono HB.out.size))
  have R8 := Lib.hid (RZ.out.later O8.bel)
  have S8 := Lib.hid O8.reads
  clear O8 g8 OH7 RY7 RZ HB
  go_wp2_with fail
  refine (refTwice_m (M := [] ++ x ++ y) (by decide) _ S8.out).mono ?_
  rintro e w9 ⟨rfl, hb9⟩
  rw [List.nil_append, CI.out]
  have B9 := Lib.hid (B8.out.trans (hb9.mono B8.out.size))
  have R9 := Lib.hid (R8.out.later hb9)
  clear hb9 B8 R8 S8
  go_wp2_with (refine wpList_store_ro rfl (.tmp 4) (.tmp 12) rfl rfl rfl row26 R9.out rfl ll.out (vals_one _) ?_)
  intro w6 R6 g6
  go_wp2_with fail
  exact bodyPost_ret (results_ro Tryd.results13 _ rfl row26 R6 ll.out) rfl ⟨rfl, B9.out.grown g6 B9.out.size (fun q e => by injection e; omega)⟩
end Go.Proofs.YtdenibigefchpaaDoor
