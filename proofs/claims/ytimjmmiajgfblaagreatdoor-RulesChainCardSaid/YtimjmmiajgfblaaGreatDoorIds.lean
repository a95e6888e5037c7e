/- A header's hash: the program's and the reference's. No condition but that the tables lie as laid. -/
import Derived.Test.YtimjmmiajgfblaaGreatDoorRefs
import Derived.Test.YtimjmmiajgfblaaGreatDoorGal

namespace Go.Proofs.YtimjmmiajgfblaaGreatDoor
open Go.RowKit

theorem shaTwice_m {M : List Nat} {m c : Nat} (hn : M.length = m) (hMb : AllB M) (hm : m ≤ 1099511627776) (w : World) (hLd : Laid w) {A : Option Addr} (hA : Bs w A m M) (hc : m ≤ c) :
    Calls Tryz.prog 67 #[.slice A m c] w fun e w' => e = .returned (.agg (vals (shaS (shaS M))).toArray) ∧ Below w.heap.size w w' := by
  subst hn; exact shaTwice_any hMb hm w hLd hA hc
theorem refTwice_m {M : List Nat} {m c : Nat} {A : Option Addr} (hm : m ≤ 274877906944) (w : World) (hA : Bs w A m M) : Calls Tryz.prog 49 #[.slice A m c] w fun e w' => e = .returned (.agg (vals (shaS (shaS M))).toArray) ∧ Below w.heap.size w w' := by
  obtain rfl := hA.len
  exact refTwice_any hm w hA
/-- A header's hash. -/
def idS (h : Hd) : List Nat := shaS (shaS (hdB h))
theorem idS_len (h : Hd) : (idS h).length = 32 := shaS_len _
theorem idS_byt (h : Hd) : AllB (idS h) := shaS_byt _

set_option maxRecDepth 100000 in
set_option maxHeartbeats 1000000 in
theorem id_any {h : Hd} (o : h.Ok) (w : World) (hLd : Laid w) : Calls Tryz.prog 35 #[.agg (hdV h).toArray] w fun e w' => e = .returned (.agg (vals (idS h)).toArray) ∧ Below w.heap.size w w' := by
  have z1 := (Below.refl w.heap.size w).alloc (Nat.le_refl _) (.cells (hdV h).toArray 27)
  have HB := Lib.hid (z1.alloc z1.size (.cells (vals (List.replicate 32 0)).toArray 25))
  have HH := Lib.hid ((Ro.new w 27 (hdV h)).alloc (.cells (vals (List.replicate 32 0)).toArray 25))
  have R1 := Ro.new (w.alloc (.cells (hdV h).toArray 27)) 25 (vals (List.replicate 32 0))
  rw [World.size_alloc] at R1
  have HR := Lib.hid R1
  have HO := Lib.hid o
  have HD := Lib.hid hLd
  have ll := Lib.hid (hdV_len o)
  obtain ⟨I, hI⟩ : ∃ I, idS h = I := ⟨_, rfl⟩
  have I32 : Hid (I.length = 32) := Lib.hid (by rw [← hI]; exact idS_len h)
  have CI : Hid (shaS (shaS (hdB h)) = I) := Lib.hid hI
  rw [hI]
  clear z1 R1 o hLd hI
  go_enter Tryz.func35, Tryz.ntmps35
  go_wp2_with (refine wpList_load_ro rfl (.tmp 1) rfl rfl rowHd HH.out ll.out ?_)
  refine (put_any HO.out _).mono ?_
  rintro e w2 ⟨b, rfl, hbs, hr, hb⟩
  have B2 := Lib.hid (HB.out.trans (hb.mono HB.out.size))
  have R2 := Lib.hid (HR.out.later hb)
  have P2 := Lib.hid hr
  clear hbs hr hb HR HB HH
  go_wp2_with fail
  refine (shaTwice_m (M := hdB h) (m := 80) (hdB_len HO.out) (hdB_byt HO.out) (by decide) _ (HD.out.later HD.out.lt B2.out) (by have q := P2.out.bs (hdB_byt HO.out); rwa [hdB_len HO.out] at q) (Nat.le_refl _)).mono ?_
  rintro e w3 ⟨rfl, hb⟩
  rw [CI.out]
  have B3 := Lib.hid (B2.out.trans (hb.mono B2.out.size))
  have R3 := Lib.hid (R2.out.later hb)
  clear hb B2 R2 P2
  go_wp2_with (refine wpList_store_ro rfl (.tmp 2) (.tmp 5) rfl rfl rfl row32 R3.out rfl (by rw [vals_length]; exact I32.out) (vals_one _) ?_)
  intro w6 R6 g6
  go_wp2_with fail
  exact bodyPost_ret (results_ro Tryz.results35 _ rfl row32 R6 (by rw [vals_length]; exact I32.out)) rfl ⟨rfl, B3.out.grown g6 B3.out.size (fun q e => by injection e; omega)⟩

set_option maxRecDepth 100000 in
set_option maxHeartbeats 1000000 in
theorem refId_any {h : Hd} (o : h.Ok) (w : World) : Calls Tryz.prog 22 #[.agg (hdV h).toArray] w fun e w' => e = .returned (.agg (vals (idS h)).toArray) ∧ Below w.heap.size w w' := by
  have z1 := (Below.refl w.heap.size w).alloc (Nat.le_refl _) (.cells (hdV h).toArray 27)
  have HB := Lib.hid (z1.alloc z1.size (.cells (vals (List.replicate 32 0)).toArray 25))
  have HH := Lib.hid ((Ro.new w 27 (hdV h)).alloc (.cells (vals (List.replicate 32 0)).toArray 25))
  have R1 := Ro.new (w.alloc (.cells (hdV h).toArray 27)) 25 (vals (List.replicate 32 0))
  rw [World.size_alloc] at R1
  have HR := Lib.hid R1
  have HO := Lib.hid o
  have ll := Lib.hid (hdV_len o)
  obtain ⟨I, hI⟩ : ∃ I, idS h = I := ⟨_, rfl⟩
  have I32 : Hid (I.length = 32) := Lib.hid (by rw [← hI]; exact idS_len h)
  have CI : Hid (shaS (shaS (hdB h)) = I) := Lib.hid hI
  rw [hI]
  clear z1 R1 o hI
  go_enter Tryz.func22, Tryz.ntmps22
  go_wp2_with (refine wpList_load_ro rfl (.tmp 1) rfl rfl rowHd HH.out ll.out ?_)
  refine (refPut_any HO.out _).mono ?_
  rintro e w2 ⟨A, n, c, rfl, hnc, O⟩
  have hb := O.bel
  have B2 := Lib.hid (HB.out.trans (hb.mono HB.out.size))
  have R2 := Lib.hid (HR.out.later hb)
  have P2 := Lib.hid O.reads
  have N2 : Hid (n = 80) := Lib.hid (by rw [← O.len]; exact hdB_len HO.out)
  clear O hb HR HB HH
  go_wp2_with fail
  refine (refTwice_m (M := hdB h) (by rw [N2.out]; decide) _ P2.out).mono ?_
  rintro e w3 ⟨rfl, hb⟩
  rw [CI.out]
  have B3 := Lib.hid (B2.out.trans (hb.mono B2.out.size))
  have R3 := Lib.hid (R2.out.later hb)
  clear hb B2 R2 P2
  go_wp2_with (refine wpList_store_ro rfl (.tmp 2) (.tmp 5) rfl rfl rfl row32 R3.out rfl (by rw [vals_length]; exact I32.out) (vals_one _) ?_)
  intro w6 R6 g6
  go_wp2_with fail
  exact bodyPost_ret (results_ro Tryz.results22 _ rfl row32 R6 (by rw [vals_length]; exact I32.out)) rfl ⟨rfl, B3.out.grown g6 B3.out.size (fun q e => by injection e; omega)⟩
end Go.Proofs.YtimjmmiajgfblaaGreatDoor
