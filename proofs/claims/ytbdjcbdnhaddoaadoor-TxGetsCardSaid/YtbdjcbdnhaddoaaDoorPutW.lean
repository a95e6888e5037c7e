/- A transaction's bytes, its bare bytes, and its hash, as the program gives them. No condition but a bound on its weight, and for the hash that the tables lie as laid. -/
import Derived.Test.YtbdjcbdnhaddoaaDoorPutP
import Derived.Test.YtbdjcbdnhaddoaaDoorSeg
import Derived.Test.YtbdjcbdnhaddoaaDoorRTwice
namespace Go.Proofs.YtbdjcbdnhaddoaaDoor
open Go.RowKit

theorem shaTwice_m {M : List Nat} {m c : Nat} (hn : M.length = m) (hMb : AllB M) (hm : m ≤ 1099511627776) (w : World) (hLd : Laid w) {A : Option Addr} (hA : Bs w A m M) (hc : m ≤ c) :
    Calls Tryd.prog 36 #[.slice A m c] w fun e w' => e = .returned (.agg (vals (shaS (shaS M))).toArray) ∧ Below w.heap.size w w' := by
  subst hn; exact shaTwice_any hMb hm w hLd hA hc
theorem refTwice_m {M : List Nat} {m c : Nat} {A : Option Addr} (hm : m ≤ 274877906944) (w : World) (hA : Bs w A m M) : Calls Tryd.prog 37 #[.slice A m c] w fun e w' => e = .returned (.agg (vals (shaS (shaS M))).toArray) ∧ Below w.heap.size w w' := by
  obtain rfl := hA.len
  exact refTwice_any hm w hA
/-- A transaction's hash. -/
def idS (t : TxD) : List Nat := shaS (shaS (bareS t))
theorem GivesB.mono_ {w0 w : World} {L : List Nat} (b : Below w0.heap.size w0 w) {e : Ending} {w' : World} (h : GivesB w L e w') : GivesB w0 L e w' := by
  obtain ⟨A, n, c, e1, h1, h2⟩ := h
  exact ⟨A, n, c, e1, h1, h2.weaken b⟩
theorem txV_len (v : Nat) (Ai : Option Addr) (ni ci : Nat) (Ao : Option Addr) (no co l : Nat) : (txV v Ai ni ci Ao no co l).length = 4 := rfl

set_option maxRecDepth 100000 in
set_option maxHeartbeats 4000000 in
theorem txBare_any {t : TxD} {Ai : Option Addr} {ni ci : Nat} {Ao : Option Addr} {no co : Nat} (w : World) (hw : weigh t ≤ 100000000) (hT : TxR w t Ai ni ci Ao no co) :
    Calls Tryd.prog 15 #[.agg (txV t.ver Ai ni ci Ao no co t.lock).toArray] w (GivesB w (bareS t)) := by
  have B1 := Lib.hid ((Below.refl w.heap.size w).alloc (Nat.le_refl _) (.cells (txV t.ver Ai ni ci Ao no co t.lock).toArray 26))
  have R1 := Lib.hid (Ro.new w 26 (txV t.ver Ai ni ci Ao no co t.lock))
  have CP := Lib.hid (put_any false (w.alloc (.cells (txV t.ver Ai ni ci Ao no co t.lock).toArray 26)) hw (hT.later B1.out))
  have lT := Lib.hid (txV_len t.ver Ai ni ci Ao no co t.lock)
  clear hT
  go_enter Tryd.func15, Tryd.ntmps15
  go_wp2_with (refine wpList_load_ro rfl (.tmp 1) rfl rfl rowTx R1.out lT.out ?_)
  refine CP.out.mono ?_
  rintro e w1 ⟨A, n, c, rfl, hc, O⟩
  have HO := Lib.hid (O.weaken B1.out)
  clear O CP
  go_wp2_with fail
  go_ret
  exact ⟨A, n, c, rfl, hc, HO.out⟩

set_option maxRecDepth 100000 in
set_option maxHeartbeats 4000000 in
theorem txPut_any {t : TxD} {Ai : Option Addr} {ni ci : Nat} {Ao : Option Addr} {no co : Nat} (w : World) (hw : weigh t ≤ 100000000) (hT : TxR w t Ai ni ci Ao no co) :
    Calls Tryd.prog 13 #[.agg (txV t.ver Ai ni ci Ao no co t.lock).toArray] w (GivesB w (putS t)) := by
  obtain ⟨w1, hw1⟩ : ∃ w1, w.alloc (.cells (txV t.ver Ai ni ci Ao no co t.lock).toArray 26) = w1 := ⟨_, rfl⟩
  have b1 := (Below.refl w.heap.size w).alloc (Nat.le_refl _) (.cells (txV t.ver Ai ni ci Ao no co t.lock).toArray 26)
  have r1 := Ro.new w 26 (txV t.ver Ai ni ci Ao no co t.lock)
  rw [hw1] at b1 r1
  have B1 := Lib.hid b1
  obtain ⟨q, hq⟩ : ∃ q, w.heap.size = q := ⟨_, rfl⟩
  rw [hq] at r1
  have R1 := Lib.hid r1
  have T1 := Lib.hid (hT.later b1)
  have lT := Lib.hid (txV_len t.ver Ai ni ci Ao no co t.lock)
  have PS := Lib.hid (putB_seen t)
  have CW : Hid (∀ u : World, Below w1.heap.size w1 u → Calls Tryd.prog 30 #[.agg (txV t.ver Ai ni ci Ao no co t.lock).toArray] u fun e w' => e = .returned (.bool (seen t)) ∧ Below u.heap.size u w') := Lib.hid (fun u g => witnessed_any u (T1.out.later g))
  have CP : Hid (∀ u : World, Below w1.heap.size w1 u → Calls Tryd.prog 29 #[.agg (txV t.ver Ai ni ci Ao no co t.lock).toArray, .bool (seen t)] u (GivesB u (putS t))) := Lib.hid (fun u g => put_any (seen t) u hw (T1.out.later g))
  obtain ⟨V, hV⟩ : ∃ V, txV t.ver Ai ni ci Ao no co t.lock = V := ⟨_, rfl⟩
  rw [hV] at hw1 R1 lT CW CP ⊢
  obtain ⟨s, hs⟩ : ∃ s, seen t = s := ⟨_, rfl⟩
  rw [hs] at CW CP
  clear hT b1 r1 hV hs
  go_enter Tryd.func13, Tryd.ntmps13
  go_wp2_with fail
  clear hw1 hq
  refine wp_region_seg (W := w1) (by kernel_rfl) fun wa ga => ?_
  refine wpK_seg 0 3 (f := 2) (by kernel_rfl) (fun _ _ _ _ _ h => h) (by kernel_rfl) (by kernel_rfl) (by kernel_rfl) ga ?_
  apply Exists.intro
  refine ⟨?_, ?_⟩
  · intro wg hg
    simp only [List.drop_zero, List.take_succ_cons, List.take_zero]
    have Rg := Lib.hid (R1.out.later hg)
    have CWg : Hid (∀ u : After wg, Calls Tryd.prog 30 #[.agg V.toArray] u.w fun e w' => e = .returned (.bool s) ∧ Below u.w.heap.size u.w w') := Lib.hid (fun u => CW.out u.w (hg.trans u.below))
    go_big_quiet_want
    refine quiet_load_part (.tmp 1) rfl rfl rowTx (fun w9 h9 => by obtain ⟨u, rfl⟩ := h9; exact range_later Rg.out.whole Rg.out.lt u.below) lT.out ?_
    simp only [Act.put, List.setIfInBounds_toArray, List.set_cons_succ, List.set_cons_zero]
    go_big_quiet_on
    go_big_quiet_want
    refine quiet_load_part (.tmp 1) rfl rfl rowTx (fun w9 h9 => by obtain ⟨u, rfl⟩ := h9; exact range_later Rg.out.whole Rg.out.lt u.below) lT.out ?_
    simp only [Act.put, List.setIfInBounds_toArray, List.set_cons_succ, List.set_cons_zero]
    go_big_quiet_on
    go_big_quiet_step (exact after_call (CWg.out _))
    refine wpQuiet_nil ?_
    exact rfl
  refine wpK_call (f := 1) (i := 3) (by kernel_rfl) rfl rfl ga ?_
  intro wb gb K hK
  go_simp
  refine (CP.out wb gb).mono ?_
  rintro e w2 ⟨A, n, c, rfl, hc, O⟩
  refine hK _ _ O.bel ?_
  have GO := Lib.hid (Grows.trans gb O.bel)
  have HO := Lib.hid ((O.weaken gb).weaken B1.out)
  clear hK K gb CP ga O
  refine wpK_from GO.out _ _ _ _ ?_
  refine wpK_seg 4 1 (f := 0) (by kernel_rfl) (fun _ _ _ _ _ h => h) (by kernel_rfl) (by kernel_rfl) (by kernel_rfl) (Grows.refl w2) ?_
  apply Exists.intro
  refine ⟨?_, ?_⟩
  · intro wg hg
    simp only [List.drop_succ_cons, List.drop_zero, List.take_succ_cons, List.take_zero]
    repeat (go_big_quiet_step (fail))
    refine wpQuiet_nil ?_
    exact rfl
  refine wpK_end (by kernel_rfl) fun w7 g7 => ?_
  have H7 := Lib.hid (HO.out.later g7)
  clear g7 HO
  go_wp2_with fail
  go_ret
  exact ⟨A, n, c, rfl, hc, H7.out⟩

set_option maxRecDepth 100000 in
set_option maxHeartbeats 4000000 in
theorem txId_any {t : TxD} {Ai : Option Addr} {ni ci : Nat} {Ao : Option Addr} {no co : Nat} (w : World) (hLd : Laid w) (hw : weigh t ≤ 100000000) (hT : TxR w t Ai ni ci Ao no co) :
    Calls Tryd.prog 17 #[.agg (txV t.ver Ai ni ci Ao no co t.lock).toArray] w fun e w' => e = .returned (.agg (vals (idS t)).toArray) ∧ Below w.heap.size w w' := by
  have hl := (put_len hT.ok).2
  have hb := Lib.hid (bareS_byt hT.ok)
  have z1 := (Below.refl w.heap.size w).alloc (Nat.le_refl _) (.cells (txV t.ver Ai ni ci Ao no co t.lock).toArray 26)
  have z2 := z1.alloc z1.size (.cells (vals (List.replicate 32 0)).toArray 32)
  have HX := Lib.hid ((Ro.new w 26 (txV t.ver Ai ni ci Ao no co t.lock)).alloc (.cells (vals (List.replicate 32 0)).toArray 32))
  have R1 := Ro.new (w.alloc (.cells (txV t.ver Ai ni ci Ao no co t.lock).toArray 26)) 32 (vals (List.replicate 32 0))
  rw [World.size_alloc] at R1
  have HR := Lib.hid R1
  have HB := Lib.hid z2
  have HD := Lib.hid hLd
  have CB := Lib.hid (txBare_any ((w.alloc (.cells (txV t.ver Ai ni ci Ao no co t.lock).toArray 26)).alloc (.cells (vals (List.replicate 32 0)).toArray 32)) hw (hT.later z2))
  have lT := Lib.hid (txV_len t.ver Ai ni ci Ao no co t.lock)
  obtain ⟨I, hI⟩ : ∃ I, idS t = I := ⟨_, rfl⟩
  have I32 : Hid ((vals I).length = 32) := Lib.hid (by rw [← hI, vals_length]; exact shaS_len _)
  have CI : Hid (shaS (shaS (bareS t)) = I) := Lib.hid hI
  rw [hI]
  obtain ⟨M, hM⟩ : ∃ M, bareS t = M := ⟨_, rfl⟩
  rw [hM] at CI CB hb hl
  clear z1 z2 R1 hLd hI hT hM
  go_enter Tryd.func17, Tryd.ntmps17
  go_wp2_with (refine wpList_load_ro rfl (.tmp 1) rfl rfl rowTx HX.out lT.out ?_)
  refine CB.out.mono ?_
  rintro e w2 ⟨A, n, c, rfl, hc, O⟩
  have B2 := Lib.hid (HB.out.trans (O.bel.mono HB.out.size))
  have R2 := Lib.hid (HR.out.later O.bel)
  have LN := O.len
  have CT := shaTwice_m (c := c) LN hb.out (by omega) w2 (HD.out.later HD.out.lt B2.out) O.reads hc
  rw [CI.out] at CT
  have HCT := Lib.hid CT
  clear O CT CB HR HB HX LN
  go_wp2_with fail
  refine HCT.out.mono ?_
  rintro e w3 ⟨rfl, hb⟩
  have B3 := Lib.hid (B2.out.trans (hb.mono B2.out.size))
  have R3 := Lib.hid (R2.out.later hb)
  clear hb B2 R2 HCT
  go_wp2_with (refine wpList_store_ro rfl (.tmp 2) (.tmp 5) rfl rfl rfl row26 R3.out rfl I32.out (vals_one _) ?_)
  intro w6 R6 g6
  go_wp2_with fail
  exact bodyPost_ret (results_ro Tryd.results17 _ rfl row26 R6 I32.out) rfl ⟨rfl, B3.out.grown g6 B3.out.size (fun q e => by injection e; omega)⟩
end Go.Proofs.YtbdjcbdnhaddoaaDoor
