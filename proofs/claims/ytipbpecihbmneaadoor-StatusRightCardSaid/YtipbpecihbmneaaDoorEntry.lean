/- An entry is written behind what the writer holds. No condition but bounds, and that the tables lie as laid. -/
import Derived.Test.YtipbpecihbmneaaDoorBuf
import Derived.Test.YtipbpecihbmneaaDoorEs
import Derived.Test.YtipbpecihbmneaaDoorTurned
import Derived.Test.YtipbpecihbmneaaDoorLast
import Derived.Test.YtipbpecihbmneaaDoorEnd
import Derived.Test.YtipbpecihbmneaaDoorTextR
namespace Go.Proofs.YtipbpecihbmneaaDoor
open Go.RowKit

/-- The writer holds L, the entry lies in box q; of what lay below B nothing has turned. -/
structure EnS (x : En) (w0 : World) (B b q : Nat) (L : List Nat) (w : World) : Prop where
  buf : Buf B b L w
  box : Ro w q 29 (enV x)
  bel : Below B w0 w
theorem EnS.later {x : En} {w0 w w1 : World} {B b q : Nat} {L : List Nat} (h : EnS x w0 B b q L w) (g : Below w.heap.size w w1) (hB : B ≤ w0.heap.size) : EnS x w0 B b q L w1 :=
  ⟨LibA.IsBuffer.old h.buf g, h.box.later g, h.bel.trans (g.mono (Nat.le_trans hB h.bel.size))⟩

set_option maxRecDepth 100000 in
set_option maxHeartbeats 4000000 in
theorem entry_any {x : En} (ok : x.Ok) {B b : Nat} {L : List Nat} (w : World) (hLd : Laid w) (h4 : 4 ≤ B) (hb : Buf B b L w) (hB : B ≤ w.heap.size) (hl : L.length ≤ 1000000000) :
    Calls Tryd.prog 15 #[.pointer (some ⟨b, 0, none⟩), .agg (enV x).toArray] w fun e w' => e = .returned (.tuple #[]) ∧ Buf B b (L ++ entT x) w' ∧ Below B w w' := by
  have OK := Lib.hid ok
  have HD := Lib.hid (fun w1 (g : Below B w w1) => hLd.later h4 g)
  have SZ := Lib.hid (fun w1 (g : Below B w w1) => Nat.le_trans hB g.size)
  have HB := Lib.hid hB
  have S0 := Lib.hid (show EnS x w B b w.heap.size L (w.alloc (.cells (enV x).toArray 29)) from ⟨LibA.IsBuffer.alloc hb _, Ro.new w 29 (enV x), (Below.refl B w).alloc hB _⟩)
  have NE : Hid (w.heap.size ≠ b) := Lib.hid (by have := Buf.lt hb; omega)
  have TL : Hid (L ++ entT x = L ++ hexL x.tx.reverse ++ [58] ++ digN x.h ++ [58]) := Lib.hid (by simp [entT])
  have l1 : (hexL x.tx.reverse).length = 64 := by rw [hexL_length, List.length_reverse, ok.2.1]
  have l2 := digN_len x.h ok.1
  have b1 := Lib.hid (hexL_byt ok.2.2.revS)
  have b2 := Lib.hid (digN_byt x.h)
  have CT := Lib.hid (turned_any (H := x.tx) ⟨ok.2.1, ok.2.2⟩)
  have lt : Hid ((vals x.tx).length = 32) := Lib.hid (by rw [vals_length]; exact ok.2.1)
  have CI := Lib.hid (fun w1 (g : Below B w w1) => itoa_any ok.1 w1 (hLd.later h4 g))
  obtain ⟨q, hq⟩ : ∃ q, w.heap.size = q := ⟨_, rfl⟩
  obtain ⟨X, hX⟩ : ∃ X, hexL x.tx.reverse = X := ⟨_, rfl⟩
  obtain ⟨D, hD⟩ : ∃ X, digN x.h = X := ⟨_, rfl⟩
  rw [hX] at TL l1 b1
  rw [hD] at TL l2 b2
  have HX := Lib.hid hX
  have HDg := Lib.hid hD
  clear hLd hb hB h4 ok hX hD
  go_enter Tryd.func15, Tryd.ntmps15
  go_wp2_with fail
  rw [hq] at S0 NE
  have HQ := Lib.hid hq
  clear hq
  refine wp_region_last 6 (by kernel_rfl) (Nat.le_of_ble_eq_true (by kernel_rfl)) (by kernel_rfl) (by kernel_rfl) (by kernel_rfl) (by kernel_rfl) (fun _ _ _ _ _ h => h) ?_
  apply Exists.intro
  refine ⟨?_, ?_⟩
  · intro wg hg
    simp only [List.take_succ_cons, List.take_zero]
    have SG := Lib.hid (S0.out.later hg HB.out)
    have CTt : Hid (∀ u : After wg, Calls Tryd.prog 27 #[.agg (vals x.tx).toArray] u.w fun e w' => e = .returned (.string (strB X)) ∧ Below u.w.heap.size u.w w') := Lib.hid (fun u => by rw [← HX.out]; exact CT.out u.w)
    repeat (go_big_quiet_step (fail))
    go_big_quiet_want
    refine quiet_load_part (.tmp 7) rfl rfl row26 (fun w9 h9 => by obtain ⟨u, rfl⟩ := h9; exact range_tx (fun j v hj => by rw [Nat.zero_add]; exact (SG.out.box.later u.below).cell hj)) lt.out ?_
    simp only [Act.put, List.setIfInBounds_toArray, List.set_cons_succ, List.set_cons_zero]
    go_big_quiet_on
    go_big_quiet_step (exact after_call (CTt.out _))
    refine wpQuiet_nil ?_
    exact rfl
  intro wg hg
  simp only [List.drop_succ_cons, List.drop_zero]
  have SG := Lib.hid (S0.out.later hg HB.out)
  clear hg S0
  have W1 := Lib.hid (writeString_any SG.out.buf b1.out (SZ.out _ SG.out.bel) (by omega))
  go_wp2_with fail
  refine W1.out.mono ?_
  rintro e w2 ⟨⟨v, rfl⟩, hb2, hbel, hk⟩
  have S2 := Lib.hid (show EnS x w B b q (L ++ X) w2 from ⟨hb2, SG.out.box.kept hk NE.out (by decide), SG.out.bel.trans hbel⟩)
  clear hb2 hbel hk W1 SG
  have W2 := Lib.hid (writeByte_any (c := 58) S2.out.buf (SZ.out _ S2.out.bel) (by rw [List.length_append]; omega))
  go_wp2_with fail
  refine W2.out.mono ?_
  rintro e w3 ⟨rfl, hb2, hbel, hk⟩
  have S3 := Lib.hid (show EnS x w B b q (L ++ X ++ [58]) w3 from ⟨hb2, S2.out.box.kept hk NE.out (by decide), S2.out.bel.trans hbel⟩)
  clear hb2 hbel hk W2 S2
  go_wp2_with fail
  refine wp_region_last 6 (by kernel_rfl) (Nat.le_of_ble_eq_true (by kernel_rfl)) (by kernel_rfl) (by kernel_rfl) (by kernel_rfl) (by kernel_rfl) (fun _ _ _ _ _ h => h) ?_
  apply Exists.intro
  refine ⟨?_, ?_⟩
  · intro wg hg
    simp only [List.take_succ_cons, List.take_zero]
    have SG := Lib.hid (S3.out.later hg HB.out)
    have ch : ∀ u : After wg, u.w.cell? ⟨q, 0, none⟩ = some (.int .i64 x.h) := fun u => (SG.out.box.later u.below).cell rfl
    have CIi : Hid (∀ u : After wg, Calls Tryd.prog 29 #[.int .i64 x.h] u.w fun e w' => e = .returned (.string (strB D)) ∧ Below u.w.heap.size u.w w') := Lib.hid (fun u => by rw [← HDg.out]; exact CI.out u.w (SG.out.later u.below HB.out).bel)
    repeat (go_big_quiet_step (fail))
    go_big_quiet_step (exact after_call (CIi.out _))
    refine wpQuiet_nil ?_
    exact rfl
  intro wg hg
  simp only [List.drop_succ_cons, List.drop_zero]
  have SG := Lib.hid (S3.out.later hg HB.out)
  clear hg S3
  have W1 := Lib.hid (writeString_any SG.out.buf b2.out (SZ.out _ SG.out.bel) (by rw [List.length_append, List.length_append, List.length_singleton]; omega))
  go_wp2_with fail
  refine W1.out.mono ?_
  rintro e w4 ⟨⟨v, rfl⟩, hb2, hbel, hk⟩
  have S4 := Lib.hid (show EnS x w B b q (L ++ X ++ [58] ++ D) w4 from ⟨hb2, SG.out.box.kept hk NE.out (by decide), SG.out.bel.trans hbel⟩)
  clear hb2 hbel hk W1 SG
  have W2 := Lib.hid (writeByte_any (c := 58) S4.out.buf (SZ.out _ S4.out.bel) (by rw [List.length_append, List.length_append, List.length_append, List.length_singleton]; omega))
  go_wp2_with fail
  refine W2.out.mono ?_
  rintro e w5 ⟨rfl, hb2, hbel, hk⟩
  have F : Hid (Buf B b (L ++ entT x) w5 ∧ Below B w w5) := Lib.hid ⟨by rw [TL.out]; exact hb2, S4.out.bel.trans hbel⟩
  clear hb2 hbel hk W2 S4
  go_wp2_with fail
  first | go_end0 | go_ret | go_ret2
  exact ⟨rfl, F.out⟩
end Go.Proofs.YtipbpecihbmneaaDoor
