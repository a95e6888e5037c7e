/- The chapter's example. No condition. -/
import Derived.Test.YtgnomopiofpknaaWkS
import Derived.Lib.SmallJoins
import Derived.Deep.OwnRows
namespace Go.Proofs.Ytgnomopiofpknaa
open Go.RowKit

/-- Bytes of a text's literal: their block bears a mark. -/
theorem Bs.litM (w : World) (L : List Nat) (h : AllB L) (fr : Nat × Nat) : Bs (w.alloc (.cells (vals L).toArray 5 fr)) (some ⟨w.heap.size, 0, none⟩) L.length L := by
  refine ⟨rfl, h, fun _ => ⟨_, rfl, by simp, fun k hk => ?_⟩⟩
  have e : (⟨w.heap.size, 0, none⟩ : Addr).add k = ⟨w.heap.size, k, none⟩ := by unfold Addr.add; split <;> simp_all
  rw [e]
  have hh := heap_alloc_new w (.cells (vals L).toArray 5 fr)
  unfold World.cell?
  simp only [hh]
  simpa using vals_get L k hk
theorem run_make_bytes (n c : Nat) (l k : Int) (hl : l = n) (hk : k = c) (hnc : n ≤ c) (hc : c ≤ 1099511627776) (W : World) :
    (Instr.makeSlice 33 (.int .i64 l) (.int .i64 k)).run Try.prog W = .ok (.slice (some ⟨W.heap.size, 0, none⟩) n c) (W.alloc (.cells (vals (List.replicate c 0)).toArray 5)) := by
  obtain ⟨i0, hi, hz0, hz1, hz2⟩ := info_parts Try.infoByte
  subst hl hk
  rw [run_make (P := Try.prog) W 33 5 i0 (.int .u8 0) Try.underlying33 hi hz0 .i64 .i64 (n : Int) (c : Int) (by omega) (by omega) (by rw [hz2]; omega) (by omega), hz1]
  have e : (madeCells (Value.int .u8 0).cells c) = (vals (List.replicate c 0)).toArray := by
    apply Array.toList_inj.1
    show (madeCells #[Value.int .u8 0] c).toList = _
    rw [toList_madeCells_one, vals, List.map_replicate]; rfl
  rw [Int.toNat_natCast, Int.toNat_natCast, Nat.mul_one, e]

set_option maxRecDepth 100000 in
set_option maxHeartbeats 16000000 in
theorem works_any (w : World) : Calls Try.prog 9 #[] w fun e w' => e = .returned (.bool true) ∧ Below w.heap.size w w' := by
  have HN := Lib.hid (new_any (w := w) (m := 10) (by decide) (by decide))
  have D9 : Hid (∀ V : List Value, dkV (newD 10) nilS nilS nilS nilS = V → Dq w w.heap.size q0 (w.alloc (.cells V.toArray 60))) := Lib.hid (by rintro V rfl; exact ⟨_, Dsk.new (Below.refl _ _) (by decide)⟩)
  obtain ⟨V, hV⟩ : ∃ V, dkV (newD 10) nilS nilS nilS nilS = V := ⟨_, rfl⟩
  have D0 := Lib.hid (D9.out V hV)
  rw [hV] at HN
  obtain ⟨W0, hw1⟩ : ∃ w1, w.alloc (.cells V.toArray 60) = w1 := ⟨_, rfl⟩
  rw [hw1] at HN D0
  clear D9 hV hw1
  obtain ⟨d, hd⟩ : ∃ d, w.heap.size = d := ⟨_, rfl⟩
  rw [hd] at HN D0
  have HD := Lib.hid hd
  clear hd
  go_enter Try.func9, Try.ntmps9
  go_wp2_with fail
  refine (HN.out).mono ?_
  rintro e w' ⟨rfl, ew⟩
  subst w'
  have g0 : Hid (Below W0.heap.size W0 (W0.alloc (.cells (vals [97, 98, 99, 100]).toArray 5 (4, 5)))) := Lib.hid ((Below.refl _ _).alloc (Nat.le_refl _) _)
  have L0 : Hid (Bs (W0.alloc (.cells (vals [97, 98, 99, 100]).toArray 5 (4, 5))) (some ⟨W0.heap.size, 0, none⟩) 4 [97, 98, 99, 100]) := Lib.hid (Bs.litM W0 [97, 98, 99, 100] (fun x hx => by simp at hx; omega) (4, 5))
  have ne0 : Hid (W0.heap.size ≠ d) := Lib.hid (by have := D0.out.lt; omega)
  have k0 := Go.Joins.run_convert_bytes_const_at (P := Try.prog) W0 33 5 #[.int .u8 97, .int .u8 98, .int .u8 99, .int .u8 100] 4 4 W0.heap.size rfl Try.underlying33 Try.underlying5
  go_wp2_with fail
  refine (write_q (D0.out.later g0.out) (by decide) 0 L0.out (fun _ a e => by injection e with e; subst e; exact ne0.out) (Nat.le_refl _) (by decide) (S' := q1) an1.1 rfl).mono ?_
  rintro e W1 ⟨rfl, D'⟩
  have D1 := Lib.hid D'
  clear D' D0 k0 g0 L0 ne0
  go_wp2_with fail
  refine (room_q D1.out an1.2.1).mono ?_
  rintro e W2 ⟨rfl, D'⟩
  have D2 := Lib.hid D'
  clear D' D1
  have g2 : Hid (Below W2.heap.size W2 (W2.alloc (.cells (vals (List.replicate 7 0)).toArray 5))) := Lib.hid ((Below.refl _ _).alloc (Nat.le_refl _) _)
  have L2 : Hid (Bs (W2.alloc (.cells (vals (List.replicate 7 0)).toArray 5)) (some ⟨W2.heap.size, 0, none⟩) 7 (List.replicate 7 0)) := Lib.hid (Bs.lit W2 (List.replicate 7 0) (fun x hx => by have := List.eq_of_mem_replicate hx; omega))
  have ne2 : Hid (W2.heap.size ≠ d) := Lib.hid (by have := D2.out.lt; omega)
  have k2 := run_make_bytes 7 7 7 7 rfl rfl (Nat.le_refl _) (by decide) W2
  go_wp2_with fail
  refine (write_q (D2.out.later g2.out) (by decide) 1 L2.out (fun _ a e => by injection e with e; subst e; exact ne2.out) (Nat.le_refl _) (by decide) (S' := q1) (by rw [an1.2.2.1]) (by rw [an1.2.2.1])).mono ?_
  rintro e W3 ⟨rfl, D'⟩
  have D3 := Lib.hid D'
  clear D' D2 k2 g2 L2 ne2
  go_wp2_with fail
  refine (off_q D3.out (S' := q3) an1.2.2.2.1 rfl).mono ?_
  rintro e W4 ⟨rfl, D'⟩
  have D4 := Lib.hid D'
  clear D' D3
  go_wp2_with fail
  refine (sync_q D4.out (by decide) 0 (S' := q3) (by rw [an1.2.2.2.2.1]) (by rw [an1.2.2.2.2.1])).mono ?_
  rintro e W5 ⟨rfl, D'⟩
  have D5 := Lib.hid D'
  clear D' D4
  go_wp2_with fail
  refine (on_q1 D5.out (by decide) (z := 3) (by decide) (S' := q5) an1.2.2.2.2.2.1 rfl _ _).mono ?_
  rintro e W6 ⟨rfl, D'⟩
  have D6 := Lib.hid D'
  clear D' D5
  go_wp2_with fail
  refine (stands_q D6.out (by decide) 0 (L := [97, 98, 99]) (by intro x hx; simp at hx; omega) rfl an1.2.2.2.2.2.2).mono ?_
  rintro e W7 ⟨rfl, D'⟩
  have D7 := Lib.hid D'
  clear D' D6
  go_wp2_with fail
  refine (sync_q D7.out (by decide) 0 (S' := q6) an2.1 rfl).mono ?_
  rintro e W8 ⟨rfl, D'⟩
  have D8 := Lib.hid D'
  clear D' D7
  go_wp2_with fail
  refine (cut_q D8.out (by decide) 0 1 (S' := q7) an2.2.1 rfl).mono ?_
  rintro e W9 ⟨rfl, D'⟩
  have D9 := Lib.hid D'
  clear D' D8
  have g9 : Hid (Below W9.heap.size W9 (W9.alloc (.cells (vals [120, 121]).toArray 5 (2, 3)))) := Lib.hid ((Below.refl _ _).alloc (Nat.le_refl _) _)
  have L9 : Hid (Bs (W9.alloc (.cells (vals [120, 121]).toArray 5 (2, 3))) (some ⟨W9.heap.size, 0, none⟩) 2 [120, 121]) := Lib.hid (Bs.litM W9 [120, 121] (fun x hx => by simp at hx; omega) (2, 3))
  have ne9 : Hid (W9.heap.size ≠ d) := Lib.hid (by have := D9.out.lt; omega)
  have k9 := Go.Joins.run_convert_bytes_const_at (P := Try.prog) W9 33 5 #[.int .u8 120, .int .u8 121] 2 2 W9.heap.size rfl Try.underlying33 Try.underlying5
  go_wp2_with fail
  refine (write_q (D9.out.later g9.out) (by decide) 0 L9.out (fun _ a e => by injection e with e; subst e; exact ne9.out) (Nat.le_refl _) (by decide) (S' := q8) an2.2.2.1 rfl).mono ?_
  rintro e W10 ⟨rfl, D'⟩
  have D10 := Lib.hid D'
  clear D' D9 k9 g9 L9 ne9
  go_wp2_with fail
  refine (off_q D10.out (S' := q9) an2.2.2.2.1 rfl).mono ?_
  rintro e W11 ⟨rfl, D'⟩
  have D11 := Lib.hid D'
  clear D' D10
  go_wp2_with fail
  refine (on_q1 D11.out (by decide) (z := 2) (by decide) (S' := q10) an2.2.2.2.2.1 rfl _ _).mono ?_
  rintro e W12 ⟨rfl, D'⟩
  have D12 := Lib.hid D'
  clear D' D11
  go_wp2_with fail
  refine (stands_q D12.out (by decide) 0 (L := [97, 120]) (by intro x hx; simp at hx; omega) rfl an2.2.2.2.2.2).mono ?_
  rintro e W13 ⟨rfl, D'⟩
  have D13 := Lib.hid D'
  clear D' D12
  go_wp2_with fail
  refine (on_q0 D13.out (by decide) 0 (by decide) (S' := q10) (by rw [an3.1]) (by rw [an3.1])).mono ?_
  rintro e W14 ⟨rfl, D'⟩
  have D14 := Lib.hid D'
  clear D' D13
  go_wp2_with fail
  refine (fuse_q D14.out 1 (by decide) (S' := q12) an3.2.1 rfl).mono ?_
  rintro e W15 ⟨rfl, D'⟩
  have D15 := Lib.hid D'
  clear D' D14
  go_wp2_with fail
  refine (sync_q D15.out (by decide) 0 (S' := q13) an3.2.2.1 rfl).mono ?_
  rintro e W16 ⟨rfl, D'⟩
  have D16 := Lib.hid D'
  clear D' D15
  go_wp2_with fail
  refine (sync_q D16.out (by decide) 0 (S' := q14) an3.2.2.2.1 rfl).mono ?_
  rintro e W17 ⟨rfl, D'⟩
  have D17 := Lib.hid D'
  clear D' D16
  go_wp2_with fail
  refine (off_q D17.out (S' := q14) (by rw [an3.2.2.2.2.1]) (by rw [an3.2.2.2.2.1])).mono ?_
  rintro e W18 ⟨rfl, D'⟩
  have D18 := Lib.hid D'
  clear D' D17
  go_wp2_with fail
  refine (on_q0 D18.out (by decide) 0 (by decide) (S' := q16) an3.2.2.2.2.2.1 rfl).mono ?_
  rintro e W19 ⟨rfl, D'⟩
  have D19 := Lib.hid D'
  clear D' D18
  go_wp2_with fail
  refine (cut_q D19.out (by decide) 0 3 (S' := q16) (by rw [an3.2.2.2.2.2.2]) (by rw [an3.2.2.2.2.2.2])).mono ?_
  rintro e W20 ⟨rfl, D'⟩
  have D20 := Lib.hid D'
  clear D' D19
  go_wp2_with fail
  go_ret
  exact ⟨rfl, D20.out.bel⟩
end Go.Proofs.Ytgnomopiofpknaa
