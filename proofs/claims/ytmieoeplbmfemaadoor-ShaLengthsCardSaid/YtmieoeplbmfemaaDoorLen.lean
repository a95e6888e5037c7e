/- ShaLengths: bytes that are all one, of any length. No condition but the statement's own. -/
import Derived.Test.YtmieoeplbmfemaaDoorSums
import Derived.ChangeSlices
namespace Go.Proofs.YtmieoeplbmfemaaDoor
open Go.RowKit

/-- A row of the call's own that holds k bytes x, the rest noughts. -/
def lenRow (x k n : Nat) : List Nat := List.replicate k x ++ List.replicate (n - k) 0
theorem lenRow_len {x k n : Nat} (h : k ≤ n) : (lenRow x k n).length = n := by unfold lenRow; rw [List.length_append, List.length_replicate, List.length_replicate]; omega
theorem lenRow_set (x k n : Nat) (h : k < n) : (lenRow x k n).set k x = lenRow x (k + 1) n := by
  unfold lenRow
  rw [List.set_append_right _ _ (by rw [List.length_replicate]; exact Nat.le_refl _), List.length_replicate, Nat.sub_self, show n - k = (n - (k + 1)) + 1 by omega, List.replicate_succ, ← List.replicate_append_replicate (n := k) (m := 1), List.append_assoc]
  rfl
theorem lenRow_byt {x k n : Nat} (hx : x < 256) : AllB (lenRow x k n) := AllB.app (fun y hy => by rw [List.eq_of_mem_replicate hy]; exact hx) (allB_zeros _)

theorem run_make_bytes (n c : Nat) (l k : Int) (hl : l = n) (hk : k = c) (hnc : n ≤ c) (hc : c ≤ 1099511627776) (W : World) :
    (Instr.makeSlice 22 (.int .i64 l) (.int .i64 k)).run Tryd.prog W = .ok (.slice (some ⟨W.heap.size, 0, none⟩) n c) (W.alloc (.cells (vals (List.replicate c 0)).toArray 5)) := by
  obtain ⟨i0, hi, hz0, hz1, hz2⟩ := info_parts Tryd.infoByte
  subst hl hk
  rw [run_make (P := Tryd.prog) W 22 5 i0 (.int .u8 0) Tryd.underlying22 hi hz0 .i64 .i64 (n : Int) (c : Int) (by omega) (by omega) (by rw [hz2]; omega) (by omega), hz1]
  have e : (madeCells (Value.int .u8 0).cells c) = (vals (List.replicate c 0)).toArray := by
    apply Array.toList_inj.1
    show (madeCells #[Value.int .u8 0] c).toList = _
    rw [toList_madeCells_one, vals, List.map_replicate]; rfl
  rw [Int.toNat_natCast, Int.toNat_natCast, Nat.mul_one, e]

set_option maxRecDepth 100000 in
set_option maxHeartbeats 4000000 in
theorem lengths_law {a x : Nat} {w : World} (ha : a < 65536) (hx : x < 256) (hLd : Laid w) :
    Calls Tryd.prog 4 #[.int .u16 (a : Int), .int .u8 (x : Int)] w fun e w' => e = .returned (.bool true) ∧ Below w.heap.size w w' := by
  have HD := Lib.hid hLd
  clear hLd
  go_enter Tryd.func4, Tryd.ntmps4
  obtain ⟨n, hn⟩ : ∃ n, a % 400 = n := ⟨_, rfl⟩
  have n4 : n < 400 := by omega
  have en : (a : Int) % 400 = (n : Int) := by omega
  clear hn
  have hmk := run_make_bytes n n n n rfl rfl (Nat.le_refl _) (by omega)
  have R0 := Lib.hid (Ro.new w 5 (vals (lenRow x 0 n)))
  have G0 := Lib.hid ((Below.refl w.heap.size w).alloc (Nat.le_refl _) (.cells (vals (lenRow x 0 n)).toArray 5))
  go_wp2_with fail
  rw [en]
  clear en hmk
  go_loopw [7] (fun i wr => ∃ k : Nat, k ≤ n ∧ i = .int .i64 (k : Nat) ∧ Ro wr w.heap.size 5 (vals (lenRow x k n)) ∧ Below w.heap.size w wr) (fun i _ => n - (intOf i).toNat)
  case atStart => exact ⟨0, Nat.zero_le _, rfl, R0.out, G0.out⟩
  case round =>
    clear R0 G0
    obtain ⟨k, hk, rfl, R, B⟩ := hrel
    by_cases hlt : k < n
    · have t1 : decide ((k : Int) < (n : Int)) = true := decide_eq_true (by omega)
      have c1 := R.u8 (k := k) (by rw [lenRow_len hk]; exact hlt)
      have f1 := R.free k
      have R2 := R.set8 k x
      rw [lenRow_set x k n hlt] at R2
      have HR := Lib.hid R2
      have HB : Hid (Below w.heap.size w (wr.setCell ⟨w.heap.size, k, none⟩ (.int .u8 (x : Int)))) := Lib.hid (B.setCell (Nat.le_refl _) _)
      clear R R2 B
      go_wp2_with fail
      exact ⟨⟨k + 1, by omega, by go_num, HR.out, HB.out⟩, by simp [intOf]; omega⟩
    · obtain rfl : k = n := by omega
      have b1 := R.bs (lenRow_byt hx)
      rw [lenRow_len (Nat.le_refl _)] at b1
      have HS := Lib.hid b1
      have HB := Lib.hid B
      clear R B b1
      obtain ⟨H1, H2, S, hq⟩ := sumsOf HD.out (lenRow_len (x := x) (Nat.le_refl k)) (lenRow_byt hx) (by omega)
      clear hq
      have EQ1 := eq_same S.l1
      have SS := Lib.hid S
      clear S
      go_wp2_with fail
      refine (SS.out.p1 _ _ _ HB.out HS.out (Nat.le_refl _)).mono ?_
      rintro e w2 ⟨rfl, hb⟩
      have B2 := Lib.hid (HB.out.trans (hb.mono HB.out.size))
      replace HS := Lib.hid (HS.out.later hb)
      clear hb HB
      go_wp2_with fail
      refine (SS.out.r1 _ _ _ HS.out).mono ?_
      rintro e w3 ⟨rfl, hb⟩
      have B3 := Lib.hid (B2.out.trans (hb.mono B2.out.size))
      clear hb B2
      go_wp2_with fail
      refine (works_any _ (HD.out.later HD.out.lt B3.out)).mono ?_
      rintro e w4 ⟨rfl, hb⟩
      have B4 := Lib.hid (B3.out.trans (hb.mono B3.out.size))
      clear hb B3
      go_wp2_with fail
      go_ret
      exact ⟨rfl, B4.out⟩
end Go.Proofs.YtmieoeplbmfemaaDoor
