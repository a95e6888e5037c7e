/- Whether records may be handed to a vault; its number and length. No condition. -/
import Derived.Test.YtjcphpmlekfhdaaGreatDoorGh
import Derived.StillTailTactics
import Derived.Test.YtjcphpmlekfhdaaGreatDoorGf
import Derived.Test.YtjcphpmlekfhdaaGreatDoorCnt

namespace Go.Proofs.YtjcphpmlekfhdaaGreatDoor
open Go.RowKit

def longS (l : List (List Nat)) : Bool := l.any fun r => decide (32768 < r.length)
theorem longS_take {l : List (List Nat)} {j : Nat} (h : j < l.length) (h0 : longS (l.take j) = false) : longS (l.take (j + 1)) = decide (32768 < l[j].length) := by
  unfold longS at *
  rw [List.take_add_one, List.getElem?_eq_getElem h, List.any_append, h0]
  simp
theorem longS_at {l : List (List Nat)} {j : Nat} (h : j < l.length) (h0 : 32768 < l[j].length) : longS l = true := by
  unfold longS
  rw [List.any_eq_true]
  exact ⟨l[j], List.getElem_mem h, by simpa using h0⟩
theorem longS_none {l : List (List Nat)} (h : longS l = false) : ∀ r ∈ l, r.length ≤ 32768 := by
  intro r hr
  unfold longS at h
  have := List.any_eq_false.1 h r hr
  simpa using this
set_option maxRecDepth 100000 in
set_option maxHeartbeats 1000000 in
theorem may1_any (A : Option Addr) (n c : Nat) (w : World) : Calls Tryz.prog 80 #[.slice A n c] w fun e w' => e = .returned (.bool (decide ((32768 : Int) < (n : Int)))) ∧ w' = w := by
  go_enter Tryz.func80, Tryz.ntmps80
  go_wp2_with fail
  go_ret
  exact ⟨rfl, rfl⟩
set_option maxRecDepth 100000 in
set_option maxHeartbeats 1000000 in
theorem indexFunc_any {A : Option Addr} {n c : Nat} {l : List (List Nat)} (w : World) (hR : Rows w anyP 1 ByR A n l) (hn : n ≤ 1099511627776) :
    Calls Tryz.prog 99 #[.slice A n c, .func (.func 80) #[] #[]] w fun e w' => (∃ k : Int, e = .returned (.int .i64 k) ∧ decide (0 ≤ k) = longS l) ∧ w' = w := by
  have HR := Lib.hid hR
  have hln := hR.len
  clear hR
  go_enter Tryz.func99, Tryz.ntmps99
  go_wp2_with fail
  go_loopw [8] (fun i wr => ∃ j : Nat, j ≤ n ∧ i = .int .i64 (j : Nat) ∧ wr = w ∧ longS (l.take j) = false) (fun i _ => n - (intOf i).toNat)
  case atStart => exact ⟨0, Nat.zero_le _, rfl, rfl, rfl⟩
  case round =>
    obtain ⟨j, hj, rfl, rfl, h0⟩ := hrel
    by_cases hjn : j < n
    · have t1 : decide ((j : Int) < (n : Int)) = true := decide_eq_true (by omega)
      have hjl : j < l.length := by omega
      obtain ⟨b, o, rfl⟩ := rows_some HR.out (by omega)
      obtain ⟨_, B, cb, hc, _⟩ := by_at HR.out hjl
      have hnx := longS_take hjl h0
      have hat := fun q => longS_at (l := l) (j := j) hjl q
      obtain ⟨y, hy⟩ : ∃ y, l[j].length = y := ⟨_, rfl⟩
      rw [hy] at hc hnx hat
      have HNX := Lib.hid hnx
      have HAT := Lib.hid hat
      clear hnx hat h0 hy
      by_cases hlong : 32768 < y
      · have t2 : decide ((32768 : Int) < (y : Int)) = true := decide_eq_true (by omega)
        go_wp2_with fail
        refine (may1_any _ _ _ _).mono ?_
        rintro e w2 ⟨rfl, rfl⟩
        go_wp2_with fail
        go_ret
        exact ⟨⟨_, rfl, by rw [HAT.out hlong]; exact decide_eq_true (by omega)⟩, rfl⟩
      · have t2 : decide ((32768 : Int) < (y : Int)) = false := decide_eq_false (by omega)
        go_wp2_with fail
        refine (may1_any _ _ _ _).mono ?_
        rintro e w2 ⟨rfl, rfl⟩
        go_wp2_with fail
        go_roundw
        case rel => exact ⟨j + 1, by omega, by go_num, trivial, by rw [HNX.out]; exact decide_eq_false hlong⟩
        case measure => simp [intOf]; omega
    · have t1 : decide ((j : Int) < (n : Int)) = false := decide_eq_false (by omega)
      have e : l.take j = l := List.take_of_length_le (by omega)
      rw [e] at h0
      have H0 := Lib.hid h0
      clear h0 e
      go_wp2_with fail
      go_ret
      exact ⟨⟨-1, rfl, by rw [H0.out]; rfl⟩, rfl⟩
set_option maxRecDepth 100000 in
set_option maxHeartbeats 1000000 in
theorem containsFunc_any {A : Option Addr} {n c : Nat} {l : List (List Nat)} (w : World) (hR : Rows w anyP 1 ByR A n l) (hn : n ≤ 1099511627776) :
    Calls Tryz.prog 79 #[.slice A n c, .func (.func 80) #[] #[]] w fun e w' => e = .returned (.bool (longS l)) ∧ w' = w := by
  have IX := Lib.hid (indexFunc_any (c := c) w hR hn)
  clear hR
  obtain ⟨b, hb⟩ : ∃ b, longS l = b := ⟨_, rfl⟩
  rw [hb] at IX ⊢
  clear hb
  go_enter Tryz.func79, Tryz.ntmps79
  go_wp2_with fail
  refine (IX.out).mono ?_
  rintro e w2 ⟨⟨k, rfl, hk⟩, rfl⟩
  go_wp2_with fail
  go_ret
  exact ⟨rfl, rfl⟩
/-- What a call is answered ahead of all else. -/
def mayN (failed : Bool) (l : List (List Nat)) : Int := if failed then 3 else if longS l then 1 else 0
set_option maxRecDepth 100000 in
set_option maxHeartbeats 1000000 in
theorem may_any {A : Option Addr} {n c v d file gen count : Nat} {failed : Bool} {l : List (List Nat)} (w : World) (hV : Ro w v 90 (vtV d file gen count failed)) (hR : Rows w anyP 1 ByR A n l) (hn : n ≤ 1099511627776) :
    Calls Tryz.prog 37 #[.pointer (some ⟨v, 0, none⟩), .slice A n c] w fun e w' => e = .returned (.int .i64 (mayN failed l)) ∧ w' = w := by
  have CF := Lib.hid (containsFunc_any (c := c) w hR hn)
  have hc := hV.cell (k := 4) rfl
  clear hV hR
  cases failed with
  | true =>
    go_enter Tryz.func37, Tryz.ntmps37
    go_wp2_with fail
    go_ret
    exact ⟨rfl, rfl⟩
  | false =>
    have hm : mayN false l = if longS l then 1 else 0 := rfl
    rw [hm]
    obtain ⟨b, hb⟩ : ∃ b, longS l = b := ⟨_, rfl⟩
    rw [hb] at CF ⊢
    clear hb hm
    cases b with
    | true =>
      go_enter Tryz.func37, Tryz.ntmps37
      go_wp2_with fail
      refine (CF.out).mono ?_
      rintro e w2 ⟨rfl, rfl⟩
      go_wp2_with fail
      go_ret
      exact ⟨rfl, rfl⟩
    | false =>
      go_enter Tryz.func37, Tryz.ntmps37
      go_wp2_with fail
      refine (CF.out).mono ?_
      rintro e w2 ⟨rfl, rfl⟩
      go_wp2_with fail
      go_ret
      exact ⟨rfl, rfl⟩
set_option maxRecDepth 100000 in
set_option maxHeartbeats 1000000 in
theorem may_nil (A : Option Addr) (n c : Nat) (w : World) : Calls Tryz.prog 37 #[.pointer none, .slice A n c] w fun e w' => e = .returned (.int .i64 2) ∧ w' = w := by
  go_enter Tryz.func37, Tryz.ntmps37
  go_wp2_with fail
  go_ret
  exact ⟨rfl, rfl⟩
set_option maxRecDepth 100000 in
set_option maxHeartbeats 1000000 in
theorem gen_any {v d file gen count : Nat} {failed : Bool} (w : World) (hV : Ro w v 90 (vtV d file gen count failed)) : Calls Tryz.prog 12 #[.pointer (some ⟨v, 0, none⟩)] w fun e w' => e = .returned (.int .u64 (gen : Nat)) ∧ w' = w := by
  have hc := hV.cell (k := 2) rfl
  clear hV
  go_enter Tryz.func12, Tryz.ntmps12
  go_wp2_with fail
  go_ret
  exact ⟨rfl, rfl⟩
set_option maxRecDepth 100000 in
set_option maxHeartbeats 1000000 in
theorem len_any {v d file gen count : Nat} {failed : Bool} (w : World) (hV : Ro w v 90 (vtV d file gen count failed)) : Calls Tryz.prog 13 #[.pointer (some ⟨v, 0, none⟩)] w fun e w' => e = .returned (.int .i64 (count : Nat)) ∧ w' = w := by
  have hc := hV.cell (k := 3) rfl
  clear hV
  go_enter Tryz.func13, Tryz.ntmps13
  go_wp2_with fail
  go_ret
  exact ⟨rfl, rfl⟩
set_option maxRecDepth 100000 in
set_option maxHeartbeats 1000000 in
theorem gen_nil (w : World) : Calls Tryz.prog 12 #[.pointer none] w fun e w' => e = .returned (.int .u64 0) ∧ w' = w := by
  go_enter Tryz.func12, Tryz.ntmps12
  go_wp2_with fail
  go_ret
  exact ⟨rfl, rfl⟩
set_option maxRecDepth 100000 in
set_option maxHeartbeats 1000000 in
theorem len_nil (w : World) : Calls Tryz.prog 13 #[.pointer none] w fun e w' => e = .returned (.int .i64 0) ∧ w' = w := by
  go_enter Tryz.func13, Tryz.ntmps13
  go_wp2_with fail
  go_ret
  exact ⟨rfl, rfl⟩
end Go.Proofs.YtjcphpmlekfhdaaGreatDoor

/- A vault does something to its disk, and remembers that it failed; the steps of Add. No condition but bounds on what is loose. -/
namespace Go.Proofs.YtjcphpmlekfhdaaGreatDoor
open Go.RowKit

section
variable {w0 w : World} {d v bv bb file gen count : Nat} {failed : Bool} {X Y : Nat → Prop} {S S' : Dk} {A : Option Addr} {n c : Nat} {x : Int}
/-- What a step of a vault leaves. -/
def DoP (w0 : World) (d v file gen count : Nat) (Y : Nat → Prop) (w : World) (x : Int) (S : Dk) (e : Ending) (W : World) : Prop :=
  e = .returned (.int .i64 x) ∧ Ro W v 90 (vtV d file gen count (x != 0)) ∧ Dp w0 d Y S W ∧ Kept (fun b => Y b ∧ b ≠ v) w W
set_option maxRecDepth 100000 in
set_option maxHeartbeats 1000000 in
theorem do_v (hV : Ro w v 90 (vtV d file gen count failed)) (hY : Y v) (hv : w0.heap.size ≤ v) (C : Calls Tryz.prog 31 #[.slice A n c] w (StepP w0 d Y w x S')) :
    Calls Tryz.prog 39 #[.pointer (some ⟨v, 0, none⟩), .slice A n c] w (DoP w0 d v file gen count Y w x S') := by
  have HC := Lib.hid C
  have HV := Lib.hid hV
  clear C hV
  go_enter Tryz.func39, Tryz.ntmps39
  go_wp2_with fail
  refine (HC.out).mono ?_
  rintro e w1 ⟨rfl, D1, K1⟩
  have V1 : Ro w1 v 90 (vtV d file gen count failed) := HV.out.same (K1.blk v hY HV.out.lt)
  have c4 := V1.cell (k := 4) rfl
  have f4 := V1.free 4
  have D2 : Dp w0 d Y S' (w1.setCell ⟨v, 4, none⟩ (.bool (x != 0))) := D1.keep ⟨Nat.le_of_eq (by simp [World.setCell]), fun b hb _ => Below.heap_setCell _ _ _ _ (fun q => hb (by rw [q]; exact hY))⟩ (D1.bel.setCell (p := ⟨v, 4, none⟩) hv _)
  have K2 : Kept (fun b => Y b ∧ b ≠ v) w (w1.setCell ⟨v, 4, none⟩ (.bool (x != 0))) := (K1.narrow fun b q => q.1).trans' ⟨Nat.le_of_eq (by simp [World.setCell]), fun b hb _ => Below.heap_setCell _ _ _ _ hb.2⟩
  have HV2 := Lib.hid (V1.set 4 (.bool (x != 0)))
  have HD2 := Lib.hid D2
  have HK2 := Lib.hid K2
  clear D1 K1 V1 D2 K2
  go_wp2_with fail
  go_ret
  exact ⟨rfl, HV2.out, HD2.out, HK2.out⟩
set_option maxRecDepth 100000 in
set_option maxHeartbeats 1000000 in
theorem add1_any (hV : Ro w v 90 (vtV d file gen count failed)) (hb : w.cell? ⟨bv, 0, none⟩ = some (.pointer (some ⟨v, 0, none⟩))) (hc : w.cell? ⟨bb, 0, none⟩ = some (.slice A n c))
    (C : ∀ w1, w1 = w.drew → Calls Tryz.prog 41 #[.pointer (some ⟨d, 0, none⟩), .int .i64 (file : Nat), .slice A n c] w1 (StepP w0 d X w x S')) :
    Calls Tryz.prog 40 #[.pointer (some ⟨bv, 0, none⟩), .pointer (some ⟨bb, 0, none⟩)] w (StepP w0 d X w x S') := by
  have HC := Lib.hid C
  have c0 := hV.cell (k := 0) rfl
  have c1 := hV.cell (k := 1) rfl
  clear C hV
  go_enter Tryz.func40, Tryz.ntmps40
  go_wp2_with fail
  go_still_tail 9, (by kernel_rfl)
  go_wp2_with fail
  refine (HC.out _ rfl).mono ?_
  rintro e w2 ⟨rfl, a1, a2⟩
  have H1 := Lib.hid a1
  have H2 := Lib.hid a2
  clear a1 a2
  go_wp2_with fail
  go_ret
  exact ⟨rfl, H1.out, H2.out⟩
set_option maxRecDepth 100000 in
set_option maxHeartbeats 1000000 in
theorem add2_any (hV : Ro w v 90 (vtV d file gen count failed)) (hb : w.cell? ⟨bv, 0, none⟩ = some (.pointer (some ⟨v, 0, none⟩)))
    (C : ∀ w1, w1 = w.drew → Calls Tryz.prog 35 #[.pointer (some ⟨d, 0, none⟩), .int .i64 (file : Nat)] w1 (StepP w0 d X w x S')) :
    Calls Tryz.prog 42 #[.pointer (some ⟨bv, 0, none⟩)] w (StepP w0 d X w x S') := by
  have HC := Lib.hid C
  have c0 := hV.cell (k := 0) rfl
  have c1 := hV.cell (k := 1) rfl
  clear C hV
  go_enter Tryz.func42, Tryz.ntmps42
  go_wp2_with fail
  go_still_tail 8, (by kernel_rfl)
  go_wp2_with fail
  refine (HC.out _ rfl).mono ?_
  rintro e w2 ⟨rfl, a1, a2⟩
  have H1 := Lib.hid a1
  have H2 := Lib.hid a2
  clear a1 a2
  go_wp2_with fail
  go_ret
  exact ⟨rfl, H1.out, H2.out⟩
end
end Go.Proofs.YtjcphpmlekfhdaaGreatDoor

/- What no vault, and no disk, answer; what is answered ahead of all else. No condition. -/
namespace Go.Proofs.YtjcphpmlekfhdaaGreatDoor
open Go.RowKit

section
variable {w : World} {A : Option Addr} {n c : Nat}
set_option maxRecDepth 100000 in
set_option maxHeartbeats 1000000 in
theorem add_nil : Calls Tryz.prog 14 #[.pointer none, .slice A n c] w fun e w' => e = .returned (.int .i64 2) ∧ Below w.heap.size w w' := by
  go_enter Tryz.func14, Tryz.ntmps14
  go_wp2_with fail
  refine (may_nil _ _ _ _).mono ?_
  rintro e w1 ⟨rfl, rfl⟩
  go_wp2_with fail
  go_ret
  exact ⟨rfl, (Below.refl _ _).alloc (Nat.le_refl _) _⟩
set_option maxRecDepth 100000 in
set_option maxHeartbeats 1000000 in
theorem compact_nil : Calls Tryz.prog 20 #[.pointer none, .slice A n c] w fun e w' => e = .returned (.int .i64 2) ∧ Below w.heap.size w w' := by
  go_enter Tryz.func20, Tryz.ntmps20
  go_wp2_with fail
  refine (may_nil _ _ _ _).mono ?_
  rintro e w1 ⟨rfl, rfl⟩
  go_wp2_with fail
  go_ret
  exact ⟨rfl, (Below.refl _ _).alloc (Nat.le_refl _) _⟩
set_option maxRecDepth 100000 in
set_option maxHeartbeats 1000000 in
theorem open_nil : Calls Tryz.prog 11 #[.pointer none] w fun e w' => e = .returned (.tuple #[.pointer none, .slice none 0 0, .int .i64 2]) ∧ Below w.heap.size w w' := by
  go_enter Tryz.func11, Tryz.ntmps11
  go_wp2_with fail
  go_returns
  exact ⟨rfl, (Below.refl _ _).alloc (Nat.le_refl _) _⟩
variable {v d file gen count : Nat} {failed : Bool} {l : List (List Nat)}
set_option maxRecDepth 100000 in
set_option maxHeartbeats 1000000 in
theorem add_not (hV : Ro w v 90 (vtV d file gen count failed)) (hR : Rows w anyP 1 ByR A n l) (hn : n ≤ 1099511627776) (hm : mayN failed l ≠ 0) :
    Calls Tryz.prog 14 #[.pointer (some ⟨v, 0, none⟩), .slice A n c] w fun e w' => e = .returned (.int .i64 (mayN failed l)) ∧ Below w.heap.size w w' := by
  have ba : Below w.heap.size w (w.alloc (.cells #[.pointer (some ⟨v, 0, none⟩)] 34)) := (Below.refl _ _).alloc (Nat.le_refl _) _
  have MY := Lib.hid (may_any (c := c) _ (hV.later ba) (Rows.later byM hR ba) hn)
  have t1 : (mayN failed l != 0) = true := by rw [bne_iff_ne]; exact hm
  have BA := Lib.hid ba
  obtain ⟨x, hx⟩ : ∃ x, mayN failed l = x := ⟨_, rfl⟩
  rw [hx] at MY t1 ⊢
  clear hV hR hm hx ba
  go_enter Tryz.func14, Tryz.ntmps14
  go_wp2_with fail
  refine (MY.out).mono ?_
  rintro e w1 ⟨rfl, rfl⟩
  go_wp2_with fail
  go_ret
  exact ⟨rfl, BA.out⟩
end
end Go.Proofs.YtjcphpmlekfhdaaGreatDoor

/- The steps of a vault that is found. No condition but bounds on what is loose. -/
namespace Go.Proofs.YtjcphpmlekfhdaaGreatDoor
open Go.RowKit

section
variable {w0 w : World} {d bd bx bo bc f g n1 c1 good : Nat} {X : Nat → Prop} {S S' : Dk} {A1 R : Option Addr} {rn rc : Nat} {x : Int}
set_option maxRecDepth 100000 in
set_option maxHeartbeats 1000000 in
theorem open1_any (D : Dp w0 d X S w) (hn : S.cnt ≤ 1073741823) (hd : w.cell? ⟨bd, 0, none⟩ = some (.pointer (some ⟨d, 0, none⟩))) (hf : w.cell? ⟨bx, 0, none⟩ = some (.int .i64 (f : Nat))) (h1 : w.cell? ⟨bo, 0, none⟩ = some (.slice A1 n1 c1)) (h0 : w.cell? ⟨bc, 0, none⟩ = some (.int .u64 (g : Nat))) (h2 : w.cell? ⟨bc, 2, none⟩ = some (.int .i64 (good : Nat))) (h : S.cutTo (f : Nat) n1 good = (x, S')) :
    Calls Tryz.prog 32 #[.pointer (some ⟨bd, 0, none⟩), .pointer (some ⟨bx, 0, none⟩), .pointer (some ⟨bo, 0, none⟩), .pointer (some ⟨bc, 0, none⟩)] w (StepP w0 d X w x S') := by
  have CT := Lib.hid (cutTo_p (A := A1) (c := c1) D hn (f : Nat) h)
  clear D h hn
  go_enter Tryz.func32, Tryz.ntmps32
  go_wp2_with fail
  refine (CT.out).mono ?_
  rintro e w1 ⟨rfl, a1, a2⟩
  have H1 := Lib.hid a1
  have H2 := Lib.hid a2
  clear a1 a2
  go_wp2_with fail
  go_ret
  exact ⟨rfl, H1.out, H2.out⟩
set_option maxRecDepth 100000 in
set_option maxHeartbeats 1000000 in
theorem open2_any (D : Dp w0 d X S w) (hn : S.cnt ≤ 1073741823) (hd : w.cell? ⟨bd, 0, none⟩ = some (.pointer (some ⟨d, 0, none⟩))) (hf : w.cell? ⟨bx, 0, none⟩ = some (.int .i64 (f : Nat))) (h : S.sync (f : Nat) = (x, S')) :
    Calls Tryz.prog 34 #[.pointer (some ⟨bd, 0, none⟩), .pointer (some ⟨bx, 0, none⟩)] w (StepP w0 d X w x S') := by
  have CT := Lib.hid (sync_p D hn (f : Nat) (x := x) (S' := S') (by rw [h]) (by rw [h]))
  clear D h hn
  go_enter Tryz.func34, Tryz.ntmps34
  go_wp2_with fail
  refine (CT.out).mono ?_
  rintro e w1 ⟨rfl, a1, a2⟩
  have H1 := Lib.hid a1
  have H2 := Lib.hid a2
  clear a1 a2
  go_wp2_with fail
  go_ret
  exact ⟨rfl, H1.out, H2.out⟩
set_option maxRecDepth 100000 in
set_option maxHeartbeats 1000000 in
theorem open3_any (D : Dp w0 d X S w) (hn : S.cnt ≤ 1073741823) (hf1 : f ≤ 1) (hd : w.cell? ⟨bd, 0, none⟩ = some (.pointer (some ⟨d, 0, none⟩))) (hf : w.cell? ⟨bx, 0, none⟩ = some (.int .i64 (f : Nat))) (h1 : w.cell? ⟨bo, 0, none⟩ = some (.slice A1 n1 c1)) (h : S.cutTo ((1 : Int) - (f : Nat)) n1 0 = (x, S')) :
    Calls Tryz.prog 36 #[.pointer (some ⟨bd, 0, none⟩), .pointer (some ⟨bx, 0, none⟩), .pointer (some ⟨bo, 0, none⟩)] w (StepP w0 d X w x S') := by
  have CT := Lib.hid (cutTo_p (A := A1) (c := c1) D hn ((1 : Int) - (f : Nat)) h)
  have hw : IntKind.i64.wrap ((1 : Int) - (f : Nat)) = (1 : Int) - (f : Nat) := by rw [IntKind.wrap_i64]; omega
  clear D h hn
  go_enter Tryz.func36, Tryz.ntmps36
  go_wp2_with fail
  refine (CT.out).mono ?_
  rintro e w1 ⟨rfl, a1, a2⟩
  have H1 := Lib.hid a1
  have H2 := Lib.hid a2
  clear a1 a2
  go_wp2_with fail
  go_ret
  exact ⟨rfl, H1.out, H2.out⟩
end
end Go.Proofs.YtjcphpmlekfhdaaGreatDoor

/- The steps of a vault that is found, together. No condition but bounds on what is loose. -/
namespace Go.Proofs.YtjcphpmlekfhdaaGreatDoor
open Go.RowKit

def openL (f n1 n2 good : Nat) : List (Dk → Int × Dk) := [fun S => S.cutTo (f : Nat) n1 good, fun S => S.sync (f : Nat), fun S => S.cutTo ((1 : Int) - (f : Nat)) n2 0]
theorem open_steps {w0 w3 : World} {d bd bx bo bp bc bl f g n1 c1 n2 c2 good : Nat} {Y : Nat → Prop} {S S' : Dk} {A1 A2 : Option Addr} {x : Int} (D : Dp w0 d Y S w3) (hf1 : f ≤ 1) (y1 : Y bd) (y2 : Y bx) (y3 : Y bo) (y4 : Y bp) (y5 : Y bc) (y6 : Y bl)
    (hd : w3.cell? ⟨bd, 0, none⟩ = some (.pointer (some ⟨d, 0, none⟩))) (hf : w3.cell? ⟨bx, 0, none⟩ = some (.int .i64 (f : Nat))) (ho : w3.cell? ⟨bo, 0, none⟩ = some (.slice A1 n1 c1)) (hp : w3.cell? ⟨bp, 0, none⟩ = some (.slice A2 n2 c2)) (h0 : w3.cell? ⟨bc, 0, none⟩ = some (.int .u64 (g : Nat))) (h2 : w3.cell? ⟨bc, 2, none⟩ = some (.int .i64 (good : Nat)))
    (hl : ∀ i, i < 3 → w3.cell? ⟨bl, 0 + i, none⟩ = some (([fnV (32, #[.pointer (some ⟨bd, 0, none⟩), .pointer (some ⟨bx, 0, none⟩), .pointer (some ⟨bo, 0, none⟩), .pointer (some ⟨bc, 0, none⟩)]), fnV (34, #[.pointer (some ⟨bd, 0, none⟩), .pointer (some ⟨bx, 0, none⟩)]), fnV (36, #[.pointer (some ⟨bd, 0, none⟩), .pointer (some ⟨bx, 0, none⟩), .pointer (some ⟨bp, 0, none⟩)])] : List Value).getD i undef))
    (hn : ∀ i, i < 3 → (stS (openL f n1 n2 good) S i).cnt ≤ 1073741823) (h : seqS (openL f n1 n2 good) S = (x, S')) :
    Calls Tryz.prog 31 #[.slice (some ⟨bl, 0, none⟩) 3 3] w3 (StepP w0 d Y w3 x S') := by
  have lt := fun {a : Addr} {u : Value} (q : w3.cell? a = some u) => World.block_lt_of_cell? (w := w3) (a := a) q
  have key := inOrder_dk (A := some ⟨bl, 0, none⟩) (n := 3) (c := 3) (w := w3) (X := Y) (S := S) (w0 := w0) (d := d) (l := openL f n1 n2 good)
    (fs := [(32, #[.pointer (some ⟨bd, 0, none⟩), .pointer (some ⟨bx, 0, none⟩), .pointer (some ⟨bo, 0, none⟩), .pointer (some ⟨bc, 0, none⟩)]), (34, #[.pointer (some ⟨bd, 0, none⟩), .pointer (some ⟨bx, 0, none⟩)]), (36, #[.pointer (some ⟨bd, 0, none⟩), .pointer (some ⟨bx, 0, none⟩), .pointer (some ⟨bp, 0, none⟩)])]) rfl rfl (by decide) ?_ ?_ ?_ D
  · rw [h] at key
    exact key
  · intro i hi
    have hi3 : i < 3 := hi
    have := hl i hi3
    refine ⟨bl, 0, rfl, y6, lt this, this.trans ?_⟩
    have e : i = 0 ∨ i = 1 ∨ i = 2 := by omega
    rcases e with rfl | rfl | rfl <;> rfl
  · intro i hi args W
    have hi3 : i < 3 := hi
    have e : i = 0 ∨ i = 1 ∨ i = 2 := by omega
    rcases e with rfl | rfl | rfl
    · exact enters_of Tryz.func32 (by kernel_rfl) rfl args W
    · exact enters_of Tryz.func34 (by kernel_rfl) rfl args W
    · exact enters_of Tryz.func36 (by kernel_rfl) rfl args W
  · intro i hi W DW K
    have hi3 : i < 3 := hi
    have kd := (K.cell (a := ⟨bd, 0, none⟩) y1 (lt hd)).trans hd
    have kf := (K.cell (a := ⟨bx, 0, none⟩) y2 (lt hf)).trans hf
    have ko := (K.cell (a := ⟨bo, 0, none⟩) y3 (lt ho)).trans ho
    have kp := (K.cell (a := ⟨bp, 0, none⟩) y4 (lt hp)).trans hp
    have k0 := (K.cell (a := ⟨bc, 0, none⟩) y5 (lt h0)).trans h0
    have k2 := (K.cell (a := ⟨bc, 2, none⟩) y5 (lt h2)).trans h2
    have e : i = 0 ∨ i = 1 ∨ i = 2 := by omega
    rcases e with rfl | rfl | rfl
    · exact open1_any DW (hn 0 (by decide)) kd kf ko k0 k2 rfl
    · exact open2_any DW (hn 1 (by decide)) kd kf rfl
    · exact open3_any DW (hn 2 (by decide)) hf1 kd kf kp rfl
end Go.Proofs.YtjcphpmlekfhdaaGreatDoor

/- The steps of Compact that change the disk. No condition but that the disk's calls do what they say. -/
namespace Go.Proofs.YtjcphpmlekfhdaaGreatDoor
open Go.RowKit

section
variable {w0 w : World} {d v bv bo bb file gen count other : Nat} {failed : Bool} {X : Nat → Prop} {S S' : Dk} {A : Option Addr} {n c : Nat} {x : Int}
set_option maxRecDepth 100000 in
set_option maxHeartbeats 1000000 in
theorem compact2_any (hV : Ro w v 90 (vtV d file gen count failed)) (hb : w.cell? ⟨bv, 0, none⟩ = some (.pointer (some ⟨v, 0, none⟩))) (ho : w.cell? ⟨bo, 0, none⟩ = some (.int .i64 (other : Nat))) (hs : w.cell? ⟨bb, 0, none⟩ = some (.slice A n c))
    (C : ∀ w1, w1 = w.drew → Calls Tryz.prog 33 #[.pointer (some ⟨d, 0, none⟩), .int .i64 (other : Nat), .slice A n c, .int .i64 0] w1 (StepP w0 d X w x S')) :
    Calls Tryz.prog 48 #[.pointer (some ⟨bv, 0, none⟩), .pointer (some ⟨bo, 0, none⟩), .pointer (some ⟨bb, 0, none⟩)] w (StepP w0 d X w x S') := by
  have HC := Lib.hid C
  have q0 := hV.cell (k := 0) rfl
  have q1 := hV.cell (k := 1) rfl
  clear C hV
  go_enter Tryz.func48, Tryz.ntmps48
  go_wp2_with fail
  go_still_tail 6, (by kernel_rfl)
  go_wp2_with fail
  refine (HC.out _ rfl).mono ?_
  rintro e w2 ⟨rfl, a1, a2⟩
  have H1 := Lib.hid a1
  have H2 := Lib.hid a2
  clear a1 a2
  go_wp2_with fail
  go_ret
  exact ⟨rfl, H1.out, H2.out⟩
set_option maxRecDepth 100000 in
set_option maxHeartbeats 1000000 in
theorem compact3_any (hV : Ro w v 90 (vtV d file gen count failed)) (hb : w.cell? ⟨bv, 0, none⟩ = some (.pointer (some ⟨v, 0, none⟩))) (ho : w.cell? ⟨bo, 0, none⟩ = some (.int .i64 (other : Nat))) (hs : w.cell? ⟨bb, 0, none⟩ = some (.slice A n c))
    (C : ∀ w1, w1 = w.drew → Calls Tryz.prog 41 #[.pointer (some ⟨d, 0, none⟩), .int .i64 (other : Nat), .slice A n c] w1 (StepP w0 d X w x S')) :
    Calls Tryz.prog 49 #[.pointer (some ⟨bv, 0, none⟩), .pointer (some ⟨bo, 0, none⟩), .pointer (some ⟨bb, 0, none⟩)] w (StepP w0 d X w x S') := by
  have HC := Lib.hid C
  have q0 := hV.cell (k := 0) rfl
  have q1 := hV.cell (k := 1) rfl
  clear C hV
  go_enter Tryz.func49, Tryz.ntmps49
  go_wp2_with fail
  go_still_tail 6, (by kernel_rfl)
  go_wp2_with fail
  refine (HC.out _ rfl).mono ?_
  rintro e w2 ⟨rfl, a1, a2⟩
  have H1 := Lib.hid a1
  have H2 := Lib.hid a2
  clear a1 a2
  go_wp2_with fail
  go_ret
  exact ⟨rfl, H1.out, H2.out⟩
set_option maxRecDepth 100000 in
set_option maxHeartbeats 1000000 in
theorem compact4_any (hV : Ro w v 90 (vtV d file gen count failed)) (hb : w.cell? ⟨bv, 0, none⟩ = some (.pointer (some ⟨v, 0, none⟩))) (ho : w.cell? ⟨bo, 0, none⟩ = some (.int .i64 (other : Nat)))
    (C : ∀ w1, w1 = w.drew → Calls Tryz.prog 35 #[.pointer (some ⟨d, 0, none⟩), .int .i64 (other : Nat)] w1 (StepP w0 d X w x S')) :
    Calls Tryz.prog 50 #[.pointer (some ⟨bv, 0, none⟩), .pointer (some ⟨bo, 0, none⟩)] w (StepP w0 d X w x S') := by
  have HC := Lib.hid C
  have q0 := hV.cell (k := 0) rfl
  have q1 := hV.cell (k := 1) rfl
  clear C hV
  go_enter Tryz.func50, Tryz.ntmps50
  go_wp2_with fail
  go_still_tail 5, (by kernel_rfl)
  go_wp2_with fail
  refine (HC.out _ rfl).mono ?_
  rintro e w2 ⟨rfl, a1, a2⟩
  have H1 := Lib.hid a1
  have H2 := Lib.hid a2
  clear a1 a2
  go_wp2_with fail
  go_ret
  exact ⟨rfl, H1.out, H2.out⟩
set_option maxRecDepth 100000 in
set_option maxHeartbeats 1000000 in
theorem compact5_any (hV : Ro w v 90 (vtV d file gen count failed)) (hb : w.cell? ⟨bv, 0, none⟩ = some (.pointer (some ⟨v, 0, none⟩))) 
    (C : ∀ w1, w1 = w.drew → Calls Tryz.prog 52 #[.pointer (some ⟨d, 0, none⟩), .int .i64 (file : Nat), .int .i64 0] w1 (StepP w0 d X w x S')) :
    Calls Tryz.prog 51 #[.pointer (some ⟨bv, 0, none⟩)] w (StepP w0 d X w x S') := by
  have HC := Lib.hid C
  have q0 := hV.cell (k := 0) rfl
  have q1 := hV.cell (k := 1) rfl
  clear C hV
  go_enter Tryz.func51, Tryz.ntmps51
  go_wp2_with fail
  go_still_tail 8, (by kernel_rfl)
  go_wp2_with fail
  refine (HC.out _ rfl).mono ?_
  rintro e w2 ⟨rfl, a1, a2⟩
  have H1 := Lib.hid a1
  have H2 := Lib.hid a2
  clear a1 a2
  go_wp2_with fail
  go_ret
  exact ⟨rfl, H1.out, H2.out⟩
end
end Go.Proofs.YtjcphpmlekfhdaaGreatDoor

/- The steps of Add, together. No condition but bounds. -/
namespace Go.Proofs.YtjcphpmlekfhdaaGreatDoor
open Go.RowKit

theorem add_steps {w0 w7 : World} {d v bv bb bl file gen count : Nat} {failed : Bool} {Y : Nat → Prop} {S : Dk} {A3 : Option Addr} {n3 c3 : Nat} {B : List Nat} (D : Dp w0 d Y S w7) (V7 : Ro w7 v 90 (vtV d file gen count failed)) (yv : Y v) (y1 : Y bv) (y2 : Y bb) (y3 : Y bl)
    (x7 : w7.cell? ⟨bv, 0, none⟩ = some (.pointer (some ⟨v, 0, none⟩))) (e7 : w7.cell? ⟨bb, 0, none⟩ = some (.slice A3 n3 c3))
    (hl : ∀ i, i < 2 → w7.cell? ⟨bl, 0 + i, none⟩ = some (([fnV (40, #[.pointer (some ⟨bv, 0, none⟩), .pointer (some ⟨bb, 0, none⟩)]), fnV (42, #[.pointer (some ⟨bv, 0, none⟩)])] : List Value).getD i undef))
    (r7 : Bs w7 A3 n3 B) (yA : ∀ a, A3 = some a → 0 < n3 → Y a.block) (hc : n3 ≤ c3) (hcm : c3 ≤ 9223372036854775807) (hv : w0.heap.size ≤ v) (hn0 : S.cnt ≤ 1073741823) (hn1 : (S.write (file : Nat) B).2.cnt ≤ 1073741823) :
    Calls Tryz.prog 39 #[.pointer (some ⟨v, 0, none⟩), .slice (some ⟨bl, 0, none⟩) 2 2] w7 (DoP w0 d v file gen count Y w7 (seqS [fun S => S.write (file : Nat) B, fun S => S.sync (file : Nat)] S).1 (seqS [fun S => S.write (file : Nat) B, fun S => S.sync (file : Nat)] S).2) := by
  refine do_v V7 yv hv ?_
  have lt := fun {a : Addr} {u : Value} (q : w7.cell? a = some u) => World.block_lt_of_cell? (w := w7) (a := a) q
  refine inOrder_dk (A := some ⟨bl, 0, none⟩) (n := 2) (c := 2) (w := w7) (X := Y) (S := S) (w0 := w0) (d := d) (l := [fun S => S.write (file : Nat) B, fun S => S.sync (file : Nat)])
    (fs := [(40, #[.pointer (some ⟨bv, 0, none⟩), .pointer (some ⟨bb, 0, none⟩)]), (42, #[.pointer (some ⟨bv, 0, none⟩)])]) rfl rfl (by decide) ?_ ?_ ?_ D
  · intro i hi
    have hi2 : i < 2 := hi
    have := hl i hi2
    refine ⟨bl, 0, rfl, y3, lt this, this.trans ?_⟩
    have e : i = 0 ∨ i = 1 := by omega
    rcases e with rfl | rfl <;> rfl
  · intro i hi args W
    have hi2 : i < 2 := hi
    have e : i = 0 ∨ i = 1 := by omega
    rcases e with rfl | rfl
    · exact enters_of Tryz.func40 (by kernel_rfl) rfl args W
    · exact enters_of Tryz.func42 (by kernel_rfl) rfl args W
  · intro i hi W DW K
    have hi2 : i < 2 := hi
    have kx := (K.cell (a := ⟨bv, 0, none⟩) y1 (lt x7)).trans x7
    have ke := (K.cell (a := ⟨bb, 0, none⟩) y2 (lt e7)).trans e7
    have kv := V7.same (K.blk v yv V7.lt)
    have bd : Below W.heap.size W W.drew := (Below.refl _ _).drew
    have e : i = 0 ∨ i = 1 := by omega
    rcases e with rfl | rfl
    · refine add1_any kv kx ke ?_
      rintro w1 rfl
      have rW : Bs W A3 n3 B := r7.kept fun h0 a e => by
        obtain ⟨a', e', hb, _⟩ := r7.cel h0
        rw [e] at e'
        injection e' with e'
        subst e'
        exact K.blk _ (yA _ e h0) hb
      exact (write_p (DW.later bd) hn0 (file : Nat) (rW.later bd) (fun h0 a e q => DW.lt.2.2 (by rw [← q]; exact yA a e h0)) hc hcm rfl rfl).mono fun e W' q => q.from bd
    · refine add2_any kv kx ?_
      rintro w1 rfl
      exact (sync_p (DW.later bd) hn1 (file : Nat) rfl rfl).mono fun e W' q => q.from bd
end Go.Proofs.YtjcphpmlekfhdaaGreatDoor

/- The steps of Compact that change the disk, together. No condition but bounds. -/
namespace Go.Proofs.YtjcphpmlekfhdaaGreatDoor
open Go.RowKit

def compactL (file other n1 : Nat) (B : List Nat) : List (Dk → Int × Dk) := [fun S => S.cutTo (other : Nat) n1 0, fun S => S.write (other : Nat) B, fun S => S.sync (other : Nat), fun S => S.cut (file : Nat) 0]
theorem compact_steps {w0 w7 : World} {d v bv bo bt bb bl file gen count other : Nat} {failed : Bool} {Y : Nat → Prop} {S : Dk} {A1 A3 : Option Addr} {n1 c1 n3 c3 : Nat} {B : List Nat} (D : Dp w0 d Y S w7) (V7 : Ro w7 v 90 (vtV d file gen count failed)) (yv : Y v) (y1 : Y bv) (y2 : Y bb) (y3 : Y bl) (y4 : Y bo) (y5 : Y bt)
    (x7 : w7.cell? ⟨bv, 0, none⟩ = some (.pointer (some ⟨v, 0, none⟩))) (o7 : w7.cell? ⟨bo, 0, none⟩ = some (.int .i64 (other : Nat))) (t7 : w7.cell? ⟨bt, 0, none⟩ = some (.slice A1 n1 c1)) (e7 : w7.cell? ⟨bb, 0, none⟩ = some (.slice A3 n3 c3))
    (hl : ∀ i, i < 4 → w7.cell? ⟨bl, 0 + i, none⟩ = some (([fnV (48, #[.pointer (some ⟨bv, 0, none⟩), .pointer (some ⟨bo, 0, none⟩), .pointer (some ⟨bt, 0, none⟩)]), fnV (49, #[.pointer (some ⟨bv, 0, none⟩), .pointer (some ⟨bo, 0, none⟩), .pointer (some ⟨bb, 0, none⟩)]), fnV (50, #[.pointer (some ⟨bv, 0, none⟩), .pointer (some ⟨bo, 0, none⟩)]), fnV (51, #[.pointer (some ⟨bv, 0, none⟩)])] : List Value).getD i undef))
    (r7 : Bs w7 A3 n3 B) (yA : ∀ a, A3 = some a → 0 < n3 → Y a.block) (hc : n3 ≤ c3) (hcm : c3 ≤ 9223372036854775807) (hv : w0.heap.size ≤ v) (hn : ∀ i, i < 4 → (stS (compactL file other n1 B) S i).cnt ≤ 1073741823) :
    Calls Tryz.prog 39 #[.pointer (some ⟨v, 0, none⟩), .slice (some ⟨bl, 0, none⟩) 4 4] w7 (DoP w0 d v file gen count Y w7 (seqS (compactL file other n1 B) S).1 (seqS (compactL file other n1 B) S).2) := by
  refine do_v V7 yv hv ?_
  have lt := fun {a : Addr} {u : Value} (q : w7.cell? a = some u) => World.block_lt_of_cell? (w := w7) (a := a) q
  refine inOrder_dk (A := some ⟨bl, 0, none⟩) (n := 4) (c := 4) (w := w7) (X := Y) (S := S) (w0 := w0) (d := d) (l := compactL file other n1 B)
    (fs := [(48, #[.pointer (some ⟨bv, 0, none⟩), .pointer (some ⟨bo, 0, none⟩), .pointer (some ⟨bt, 0, none⟩)]), (49, #[.pointer (some ⟨bv, 0, none⟩), .pointer (some ⟨bo, 0, none⟩), .pointer (some ⟨bb, 0, none⟩)]), (50, #[.pointer (some ⟨bv, 0, none⟩), .pointer (some ⟨bo, 0, none⟩)]), (51, #[.pointer (some ⟨bv, 0, none⟩)])]) rfl rfl (by decide) ?_ ?_ ?_ D
  · intro i hi
    have hi4 : i < 4 := hi
    have := hl i hi4
    refine ⟨bl, 0, rfl, y3, lt this, this.trans ?_⟩
    have e : i = 0 ∨ i = 1 ∨ i = 2 ∨ i = 3 := by omega
    rcases e with rfl | rfl | rfl | rfl <;> rfl
  · intro i hi args W
    have hi4 : i < 4 := hi
    have e : i = 0 ∨ i = 1 ∨ i = 2 ∨ i = 3 := by omega
    rcases e with rfl | rfl | rfl | rfl
    · exact enters_of Tryz.func48 (by kernel_rfl) rfl args W
    · exact enters_of Tryz.func49 (by kernel_rfl) rfl args W
    · exact enters_of Tryz.func50 (by kernel_rfl) rfl args W
    · exact enters_of Tryz.func51 (by kernel_rfl) rfl args W
  · intro i hi W DW K
    have hi4 : i < 4 := hi
    have kx := (K.cell (a := ⟨bv, 0, none⟩) y1 (lt x7)).trans x7
    have ko := (K.cell (a := ⟨bo, 0, none⟩) y4 (lt o7)).trans o7
    have kt := (K.cell (a := ⟨bt, 0, none⟩) y5 (lt t7)).trans t7
    have ke := (K.cell (a := ⟨bb, 0, none⟩) y2 (lt e7)).trans e7
    have kv := V7.same (K.blk v yv V7.lt)
    have bd : Below W.heap.size W W.drew := (Below.refl _ _).drew
    have e : i = 0 ∨ i = 1 ∨ i = 2 ∨ i = 3 := by omega
    rcases e with rfl | rfl | rfl | rfl
    · refine compact2_any kv kx ko kt ?_
      rintro w1 rfl
      exact (cutTo_p (m := 0) (DW.later bd) (hn 0 (by decide)) (other : Nat) rfl).mono fun e W' q => q.from bd
    · refine compact3_any kv kx ko ke ?_
      rintro w1 rfl
      have rW : Bs W A3 n3 B := r7.kept fun h0 a e => by
        obtain ⟨a', e', hb, _⟩ := r7.cel h0
        rw [e] at e'
        injection e' with e'
        subst e'
        exact K.blk _ (yA _ e h0) hb
      exact (write_p (DW.later bd) (hn 1 (by decide)) (other : Nat) (rW.later bd) (fun h0 a e q => DW.lt.2.2 (by rw [← q]; exact yA a e h0)) hc hcm rfl rfl).mono fun e W' q => q.from bd
    · refine compact4_any kv kx ko ?_
      rintro w1 rfl
      exact (sync_p (DW.later bd) (hn 2 (by decide)) (other : Nat) rfl rfl).mono fun e W' q => q.from bd
    · refine compact5_any kv kx ?_
      rintro w1 rfl
      exact (cut_p (DW.later bd) (hn 3 (by decide)) (file : Nat) 0 rfl rfl).mono fun e W' q => q.from bd
end Go.Proofs.YtjcphpmlekfhdaaGreatDoor

/- Open: what it finds, step by step. No memory but what a call leaves. No condition but bounds. -/
namespace Go.Proofs.YtjcphpmlekfhdaaGreatDoor
open Go.RowKit

/-- What Open has found of the first i files: the file, its generation, its records, how many bytes are good. -/
def bestS (Ls : Nat → List Nat) : Nat → Option (Nat × Nat × List (List Nat) × Nat)
  | 0 => none
  | i + 1 => match soundS i (Ls i) with
    | none => bestS Ls i
    | some x => if (match bestS Ls i with | none => 0 | some y => y.2.1) < x.1 then some (i, x) else bestS Ls i
def genB (o : Option (Nat × Nat × List (List Nat) × Nat)) : Nat := match o with | none => 0 | some y => y.2.1
theorem bestS_none {Ls : Nat → List Nat} {i : Nat} (h : soundS i (Ls i) = none) : bestS Ls (i + 1) = bestS Ls i := by rw [bestS, h]
theorem bestS_less {Ls : Nat → List Nat} {i : Nat} {x : Nat × List (List Nat) × Nat} (h : soundS i (Ls i) = some x) (hg : genB (bestS Ls i) < x.1) : bestS Ls (i + 1) = some (i, x) := by
  rw [bestS, h]
  exact if_pos hg
theorem bestS_more {Ls : Nat → List Nat} {i : Nat} {x : Nat × List (List Nat) × Nat} (h : soundS i (Ls i) = some x) (hg : ¬ genB (bestS Ls i) < x.1) : bestS Ls (i + 1) = bestS Ls i := by
  rw [bestS, h]
  exact if_neg hg
theorem soundS_gen {f : Nat} {L : List Nat} {x : Nat × List (List Nat) × Nat} (h : soundS f L = some x) : 1 ≤ x.1 ∧ x.1 ≤ 4611686018427387904 := by
  unfold soundS at h
  split at h
  · cases h
  · split at h
    · cases h
    · split at h
      · cases h
      · split at h
        · cases h
        · injection h with h
          subst h
          dsimp only
          omega
theorem bestS_file {Ls : Nat → List Nat} {y : Nat × Nat × List (List Nat) × Nat} : ∀ {i : Nat}, bestS Ls i = some y → y.1 < i
  | 0, h => by cases h
  | i + 1, h => by
    cases e : soundS i (Ls i) with
    | none => rw [bestS_none e] at h; have := bestS_file h; omega
    | some x =>
      by_cases hg : genB (bestS Ls i) < x.1
      · rw [bestS_less e hg] at h
        injection h with h
        subst h
        exact Nat.lt_succ_self i
      · rw [bestS_more e hg] at h
        have := bestS_file h
        omega
/-- What Open does: its answer, the disk, the file, the generation, the records. -/
def openS (S : Dk) : Int × Dk × Nat × Nat × List (List Nat) :=
  if S.off then (8, S, 0, 0, [])
  else match bestS (fun i => (S.at i).at) 2 with
    | none => let r := seqS (beginL S.g.at.length S.f.at.length) S
      (r.1, r.2, 1, 1, [])
    | some y => let r := seqS (openL y.1 (S.at y.1).at.length (S.at (1 - y.1)).at.length y.2.2.2) S
      (r.1, r.2, y.1, y.2.1, y.2.2.1)
/-- Records that lie in blocks of Y. -/
def RecsAt (W : World) (Y : Nat → Prop) (r : Value) (l : List (List Nat)) : Prop := ∃ A c, r = .slice A l.length c ∧ l.length ≤ c ∧ Rows W Y 1 ByR A l.length l
/-- What Open leaves: an error; or a vault at a new block and its records, beside the disk. -/
def OpenQ (w0 : World) (d : Nat) (X : Nat → Prop) (w : World) (x : Int) (S : Dk) (file gen : Nat) (recs : List (List Nat)) (e : Ending) (W : World) : Prop :=
  (x ≠ 0 ∧ e = .returned (.tuple #[.pointer none, .slice none 0 0, .int .i64 x]) ∧ Dp w0 d X S W ∧ Kept X w W) ∨
  (x = 0 ∧ ∃ v r Y, e = .returned (.tuple #[.pointer (some ⟨v, 0, none⟩), r, .int .i64 0]) ∧ w.heap.size ≤ v ∧ Ro W v 90 (vtV d file gen recs.length false) ∧ RecsAt W Y r recs ∧ (∀ b, Y b → w.heap.size ≤ b ∧ b ≠ v) ∧ Dp w0 d (fun b => X b ∨ b = v ∨ Y b) S W ∧ Kept X w W)

theorem at_len {S : Dk} (O : S.Ok) (i : Nat) : (S.at i).at.length ≤ 4194304 := by
  have h1 := O.most
  have h2 := Fits.last O.f
  have h3 := Fits.last O.g
  unfold Dk.at
  split
  · exact Nat.le_trans h2 h1
  · exact Nat.le_trans h3 h1
theorem read_o {w0 w : World} {d : Nat} {X : Nat → Prop} {S : Dk} (D : Dp w0 d X S w) (hn : S.cnt ≤ 1073741823) (f : Int) {L : List Nat} {x : Int} (hr : S.read f = (L, x)) :
    Calls Tryz.prog 24 #[.pointer (some ⟨d, 0, none⟩), .int .i64 f] w fun e W => ∃ A n c, e = .returned (.tuple #[.slice A n c, .int .i64 x]) ∧ n ≤ c ∧ c ≤ 9223372036854775807 ∧ Bs W A n L ∧ (∀ a, A = some a → w.heap.size ≤ a.block ∧ a.block < W.heap.size) ∧ Below w.heap.size w W := by
  obtain ⟨F, D, hX⟩ := D
  have h := read_any D hn f
  rw [hr] at h
  exact h.mono fun e W ⟨A, n, c, h1, h2, h3⟩ => ⟨A, n, c, h1, h2, Own.cap h3, h3.reads, fun a e => h3.new _ (by rw [e]; rfl), h3.bel⟩
theorem cnt_write (S : Dk) (f : Int) (b : List Nat) : (S.write f b).2.cnt ≤ S.cnt + 1 := by
  unfold Dk.write
  split
  · exact Nat.le_succ _
  · split
    · exact Nat.le_succ _
    · exact Dk.cnt_burn _ _ _ (by simp [Fl.add])
theorem cnt_cut (S : Dk) (f n : Int) : (S.cut f n).2.cnt ≤ S.cnt + 1 := by
  unfold Dk.cut
  split
  · exact Nat.le_succ _
  · split
    · exact Nat.le_succ _
    · exact Dk.cnt_burn _ _ _ (by simp [Fl.add])
theorem cnt_sync (S : Dk) (f : Int) : (S.sync f).2.cnt ≤ S.cnt + 1 := by
  unfold Dk.sync
  split
  · exact Nat.le_succ _
  · exact Dk.cnt_burn _ _ _ (by simp [Fl.settle])
theorem cnt_cutTo (S : Dk) (f : Int) (n m : Nat) : (S.cutTo f n m).2.cnt ≤ S.cnt + 1 := by
  unfold Dk.cutTo
  split
  · exact Nat.le_succ _
  · exact cnt_cut _ _ _
theorem cnt_steps {l : List (Dk → Int × Dk)} (h : ∀ i, i < l.length → ∀ S, (stepAt l i S).2.cnt ≤ S.cnt + 1) (S : Dk) : ∀ i, i ≤ l.length → (stS l S i).cnt ≤ S.cnt + i
  | 0, _ => Nat.le_refl _
  | i + 1, hi => by
    have := cnt_steps h S i (by omega)
    have := h i (by omega) (stS l S i)
    show (stepAt l i (stS l S i)).2.cnt ≤ _
    omega
theorem cnt_open (f n1 n2 good : Nat) (S : Dk) (i : Nat) (hi : i < 3) : (stS (openL f n1 n2 good) S i).cnt ≤ S.cnt + i :=
  cnt_steps (fun j hj T => by
    have hj3 : j < 3 := hj
    have e : j = 0 ∨ j = 1 ∨ j = 2 := by omega
    rcases e with rfl | rfl | rfl
    · exact cnt_cutTo _ _ _ _
    · exact cnt_sync _ _
    · exact cnt_cutTo _ _ _ _) S i (Nat.le_of_lt hi)
theorem cnt_begin (n1 n0 : Nat) (S : Dk) (i : Nat) (hi : i < 4) : (stS (beginL n1 n0) S i).cnt ≤ S.cnt + i :=
  cnt_steps (fun j hj T => by
    have hj3 : j < 4 := hj
    have e : j = 0 ∨ j = 1 ∨ j = 2 ∨ j = 3 := by omega
    rcases e with rfl | rfl | rfl | rfl
    · exact cnt_cutTo _ _ _ _
    · exact cnt_cutTo _ _ _ _
    · exact cnt_write _ _ _
    · exact cnt_sync _ _) S i (Nat.le_of_lt hi)
theorem cnt_compact (file other n1 : Nat) (B : List Nat) (S : Dk) (i : Nat) (hi : i < 4) : (stS (compactL file other n1 B) S i).cnt ≤ S.cnt + i :=
  cnt_steps (fun j hj T => by
    have hj3 : j < 4 := hj
    have e : j = 0 ∨ j = 1 ∨ j = 2 ∨ j = 3 := by omega
    rcases e with rfl | rfl | rfl | rfl
    · exact cnt_cutTo _ _ _ _
    · exact cnt_write _ _ _
    · exact cnt_sync _ _
    · exact cnt_cut _ _ _) S i (Nat.le_of_lt hi)
theorem OwnRw.base {α : Type} {T : TypeId} {sz : Nat} {R : Reads α} {w u W : World} {P : Nat → Prop} {v : Value} {n : Nat} {l : List α} (h : OwnRw T sz R u P v n l W) (hs : w.heap.size ≤ u.heap.size) (b : Below w.heap.size w W) : OwnRw T sz R w P v n l W := by
  obtain ⟨cs, h1, h2, h3⟩ := h.row
  refine ⟨⟨cs, ⟨h1.1, ?_⟩, h2, h3⟩, h.len, b⟩
  rcases h1.2 with e | ⟨q, cap, cur, hv, hb, hh, r⟩
  · exact .inl e
  · exact .inr ⟨q, cap, cur, hv, by omega, hh, r⟩
/-- What the boxes f and best hold. -/
def BestAt (w : World) (K : Nat) (o : Option (Nat × Nat × List (List Nat) × Nat)) (F : Int) (G : Nat) (v : Value) (good : Nat) (W : World) : Prop :=
  match o with
  | none => F = -1 ∧ G = 0
  | some y => F = (y.1 : Nat) ∧ G = y.2.1 ∧ good = y.2.2.2 ∧ OwnRw 40 1 ByR w (fun b => K ≤ b) v y.2.2.1.length y.2.2.1 W ∧ ∀ q, v.ownBlock = some q → K ≤ q
theorem BestAt.gen {w : World} {K : Nat} {o : Option (Nat × Nat × List (List Nat) × Nat)} {F : Int} {G : Nat} {v : Value} {good : Nat} {W : World} (h : BestAt w K o F G v good W) : G = genB o := by
  cases o with
  | none => exact h.2
  | some y => exact h.2.1
theorem BestAt.same {w : World} {K : Nat} {o : Option (Nat × Nat × List (List Nat) × Nat)} {F : Int} {G : Nat} {v : Value} {good : Nat} {W W' : World} (h : BestAt w K o F G v good W) (g : Kept (fun b => K ≤ b) W W') (b : Below w.heap.size w W') : BestAt w K o F G v good W' := by
  cases o with
  | none => exact h
  | some y =>
    obtain ⟨h1, h2, h3, h4, h5⟩ := h
    exact ⟨h1, h2, h3, h4.same byM ⟨g.size, fun b hb hl => g.blk b (by rcases hb with hb | hb; exact hb; exact h5 b hb) hl⟩ b, h5⟩
theorem Dp.box {w0 w : World} {d b k : Nat} {X : Nat → Prop} {S : Dk} (D : Dp w0 d X S w) (hb : X b) (h0 : w0.heap.size ≤ b) (u : Value) : Dp w0 d X S (w.setCell ⟨b, k, none⟩ u) :=
  D.keep ⟨Nat.le_of_eq (by simp [World.setCell]), fun c hc _ => Below.heap_setCell _ _ _ _ (fun q => hc (by rw [q]; exact hb))⟩ (D.bel.setCell (p := ⟨b, k, none⟩) h0 _)
theorem Bs.box {w : World} {b k : Nat} {A : Option Addr} {n : Nat} {L : List Nat} (h : Bs w A n L) (hA : ∀ a, A = some a → a.block ≠ b) (u : Value) : Bs (w.setCell ⟨b, k, none⟩ u) A n L :=
  h.kept fun _ a e => Below.heap_setCell _ _ _ _ (hA a e)
/-- Between two files that Open looks at. -/
structure OpJ (w0 w : World) (d : Nat) (X7 : Nat → Prop) (S : Dk) (K P9 : Nat) (A0 A1 : Option Addr) (n0 n1 c0 c1 : Nat) (k : Nat) (F : Int) (G : Nat) (v : Value) (good : Nat) (W : World) : Prop where
  bel : Below w.heap.size w W
  size : K ≤ W.heap.size
  r1 : Ro W w.heap.size 26 [.pointer (some ⟨d, 0, none⟩)]
  r5 : Ro W (w.heap.size + 1) 81 [.slice A0 n0 c0, .slice A1 n1 c1]
  r9 : Ro W P9 3 [.int .i64 F]
  r10 : Ro W (P9 + 1) 83 [.int .u64 (G : Nat), v, .int .i64 (good : Nat)]
  best : BestAt w K (bestS (fun i => (S.at i).at) k) F G v good W
  dp : Dp w0 d X7 S W
  b0 : Bs W A0 n0 (S.at 0).at
  b1 : Bs W A1 n1 (S.at 1).at
section
variable {w0 w W W' : World} {d K P9 n0 n1 c0 c1 k G good : Nat} {X7 : Nat → Prop} {S : Dk} {A0 A1 : Option Addr} {F : Int} {v : Value}
theorem OpJ.later (J : OpJ w0 w d X7 S K P9 A0 A1 n0 n1 c0 c1 k F G v good W) (b : Below W.heap.size W W') : OpJ w0 w d X7 S K P9 A0 A1 n0 n1 c0 c1 k F G v good W' :=
  ⟨J.bel.trans (b.mono J.bel.size), Nat.le_trans J.size b.size, J.r1.later b, J.r5.later b, J.r9.later b, J.r10.later b, J.best.same (Kept.of_below b) (J.bel.trans (b.mono J.bel.size)), J.dp.later b, J.b0.later b, J.b1.later b⟩
/-- Nothing better. -/
theorem OpJ.next (J : OpJ w0 w d X7 S K P9 A0 A1 n0 n1 c0 c1 k F G v good W) (h : bestS (fun i => (S.at i).at) (k + 1) = bestS (fun i => (S.at i).at) k) : OpJ w0 w d X7 S K P9 A0 A1 n0 n1 c0 c1 (k + 1) F G v good W :=
  ⟨J.bel, J.size, J.r1, J.r5, J.r9, J.r10, by rw [h]; exact J.best, J.dp, J.b0, J.b1⟩
/-- A better one. -/
theorem OpJ.better (J : OpJ w0 w d X7 S K P9 A0 A1 n0 n1 c0 c1 k F G v good W) (hP : P9 + 1 < K) (hP0 : w.heap.size + 1 < P9) (hw : w0.heap.size ≤ w.heap.size) (h7 : ∀ b, w.heap.size ≤ b → b < K → X7 b) (hA0 : ∀ a, A0 = some a → a.block ≠ P9 ∧ a.block ≠ P9 + 1) (hA1 : ∀ a, A1 = some a → a.block ≠ P9 ∧ a.block ≠ P9 + 1) {x : Nat × List (List Nat) × Nat} {u : Value} (h : bestS (fun i => (S.at i).at) (k + 1) = some (k, x)) (O : OwnRw 40 1 ByR w (fun b => K ≤ b) u x.2.1.length x.2.1 W) (hu : ∀ q, u.ownBlock = some q → K ≤ q) :
    OpJ w0 w d X7 S K P9 A0 A1 n0 n1 c0 c1 (k + 1) (k : Nat) x.1 u x.2.2 ((((W.setCell ⟨P9, 0, none⟩ (.int .i64 (k : Nat))).setCell ⟨P9 + 1, 0, none⟩ (.int .u64 (x.1 : Nat))).setCell ⟨P9 + 1, 1, none⟩ u).setCell ⟨P9 + 1, 2, none⟩ (.int .i64 (x.2.2 : Nat))) := by
  have b9 := J.bel.size
  have q9 : w.heap.size ≤ P9 := by omega
  have o : ∀ b, b ≠ P9 → b ≠ P9 + 1 → ((((W.setCell ⟨P9, 0, none⟩ (.int .i64 (k : Nat))).setCell ⟨P9 + 1, 0, none⟩ (.int .u64 (x.1 : Nat))).setCell ⟨P9 + 1, 1, none⟩ u).setCell ⟨P9 + 1, 2, none⟩ (.int .i64 (x.2.2 : Nat))).heap[b]? = W.heap[b]? := fun b h1 h2 =>
    (((Below.heap_setCell _ ⟨P9 + 1, 2, none⟩ _ b h2).trans (Below.heap_setCell _ ⟨P9 + 1, 1, none⟩ _ b h2)).trans (Below.heap_setCell _ ⟨P9 + 1, 0, none⟩ _ b h2)).trans (Below.heap_setCell _ ⟨P9, 0, none⟩ _ b h1)
  have sz : ((((W.setCell ⟨P9, 0, none⟩ (.int .i64 (k : Nat))).setCell ⟨P9 + 1, 0, none⟩ (.int .u64 (x.1 : Nat))).setCell ⟨P9 + 1, 1, none⟩ u).setCell ⟨P9 + 1, 2, none⟩ (.int .i64 (x.2.2 : Nat))).heap.size = W.heap.size := by simp [World.setCell]
  have bl : Below w.heap.size w ((((W.setCell ⟨P9, 0, none⟩ (.int .i64 (k : Nat))).setCell ⟨P9 + 1, 0, none⟩ (.int .u64 (x.1 : Nat))).setCell ⟨P9 + 1, 1, none⟩ u).setCell ⟨P9 + 1, 2, none⟩ (.int .i64 (x.2.2 : Nat))) :=
    (((J.bel.setCell (p := ⟨P9, 0, none⟩) q9 _).setCell (p := ⟨P9 + 1, 0, none⟩) (Nat.le_succ_of_le q9) _).setCell (p := ⟨P9 + 1, 1, none⟩) (Nat.le_succ_of_le q9) _).setCell (p := ⟨P9 + 1, 2, none⟩) (Nat.le_succ_of_le q9) _
  have x9 : X7 P9 := h7 _ q9 (by omega)
  have x10 : X7 (P9 + 1) := h7 _ (by omega) hP
  refine ⟨bl, by rw [sz]; exact J.size, J.r1.same (o _ (by omega) (by omega)), J.r5.same (o _ (by omega) (by omega)), ?_, ?_, ?_, ?_, J.b0.kept fun _ a e => o _ (hA0 a e).1 (hA0 a e).2, J.b1.kept fun _ a e => o _ (hA1 a e).1 (hA1 a e).2⟩
  · exact (((J.r9.set 0 _).other (by omega) _).other (by omega) _).other (by omega) _
  · exact (((J.r10.other (by omega) _).set 0 _).set 1 _).set 2 _
  · rw [h]
    refine ⟨rfl, rfl, rfl, O.same byM ⟨by rw [sz]; exact Nat.le_refl _, fun b hb _ => ?_⟩ bl, hu⟩
    have : K ≤ b := by
      rcases hb with hb | hb
      · exact hb
      · exact hu b hb
    exact o b (by omega) (by omega)
  · exact (((J.dp.box x9 (by omega) _).box x10 (by omega) _).box x10 (by omega) _).box x10 (by omega) _
end
end Go.Proofs.YtjcphpmlekfhdaaGreatDoor
