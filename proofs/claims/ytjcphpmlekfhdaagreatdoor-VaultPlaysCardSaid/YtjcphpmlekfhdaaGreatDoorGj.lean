/- A vault's step with what it leaves besides. No condition but that the step does what it says. -/
import Derived.Test.YtjcphpmlekfhdaaGreatDoorGi
import Derived.Test.YtjcphpmlekfhdaaGreatDoorGf
import Derived.Deep.RegionLaw
import Derived.BigRegion
import Derived.Deep.RegionHeld3

namespace Go.Proofs.YtjcphpmlekfhdaaGreatDoor
open Go.RowKit

section
variable {w0 w : World} {d v file gen count : Nat} {failed : Bool} {Y : Nat → Prop} {S' : Dk} {A : Option Addr} {n c : Nat} {x : Int}
set_option maxRecDepth 100000 in
set_option maxHeartbeats 1000000 in
theorem do_r (hV : Ro w v 90 (vtV d file gen count failed)) (hY : Y v) (hv : w0.heap.size ≤ v) (R : World → Prop) (hR : ∀ W u, R W → R (W.setCell ⟨v, 4, none⟩ u)) (C : Calls Tryz.prog 31 #[.slice A n c] w (fun e W => StepP w0 d Y w x S' e W ∧ R W)) :
    Calls Tryz.prog 39 #[.pointer (some ⟨v, 0, none⟩), .slice A n c] w (fun e W => DoP w0 d v file gen count Y w x S' e W ∧ R W) := by
  have HC := Lib.hid C
  have HV := Lib.hid hV
  clear C hV
  go_enter Tryz.func39, Tryz.ntmps39
  go_wp2_with fail
  refine (HC.out).mono ?_
  rintro e w1 ⟨⟨rfl, D1, K1⟩, r1⟩
  have V1 : Ro w1 v 90 (vtV d file gen count failed) := HV.out.same (K1.blk v hY HV.out.lt)
  have c4 := V1.cell (k := 4) rfl
  have f4 := V1.free 4
  have D2 : Dp w0 d Y S' (w1.setCell ⟨v, 4, none⟩ (.bool (x != 0))) := D1.keep ⟨Nat.le_of_eq (by simp [World.setCell]), fun b hb _ => Below.heap_setCell _ _ _ _ (fun q => hb (by rw [q]; exact hY))⟩ (D1.bel.setCell (p := ⟨v, 4, none⟩) hv _)
  have K2 : Kept (fun b => Y b ∧ b ≠ v) w (w1.setCell ⟨v, 4, none⟩ (.bool (x != 0))) := (K1.narrow fun b q => q.1).trans' ⟨Nat.le_of_eq (by simp [World.setCell]), fun b hb _ => Below.heap_setCell _ _ _ _ hb.2⟩
  have HV2 := Lib.hid (V1.set 4 (.bool (x != 0)))
  have HD2 := Lib.hid D2
  have HK2 := Lib.hid K2
  have HR2 := Lib.hid (hR w1 (.bool (x != 0)) r1)
  clear D1 K1 V1 D2 K2 hR r1
  go_wp2_with fail
  go_ret
  exact ⟨⟨rfl, HV2.out, HD2.out, HK2.out⟩, HR2.out⟩
end
end Go.Proofs.YtjcphpmlekfhdaaGreatDoor

/- The step of Compact that reads the other file. No condition but bounds on what is loose. -/
namespace Go.Proofs.YtjcphpmlekfhdaaGreatDoor
open Go.RowKit

section
variable {w0 w : World} {d v bv bo bb file gen count other : Nat} {failed : Bool} {X : Nat → Prop} {S : Dk} {x : Int}
theorem read_q (D : Dp w0 d X S w) (hn : S.cnt ≤ 1073741823) (f : Int) {L : List Nat} {x : Int} (hr : S.read f = (L, x)) :
    Calls Tryz.prog 24 #[.pointer (some ⟨d, 0, none⟩), .int .i64 f] w fun e W => ∃ A n c, e = .returned (.tuple #[.slice A n c, .int .i64 x]) ∧ n ≤ c ∧ Own w (.slice A n c) n L W ∧ Dp w0 d X S W := by
  have D' := D
  obtain ⟨F, D, hX⟩ := D
  have h := read_any D hn f
  rw [hr] at h
  exact h.mono fun e W ⟨A, n, c, h1, h2, h3⟩ => ⟨A, n, c, h1, h2, h3, D'.later h3.bel⟩
set_option maxRecDepth 100000 in
set_option maxHeartbeats 2000000 in
theorem compact1_any {L : List Nat} (D : Dp w0 d X S w) (hn : S.cnt ≤ 1073741823) (hbb : X bb) (hb0 : w0.heap.size ≤ bb) (hV : Ro w v 90 (vtV d file gen count failed)) (hb : w.cell? ⟨bv, 0, none⟩ = some (.pointer (some ⟨v, 0, none⟩))) (ho : w.cell? ⟨bo, 0, none⟩ = some (.int .i64 (other : Nat))) (hs : Ro w bb 40 [.slice none 0 0]) (h : S.read (other : Nat) = (L, x)) :
    Calls Tryz.prog 45 #[.pointer (some ⟨bv, 0, none⟩), .pointer (some ⟨bo, 0, none⟩), .pointer (some ⟨bb, 0, none⟩)] w (fun e W => e = .returned (.int .i64 x) ∧ Dp w0 d X S W ∧ Kept (fun b => b ≠ bb) w W ∧ ∃ A n c, n ≤ c ∧ Ro W bb 40 [.slice A n c] ∧ Bs W A n L ∧ ∀ a, A = some a → w.heap.size ≤ a.block) := by
  have q0 := hV.cell (k := 0) rfl
  have bl := hs.lt
  have C1 : Calls Tryz.prog 24 #[.pointer (some ⟨d, 0, none⟩), .int .i64 (other : Nat)] w.drew (fun e w1 => ∃ A n c, e = .returned (.tuple #[.slice A n c, .int .i64 x]) ∧ w1.cell? ⟨bb, 0, none⟩ = some (.slice none 0 0) ∧ w1.frozen? ⟨bb, 0, none⟩ = false ∧
      Hid (Dp w0 d X S (w1.setCell ⟨bb, 0, none⟩ (.slice A n c)) ∧ Kept (fun b => b ≠ bb) w (w1.setCell ⟨bb, 0, none⟩ (.slice A n c)) ∧ ∃ A' n' c', n' ≤ c' ∧ Ro (w1.setCell ⟨bb, 0, none⟩ (.slice A n c)) bb 40 [.slice A' n' c'] ∧ Bs (w1.setCell ⟨bb, 0, none⟩ (.slice A n c)) A' n' L ∧ ∀ a, A' = some a → w.heap.size ≤ a.block)) := by
    refine (read_q (D.later (Below.refl _ _).drew) hn (other : Nat) h).mono ?_
    rintro e w1 ⟨A, n, c, rfl, hc, O, D1⟩
    have b1 : Below w.heap.size w w1 := (Below.refl _ _).drew.trans O.bel
    have s1 := hs.later b1
    have hnew : ∀ a, A = some a → w.heap.size ≤ a.block := fun a e => (O.new a.block (by rw [e]; rfl)).1
    refine ⟨A, n, c, rfl, s1.cell (k := 0) rfl, s1.free 0, Lib.hid ⟨D1.keep ⟨Nat.le_of_eq (by simp [World.setCell]), fun b hb _ => Below.heap_setCell _ _ _ _ (fun q => hb (by rw [q]; exact hbb))⟩ (D1.bel.setCell (p := ⟨bb, 0, none⟩) hb0 _), (Kept.of_below b1).trans' ⟨Nat.le_of_eq (by simp [World.setCell]), fun b hb _ => Below.heap_setCell _ _ _ _ hb⟩, A, n, c, hc, s1.set 0 _, O.reads.kept fun _ a e => Below.heap_setCell _ _ _ _ (by have := hnew a e; show a.block ≠ bb; omega), hnew⟩⟩
  have HC1 := Lib.hid C1
  clear D hn hbb hb0 hV hs h C1 bl
  go_enter Tryz.func45, Tryz.ntmps45
  go_wp2_with fail
  go_region_law (first
    | (go_simp; (with_reducible refine (HC1.out).mono ?_); rintro e w1 ⟨A, n, c, rfl, p1, p2, G⟩; go_simp))
  all_goals go_wp2_with fail
  all_goals go_returns
  all_goals exact ⟨rfl, G.out.1, G.out.2.1, G.out.2.2⟩
end
end Go.Proofs.YtjcphpmlekfhdaaGreatDoor

/- Compact reads the other file. No condition but bounds on what is loose. -/
namespace Go.Proofs.YtjcphpmlekfhdaaGreatDoor
open Go.RowKit

/-- What is known of the bytes that Compact has read. -/
def Red (w0 : World) (d bb : Nat) (X : Nat → Prop) (w : World) (S : Dk) (L : List Nat) (W : World) : Prop :=
  Dp w0 d X S W ∧ ∃ A n c, n ≤ c ∧ Ro W bb 40 [.slice A n c] ∧ Bs W A n L ∧ ∀ a, A = some a → w.heap.size ≤ a.block
theorem Red.set {w0 w W : World} {d bb v : Nat} {X : Nat → Prop} {S : Dk} {L : List Nat} (h : Red w0 d bb X w S L W) (hX : X v) (hv : w0.heap.size ≤ v) (hvb : bb ≠ v) (hvw : v < w.heap.size) (u : Value) : Red w0 d bb X w S L (W.setCell ⟨v, 4, none⟩ u) := by
  obtain ⟨D, A, n, c, h1, h2, h3, h4⟩ := h
  refine ⟨D.keep ⟨Nat.le_of_eq (by simp [World.setCell]), fun b hb _ => Below.heap_setCell _ _ _ _ (fun q => hb (by rw [q]; exact hX))⟩ (D.bel.setCell (p := ⟨v, 4, none⟩) hv _), A, n, c, h1, h2.other hvb _, h3.kept fun _ a e => Below.heap_setCell _ _ _ _ (by have := h4 a e; show a.block ≠ v; omega), h4⟩
theorem compact_read {w0 w : World} {d v bv bo bb bl file gen count other : Nat} {failed : Bool} {X : Nat → Prop} {S : Dk} {L : List Nat} {x : Int} (D : Dp w0 d X S w) (hn : S.cnt ≤ 1073741823) (hbb : X bb) (hb0 : w0.heap.size ≤ bb) (hXv : X v) (hv : w0.heap.size ≤ v) (hvb : bb ≠ v) (hV : Ro w v 90 (vtV d file gen count failed)) (hb : w.cell? ⟨bv, 0, none⟩ = some (.pointer (some ⟨v, 0, none⟩))) (ho : w.cell? ⟨bo, 0, none⟩ = some (.int .i64 (other : Nat))) (hs : Ro w bb 40 [.slice none 0 0])
    (hl : w.cell? ⟨bl, 0, none⟩ = some (fnV (45, #[.pointer (some ⟨bv, 0, none⟩), .pointer (some ⟨bo, 0, none⟩), .pointer (some ⟨bb, 0, none⟩)]))) (h : S.read (other : Nat) = (L, x)) :
    Calls Tryz.prog 39 #[.pointer (some ⟨v, 0, none⟩), .slice (some ⟨bl, 0, none⟩) 1 1] w (fun e W => DoP w0 d v file gen count (fun b => X b ∧ b ≠ bb) w x S e W ∧ Red w0 d bb X w S L W) := by
  refine do_r hV ⟨hXv, fun q => hvb q.symm⟩ hv (Red w0 d bb X w S L) (fun W u q => q.set hXv hv hvb hV.lt u) ?_
  refine (inOrder_any (fs := [(45, #[.pointer (some ⟨bv, 0, none⟩), .pointer (some ⟨bo, 0, none⟩), .pointer (some ⟨bb, 0, none⟩)])]) rfl (show (1 : Nat) ≤ 1000 by decide)
    (fun i W => (i = 0 ∧ W = w) ∨ (i ≠ 0 ∧ x = 0 ∧ Kept (fun b => b ≠ bb) w W ∧ Red w0 d bb X w S L W)) (fun k W => k = x ∧ Kept (fun b => b ≠ bb) w W ∧ Red w0 d bb X w S L W) ?_ ?_ ?_ w (.inl ⟨rfl, rfl⟩)).mono ?_
  · rintro i W (⟨rfl, rfl⟩ | ⟨h0, _⟩) hi
    · exact ⟨bl, 0, rfl, hl⟩
    · have : i < 1 := hi
      omega
  · intro i hi args W
    have hi1 : i < 1 := hi
    obtain rfl : i = 0 := by omega
    exact enters_of Tryz.func45 (by kernel_rfl) rfl args W
  · rintro i W (⟨rfl, rfl⟩ | ⟨h0, _⟩) hi
    · refine (compact1_any D hn hbb hb0 hV hb ho hs h).mono ?_
      rintro e W ⟨rfl, h1, h2, h3⟩
      refine ⟨x, rfl, ?_⟩
      by_cases hx : x = 0
      · exact .inl ⟨hx, .inr ⟨by decide, hx, h2, h1, h3⟩⟩
      · exact .inr ⟨hx, rfl, h2, h1, h3⟩
    · have : i < 1 := hi
      omega
  · rintro e W ⟨k, rfl, ⟨rfl, (⟨h0, _⟩ | ⟨_, h1, h2, h3⟩)⟩ | ⟨_, rfl, h2, h3⟩⟩
    · cases h0
    · exact ⟨⟨by rw [h1], h3.1.narrow fun b q => q.1, h2.narrow fun b q => q.2⟩, h3⟩
    · exact ⟨⟨rfl, h3.1.narrow fun b q => q.1, h2.narrow fun b q => q.2⟩, h3⟩
end Go.Proofs.YtjcphpmlekfhdaaGreatDoor

/- Add: the records' frames are written and synced. No condition but bounds. -/
namespace Go.Proofs.YtjcphpmlekfhdaaGreatDoor
open Go.RowKit

/-- What Add does: its answer, the disk, how many records there are, whether it failed. -/
def addS (file gen count : Nat) (l : List (List Nat)) (S : Dk) : Int × Dk × Nat × Bool :=
  if S.room < wideS l then (7, S, count, false)
  else if l = [] then (0, S, count, false)
  else let r := seqS [fun S => S.write (file : Nat) (framesS gen count l), fun S => S.sync (file : Nat)] S
    (r.1, r.2, if r.1 = 0 then count + l.length else count, r.1 != 0)
/-- What a call of a vault leaves. -/
def VtP (w0 : World) (d v : Nat) (X : Nat → Prop) (w : World) (x : Int) (S : Dk) (file gen count : Nat) (failed : Bool) (e : Ending) (W : World) : Prop :=
  e = .returned (.int .i64 x) ∧ Ro W v 90 (vtV d file gen count failed) ∧ Dp w0 d X S W ∧ Kept (fun b => X b ∧ b ≠ v) w W
section
variable {w : World} {A : Option Addr} {n c : Nat} {v d file gen count : Nat} {l : List (List Nat)}
set_option maxRecDepth 100000 in
set_option maxHeartbeats 4000000 in
theorem add_v {w0 : World} {X : Nat → Prop} {S : Dk} (D : Dp w0 d X S w) (hX : X v) (hvd : v < w.heap.size) (hLd : Laid w) (hV : Ro w v 90 (vtV d file gen count false)) (hR : Rows w anyP 1 ByR A n l) (hn : n ≤ 1099511627776) (hm : longS l = false) (hg : gen < 18446744073709551616) (hk : count ≤ 4611686018427387904) (hw : wideS l ≤ 549755813888) (hv : w0.heap.size ≤ v) (hcnt : S.cnt ≤ 1073741823) (hn1 : (S.write (file : Nat) (framesS gen count l)).2.cnt ≤ 1073741823) :
    Calls Tryz.prog 14 #[.pointer (some ⟨v, 0, none⟩), .slice A n c] w (VtP w0 d v X w (addS file gen count l S).1 (addS file gen count l S).2.1 file gen (addS file gen count l S).2.2.1 (addS file gen count l S).2.2.2) := by
  obtain ⟨w1, hw1⟩ : ∃ w1, w1 = w.alloc (.cells #[.pointer (some ⟨v, 0, none⟩)] 34) := ⟨_, rfl⟩
  have b1 : Below w.heap.size w w1 := by rw [hw1]; exact (Below.refl _ _).alloc (Nat.le_refl _) _
  have X1 : Ro w1 w.heap.size 34 [.pointer (some ⟨v, 0, none⟩)] := by rw [hw1]; exact Ro.new w _ _
  have V1 := hV.later b1
  have R1 := Rows.later byM hR b1
  have L1 := hLd.later hLd.lt b1
  have MY := Lib.hid (may_any (c := c) w1 V1 R1 hn)
  have mz : mayN false l = 0 := by unfold mayN; rw [hm]; rfl
  rw [mz] at MY
  have F1 : ∀ w', Below w1.heap.size w1 w' → Calls Tryz.prog 38 #[.int .u64 (gen : Nat), .int .i64 (count : Nat), .slice A n c] w' (GivesB w' (framesS gen count l)) := fun w' b => frames_any w' (L1.later L1.lt b) hg hk (Rows.later byM R1 b) (longS_none hm) hw
  have HF := Lib.hid F1
  have x1 := X1.cell (k := 0) rfl
  have v0 := V1.cell (k := 0) rfl
  have v2 := V1.cell (k := 2) rfl
  have v3 := V1.cell (k := 3) rfl
  obtain ⟨B, hB⟩ : ∃ B, framesS gen count l = B := ⟨_, rfl⟩
  rw [hB] at HF hn1
  have HB := Lib.hid hB
  have HD0 := Lib.hid D
  have HN1 := Lib.hid hn1
  clear hn1
  have HD := Lib.hid (fun w' (b : Below w1.heap.size w1 w') => D.later (b1.trans (b.mono b1.size)))
  have HX := Lib.hid hX
  have HV1 := Lib.hid (fun w' (b : Below w1.heap.size w1 w') => V1.later b)
  have HK1 := Lib.hid (fun w' (b : Below w1.heap.size w1 w') => Below.trans b1 (b.mono b1.size))
  have HLN := Lib.hid hR.len
  have HWL : Hid (B.length = wideS l) := Lib.hid (by rw [← hB]; exact framesS_len gen count l)
  obtain ⟨P, hP⟩ : ∃ P : Int × Dk × Nat × Bool, addS file gen count l S = P := ⟨_, rfl⟩
  have HPP := Lib.hid hP
  rw [hP]
  clear hP
  have dl := D.lt.2.1
  have z1 : w1.heap.size = w.heap.size + 1 := by rw [hw1]; simp
  have HZ1 := Lib.hid (show d < w1.heap.size ∧ w1.heap.size = w.heap.size + 1 from ⟨by omega, z1⟩)
  have vl := World.block_lt_of_cell? _ _ v0
  have xl := World.block_lt_of_cell? _ _ x1
  clear F1 V1 R1 L1 X1 hV hR hLd hm mz hB b1 D hX dl z1
  go_enter Tryz.func14, Tryz.ntmps14
  go_wp2_with fail
  rw [← hw1]
  clear hw1
  refine (MY.out).mono ?_
  rintro e w2 ⟨rfl, rfl⟩
  go_wp2_with fail
  have Q0 : Hid (∀ w', Below w2.heap.size w2 w' → w'.cell? ⟨w.heap.size, 0, none⟩ = some (.pointer (some ⟨v, 0, none⟩)) ∧ w'.cell? ⟨v, 2, none⟩ = some (.int .u64 (gen : Nat)) ∧ w'.cell? ⟨v, 3, none⟩ = some (.int .i64 (count : Nat))) := Lib.hid fun w' b =>
    ⟨(b.cell (p := ⟨w.heap.size, 0, none⟩) (World.block_lt_of_cell? _ _ x1)).trans x1, (b.cell (p := ⟨v, 2, none⟩) (World.block_lt_of_cell? _ _ v2)).trans v2, (b.cell (p := ⟨v, 3, none⟩) (World.block_lt_of_cell? _ _ v3)).trans v3⟩
  go_region_held3 (fun w' => w'.cell? ⟨w.heap.size, 0, none⟩ = some (.pointer (some ⟨v, 0, none⟩)) ∧ w'.cell? ⟨v, 2, none⟩ = some (.int .u64 (gen : Nat)) ∧ w'.cell? ⟨v, 3, none⟩ = some (.int .i64 (count : Nat)))
    (first
      | exact Q0.out _ ((Below.refl _ _).drew)
      | exact Q0.out _ (by assumption)
      | exact Q0.out _ (((Below.refl _ _).alloc (Nat.le_refl _) _).drew)
      | exact Q0.out _ ((Below.refl _ _).drew.alloc (Nat.le_refl _) _)
      | exact Q0.out _ (Below.alloc (by assumption) (Below.size (by assumption)) _)
      | exact Q0.out _ (Below.setCell (Below.alloc (by assumption) (Below.size (by assumption)) _) (by first | exact Nat.le_refl _ | exact Below.size (by assumption)) _)
      | exact Q0.out _ (Below.setCell (by assumption) (by first | exact Nat.le_refl _ | exact Below.size (by assumption)) _))
    (first
      | (go_at_call 38; refine (HF.out _ (by first | exact (Below.refl _ _).drew | exact ((Below.refl _ _).alloc (Nat.le_refl _) _).drew | exact (Below.refl _ _).drew.alloc (Nat.le_refl _) _)).mono ?_; rintro e w3 ⟨A3, n3, c3, rfl, hc3, O3⟩; have b3 : Below w2.heap.size w2 w3 := (by first | exact Below.trans ((Below.refl _ _).drew) O3.bel | exact Below.trans ((Below.refl _ _).drew.alloc (Nat.le_refl _) _) (O3.bel.mono (by simp)) | exact Below.trans (((Below.refl _ _).alloc (Nat.le_refl _) _).drew) (O3.bel.mono (by simp))); try (have bx : Boxed w3 w2.heap.size 40 (.slice none 0 0) := (O3.bel.block _ (by simp)).trans (Boxed.new w2 _ _); have bxc := bx.cell; have bxf := bx.frozen)))
  -- both orders meet again: the box of the frames, the world behind
  all_goals (
    first
      | (obtain ⟨W4, h1⟩ : ∃ W4, W4 = w3.alloc (.cells #[.slice A3 n3 c3] 40) := ⟨_, rfl⟩
         obtain ⟨bb, h2⟩ : ∃ bb, bb = w3.heap.size := ⟨_, rfl⟩
         have F4 : Below w2.heap.size w2 W4 ∧ W4.cell? ⟨bb, 0, none⟩ = some (.slice A3 n3 c3) ∧ Bs W4 A3 n3 B ∧ w2.heap.size ≤ bb ∧ bb < W4.heap.size := by
           rw [h1, h2]
           exact ⟨b3.alloc b3.size _, (Boxed.new w3 _ _).cell, O3.reads.later ((Below.refl _ _).alloc (Nat.le_refl _) _), b3.size, by simp⟩
         rw [← h1, ← h2]
         clear h1 h2)
      | (obtain ⟨W4, h1⟩ : ∃ W4, W4 = w3.setCell ⟨w2.heap.size, 0, none⟩ (.slice A3 n3 c3) := ⟨_, rfl⟩
         obtain ⟨bb, h2⟩ : ∃ bb, bb = w2.heap.size := ⟨_, rfl⟩
         have F4 : Below w2.heap.size w2 W4 ∧ W4.cell? ⟨bb, 0, none⟩ = some (.slice A3 n3 c3) ∧ Bs W4 A3 n3 B ∧ w2.heap.size ≤ bb ∧ bb < W4.heap.size := by
           rw [h1, h2]
           exact ⟨b3.setCell (Nat.le_refl _) _, (bx.set _).cell, O3.reads.kept fun hn a e => Below.heap_setCell _ _ _ _ (by have := (O3.new a.block (by rw [e]; rfl)).1; simp at this; show a.block ≠ w2.heap.size; omega), Nat.le_refl _, (Array.getElem?_eq_some_iff.1 (bx.set (.slice A3 n3 c3))).1⟩
         rw [← h1, ← h2]
         clear h1 h2 bx)
    obtain ⟨bb4, e4, r4, hbl, hbw⟩ := F4
    have hA3 : ∀ a, A3 = some a → w2.heap.size ≤ a.block := fun a e => by
      have := (O3.new a.block (by rw [e]; rfl)).1
      simp at this
      omega
    have hcm := O3.cap
    have hl3 := O3.len
    have q4 := Q0.out W4 bb4
    clear O3 b3
    have Q4 : Hid (∀ w', Below W4.heap.size W4 w' → w'.cell? ⟨bb, 0, none⟩ = some (.slice A3 n3 c3) ∧ w'.cell? ⟨w.heap.size, 0, none⟩ = some (.pointer (some ⟨v, 0, none⟩)) ∧ w'.cell? ⟨v, 0, none⟩ = some (.pointer (some ⟨d, 0, none⟩))) := Lib.hid fun w' b =>
      ⟨(b.cell (p := ⟨bb, 0, none⟩) hbw).trans e4, (b.cell (p := ⟨w.heap.size, 0, none⟩) (Nat.lt_of_lt_of_le xl bb4.size)).trans q4.1, (b.cell (p := ⟨v, 0, none⟩) (Nat.lt_of_lt_of_le vl bb4.size)).trans ((bb4.cell (p := ⟨v, 0, none⟩) vl).trans v0)⟩
    have RM : Hid (∀ w', Below W4.heap.size W4 w' → Calls Tryz.prog 16 #[.pointer (some ⟨d, 0, none⟩)] w' (fun e W => e = .returned (.int .i64 (S.room : Nat)) ∧ Below w'.heap.size w' W)) := Lib.hid fun w' b =>
      (room_p (HD.out w' (bb4.trans (b.mono bb4.size))) rfl).mono fun e W h => ⟨h.1, h.2.2⟩
    obtain ⟨ρ, hρ⟩ : ∃ ρ, S.room = ρ := ⟨_, rfl⟩
    rw [hρ] at RM
    have HRHO := Lib.hid hρ
    clear hρ
    clear e4 q4 hbw)
  all_goals go_wp2_with fail
  all_goals (
    have hwl : n3 = wideS l := by rw [← HWL.out, hl3]
    by_cases hroom : ρ < n3
    · have t5 : decide ((ρ : Int) < (n3 : Int)) = true := decide_eq_true (by omega)
      obtain rfl : P = (7, S, count, false) := by rw [← HPP.out]; unfold addS; rw [if_pos (by rw [HRHO.out]; omega)]
      go_region_held3 (fun w' => w'.cell? ⟨bb, 0, none⟩ = some (.slice A3 n3 c3) ∧ w'.cell? ⟨w.heap.size, 0, none⟩ = some (.pointer (some ⟨v, 0, none⟩)) ∧ w'.cell? ⟨v, 0, none⟩ = some (.pointer (some ⟨d, 0, none⟩)))
        (first
          | exact Q4.out _ ((Below.refl _ _).drew)
          | exact Q4.out _ (by assumption))
        (first
          | (go_at_call 16; refine (RM.out _ ((Below.refl _ _).drew)).mono ?_; rintro e w6 ⟨rfl, b60⟩; have b6 : Below W4.heap.size W4 w6 := (Below.refl _ _).drew.trans b60; clear b60))
      have HB6 := Lib.hid (bb4.trans (b6.mono bb4.size))
      go_wp2_with fail
      go_ret
      exact ⟨rfl, HV1.out _ HB6.out, HD.out _ HB6.out, Kept.of_below (HK1.out _ HB6.out)⟩
    · have t5 : decide ((ρ : Int) < (n3 : Int)) = false := decide_eq_false (by omega)
      by_cases hn0 : n = 0
      · have t7 : ((n : Int) == 0) = true := by rw [beq_iff_eq]; omega
        obtain rfl : P = (0, S, count, false) := by
          rw [← HPP.out]
          unfold addS
          rw [if_neg (by rw [HRHO.out]; omega), if_pos (List.eq_nil_of_length_eq_zero (by rw [HLN.out, hn0]))]
        go_region_held3 (fun w' => w'.cell? ⟨bb, 0, none⟩ = some (.slice A3 n3 c3) ∧ w'.cell? ⟨w.heap.size, 0, none⟩ = some (.pointer (some ⟨v, 0, none⟩)) ∧ w'.cell? ⟨v, 0, none⟩ = some (.pointer (some ⟨d, 0, none⟩)))
          (first
            | exact Q4.out _ ((Below.refl _ _).drew)
            | exact Q4.out _ (by assumption))
          (first
            | (go_at_call 16; refine (RM.out _ ((Below.refl _ _).drew)).mono ?_; rintro e w6 ⟨rfl, b60⟩; have b6 : Below W4.heap.size W4 w6 := (Below.refl _ _).drew.trans b60; clear b60))
        have HB6 := Lib.hid (bb4.trans (b6.mono bb4.size))
        go_wp2_with fail
        go_ret
        exact ⟨rfl, HV1.out _ HB6.out, HD.out _ HB6.out, Kept.of_below (HK1.out _ HB6.out)⟩
      · have t7 : ((n : Int) == 0) = false := by rw [beq_eq_false_iff_ne]; omega
        go_region_held3 (fun w' => w'.cell? ⟨bb, 0, none⟩ = some (.slice A3 n3 c3) ∧ w'.cell? ⟨w.heap.size, 0, none⟩ = some (.pointer (some ⟨v, 0, none⟩)) ∧ w'.cell? ⟨v, 0, none⟩ = some (.pointer (some ⟨d, 0, none⟩)))
          (first
            | exact Q4.out _ ((Below.refl _ _).drew)
            | exact Q4.out _ (by assumption))
          (first
            | (go_at_call 16; refine (RM.out _ ((Below.refl _ _).drew)).mono ?_; rintro e w6 ⟨rfl, b60⟩; have b6 : Below W4.heap.size W4 w6 := (Below.refl _ _).drew.trans b60; clear b60))
        have HB6 := Lib.hid (bb4.trans (b6.mono bb4.size))
        have q6 := Q4.out w6 b6
        obtain ⟨e6, x6, _⟩ := q6
        obtain ⟨w7, hw7⟩ : ∃ w7, w7 = w6.alloc (.cells #[fnV (40, #[.pointer (some ⟨w.heap.size, 0, none⟩), .pointer (some ⟨bb, 0, none⟩)]), fnV (42, #[.pointer (some ⟨w.heap.size, 0, none⟩)])] 54) := ⟨_, rfl⟩
        have b7 : Below w6.heap.size w6 w7 := by rw [hw7]; exact (Below.refl _ _).alloc (Nat.le_refl _) _
        have z7 : w7.heap.size = w6.heap.size + 1 := by rw [hw7]; simp
        have b27 : Below w2.heap.size w2 w7 := HB6.out.trans (b7.mono HB6.out.size)
        have k7 := HK1.out _ b27
        have R7 : Ro w7 w6.heap.size 54 [fnV (40, #[.pointer (some ⟨w.heap.size, 0, none⟩), .pointer (some ⟨bb, 0, none⟩)]), fnV (42, #[.pointer (some ⟨w.heap.size, 0, none⟩)])] := by rw [hw7]; exact Ro.new w6 _ _
        have D7 : Dp w0 d (fun b => X b ∨ (w.heap.size ≤ b ∧ b < w7.heap.size)) S w7 := HD0.out.wide (Kept.of_below k7) (HD0.out.bel.trans (k7.mono HD0.out.bel.size)) fun b q => q
        have q7 := Q4.out w7 (b6.trans (b7.mono b6.size))
        have s24 := bb4.size
        have s46 := b6.size
        have zz1 := HZ1.out
        have hbw : bb < W4.heap.size := World.block_lt_of_cell? _ _ (Q4.out W4 (Below.refl _ _)).1
        have DO := Lib.hid (add_steps D7 (HV1.out _ b27) (bv := w.heap.size) (bb := bb) (bl := w6.heap.size) (.inl HX.out) (.inr ⟨Nat.le_refl _, by omega⟩) (.inr ⟨by omega, by omega⟩) (.inr ⟨by omega, by omega⟩) q7.2.1 q7.1 (fun i hi => by
          have e : i = 0 ∨ i = 1 := by omega
          rcases e with rfl | rfl <;> exact R7.cell rfl) (r4.later (b6.trans (b7.mono b6.size))) (fun a e h0 => .inr ⟨by have := hA3 a e; omega, by
            obtain ⟨a', e', hb, _⟩ := r4.cel h0
            rw [e] at e'
            injection e' with e'
            subst e'
            omega⟩) hc3 hcm hv hcnt HN1.out)
        obtain ⟨x, S', hxs⟩ : ∃ x S', seqS [fun S => S.write (file : Nat) B, fun S => S.sync (file : Nat)] S = (x, S') := ⟨_, _, rfl⟩
        rw [hxs] at DO
        have hP : P = (x, S', if x = 0 then count + l.length else count, x != 0) := by
          rw [← HPP.out]
          unfold addS
          rw [if_neg (by rw [HRHO.out]; omega), if_neg (fun e => by rw [e] at HLN; have := HLN.out; simp at this; omega), HB.out, hxs]
        have xl7 : w.heap.size < w7.heap.size := by omega
        have X7 := Lib.hid q7.2.1
        have K7 := Lib.hid k7
        unfold fnV at hw7
        dsimp only at hw7
        have HPX := Lib.hid hP
        clear D7 R7 q7 b7 z7 b27 k7 hxs hP
        go_wp2_with fail
        rw [← hw7]
        clear hw7
        refine (DO.out).mono ?_
        rintro e w8 ⟨rfl, V8, D8, K8⟩
        have x8 : w8.cell? ⟨w.heap.size, 0, none⟩ = some (.pointer (some ⟨v, 0, none⟩)) := (K8.cell (a := ⟨w.heap.size, 0, none⟩) ⟨Or.inr ⟨Nat.le_refl _, xl7⟩, by show w.heap.size ≠ v; omega⟩ xl7).trans X7.out
        have KK : Hid (Kept (fun b => X b ∧ b ≠ v) w w8) := Lib.hid ((Kept.of_below K7.out).trans' (K8.narrow fun b q => ⟨.inl q.1, q.2⟩))
        have DD : Hid (Dp w0 d X S' w8) := Lib.hid (D8.narrow fun b q => .inl q)
        have VV := Lib.hid V8
        have p0 := V8.cell (k := 0) rfl
        have p3 := V8.cell (k := 3) rfl
        have f3 := V8.free 3
        clear V8 D8 K8
        by_cases hx : x = 0
        · subst hx
          have hcn : IntKind.i64.wrap ((count : Int) + (n : Int)) = (count : Int) + (n : Int) := by rw [IntKind.wrap_i64]; omega
          have vs := VV.out.set 3 (.int .i64 ((count : Int) + (n : Int)))
          have ve : (vtV d file gen count ((0 : Int) != 0)).set 3 (.int .i64 ((count : Int) + (n : Int))) = vtV d file gen (count + l.length) false := by
            unfold vtV
            rw [HLN.out, Int.natCast_add]
            rfl
          rw [ve] at vs
          have VS := Lib.hid vs
          have DS : Hid (Dp w0 d X S' (w8.setCell ⟨v, 3, none⟩ (.int .i64 ((count : Int) + (n : Int))))) := Lib.hid (DD.out.keep ⟨Nat.le_of_eq (by simp [World.setCell]), fun b hb _ => Below.heap_setCell _ _ _ _ (fun q => hb (by rw [q]; exact HX.out))⟩ (DD.out.bel.setCell (p := ⟨v, 3, none⟩) hv _))
          have KS : Hid (Kept (fun b => X b ∧ b ≠ v) w (w8.setCell ⟨v, 3, none⟩ (.int .i64 ((count : Int) + (n : Int))))) := Lib.hid (KK.out.trans' ⟨Nat.le_of_eq (by simp [World.setCell]), fun b hb _ => Below.heap_setCell _ _ _ _ hb.2⟩)
          obtain rfl := HPX.out
          clear vs ve
          go_wp2_with fail
          go_ret
          exact ⟨rfl, VS.out, DS.out, KS.out⟩
        · have t9 : (x == 0) = false := by rw [beq_eq_false_iff_ne]; exact hx
          have hP2 : P = (x, S', count, x != 0) := by rw [HPX.out, if_neg hx]
          subst hP2
          go_wp2_with fail
          go_ret
          exact ⟨rfl, VV.out, DD.out, KK.out⟩)
end
end Go.Proofs.YtjcphpmlekfhdaaGreatDoor
