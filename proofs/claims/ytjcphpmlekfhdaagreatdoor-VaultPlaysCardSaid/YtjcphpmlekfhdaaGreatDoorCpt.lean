/- Compact: these records alone are left. No condition but bounds. -/
import Derived.Test.YtjcphpmlekfhdaaGreatDoorGi
import Derived.Test.YtjcphpmlekfhdaaGreatDoorGj
import Derived.Deep.RegionHeld3
namespace Go.Proofs.YtjcphpmlekfhdaaGreatDoor
open Go.RowKit

/-- What Compact does: its answer, the disk, the file, the generation, how many records, whether it failed. -/
def compactS (file gen count : Nat) (l : List (List Nat)) (S : Dk) : Int × Dk × Nat × Nat × Nat × Bool :=
  if 4611686018427387904 ≤ gen then (6, S, file, gen, count, false)
  else if (S.read ((1 - file : Nat) : Int)).2 ≠ 0 then ((S.read ((1 - file : Nat) : Int)).2, S, file, gen, count, true)
  else if S.room + (S.read ((1 - file : Nat) : Int)).1.length < (frontS (gen + 1) l.length ++ framesS (gen + 1) 0 l).length then (7, S, file, gen, count, false)
  else let r := seqS (compactL file (1 - file) (S.read ((1 - file : Nat) : Int)).1.length (frontS (gen + 1) l.length ++ framesS (gen + 1) 0 l)) S
    if r.1 = 0 then (0, r.2, 1 - file, gen + 1, l.length, false) else (r.1, r.2, file, gen, count, true)
section
variable {w : World} {A : Option Addr} {n c : Nat} {v d file gen count : Nat} {l : List (List Nat)}
theorem read_len {S : Dk} (O : S.Ok) (f : Int) : (S.read f).1.length ≤ 4194304 := by
  unfold Dk.read
  split
  · exact Nat.zero_le _
  · exact at_len O _
theorem room_le {S : Dk} (O : S.Ok) : S.room ≤ 4194304 := by
  have := O.most
  unfold Dk.room
  omega
theorem Dp.xlt {w0 w : World} {d : Nat} {X : Nat → Prop} {S : Dk} (D : Dp w0 d X S w) : ∀ b, X b → b < w.heap.size := by
  obtain ⟨F, _, h⟩ := D
  exact fun b hb => (h b hb).2
set_option maxRecDepth 100000 in
set_option maxHeartbeats 8000000 in
theorem compact_v {w0 : World} {X : Nat → Prop} {S : Dk} (D : Dp w0 d X S w) (hX : X v) (hvd : v < w.heap.size) (hLd0 : Laid w0) (hV : Ro w v 90 (vtV d file gen count false)) (hR : Rows w (fun b => X b ∧ b ≠ v) 1 ByR A n l) (hn : n ≤ 1073741824) (hm : longS l = false) (hf : file ≤ 1) (hg : gen < 18446744073709551616) (hw : wideS l ≤ 1073741824) (hv : w0.heap.size ≤ v) (hcnt : S.cnt ≤ 1000000000) :
    Calls Tryz.prog 20 #[.pointer (some ⟨v, 0, none⟩), .slice A n c] w (VtP w0 d v X w (compactS file gen count l S).1 (compactS file gen count l S).2.1 (compactS file gen count l S).2.2.1 (compactS file gen count l S).2.2.2.1 (compactS file gen count l S).2.2.2.2.1 (compactS file gen count l S).2.2.2.2.2) := by
  obtain ⟨P, hP⟩ : ∃ P, compactS file gen count l S = P := ⟨_, rfl⟩
  have HPP := Lib.hid hP
  rw [hP]
  clear hP
  obtain ⟨w1, hw1⟩ : ∃ w1, w1 = w.alloc (.cells #[.pointer (some ⟨v, 0, none⟩)] 34) := ⟨_, rfl⟩
  have b1 : Below w.heap.size w w1 := by rw [hw1]; exact (Below.refl _ _).alloc (Nat.le_refl _) _
  have X1 : Ro w1 w.heap.size 34 [.pointer (some ⟨v, 0, none⟩)] := by rw [hw1]; exact Ro.new w _ _
  have V1 := hV.later b1
  have R1 := Rows.later byM hR b1
  have z1 : w1.heap.size = w.heap.size + 1 := by rw [hw1]; simp
  have MY := Lib.hid (may_any (c := c) w1 V1 (Rows.weak byM R1 fun _ _ _ => trivial) (by omega))
  have mz : mayN false l = 0 := by unfold mayN; rw [hm]; rfl
  rw [mz] at MY
  have x1 := X1.cell (k := 0) rfl
  have v0 := V1.cell (k := 0) rfl
  have v1 := V1.cell (k := 1) rfl
  have v2 := V1.cell (k := 2) rfl
  obtain ⟨G, hG⟩ : ∃ G : Int, (gen : Int) = G := ⟨_, rfl⟩
  rw [hG] at v2
  have hG0 : 0 ≤ G := by omega
  have hG1 : G < 18446744073709551616 := by omega
  have HG := Lib.hid hG
  have HD := Lib.hid D
  have HV1 := Lib.hid V1
  have HR1 := Lib.hid R1
  have HX1 := Lib.hid X1
  have HB1 := Lib.hid b1
  have HZ1 := Lib.hid z1
  have hLd := hLd0.later hLd0.lt D.bel
  have HLd := Lib.hid hLd
  have HL0 := Lib.hid hLd0
  have HX := Lib.hid hX
  have HM := Lib.hid hm
  have HW := Lib.hid hw
  have HLN := Lib.hid hR.len
  have HXL := Lib.hid D.xlt
  clear D hX hLd hLd0 hV hR hm hw b1 X1 V1 R1 z1 mz hG
  go_enter Tryz.func20, Tryz.ntmps20
  go_wp2_with fail
  rw [← hw1]
  clear hw1
  refine (MY.out).mono ?_
  rintro e w2 ⟨rfl, rfl⟩
  by_cases hbig : 4611686018427387904 ≤ G
  · have t1 : decide (4611686018427387904 ≤ G) = true := decide_eq_true hbig
    obtain rfl : P = (6, S, file, gen, count, false) := by rw [← HPP.out]; unfold compactS; rw [if_pos (by have := HG.out; omega)]
    go_wp2_with fail
    go_ret
    exact ⟨rfl, HV1.out, HD.out.later HB1.out, Kept.of_below HB1.out⟩
  have t1 : decide (4611686018427387904 ≤ G) = false := decide_eq_false hbig
  go_wp2_with fail
  obtain ⟨w3, hw3⟩ : ∃ w3, w3 = w2.alloc (.cells #[.slice none 0 0] 40) := ⟨_, rfl⟩
  have b3 : Below w2.heap.size w2 w3 := by rw [hw3]; exact (Below.refl _ _).alloc (Nat.le_refl _) _
  have r6 : Ro w3 w2.heap.size 40 [.slice none 0 0] := by rw [hw3]; exact Ro.new w2 _ _
  have z3 : w3.heap.size = w2.heap.size + 1 := by rw [hw3]; simp
  rw [← hw3]
  clear hw3
  have c30 : w3.cell? ⟨w.heap.size, 0, none⟩ = some (.pointer (some ⟨v, 0, none⟩)) := (HX1.out.later b3).cell rfl
  have c31 : w3.cell? ⟨v, 1, none⟩ = some (.int .i64 (file : Nat)) := (HV1.out.later b3).cell rfl
  have c32 : w3.cell? ⟨v, 2, none⟩ = some (.int .u64 G) := by rw [← HG.out]; exact (HV1.out.later b3).cell rfl
  have c33 : w3.cell? ⟨v, 0, none⟩ = some (.pointer (some ⟨d, 0, none⟩)) := (HV1.out.later b3).cell rfl
  have Q3 : Hid (∀ w', Below w3.heap.size w3 w' → w'.cell? ⟨w.heap.size, 0, none⟩ = some (.pointer (some ⟨v, 0, none⟩)) ∧ w'.cell? ⟨v, 1, none⟩ = some (.int .i64 (file : Nat)) ∧ w'.cell? ⟨v, 2, none⟩ = some (.int .u64 G) ∧ w'.cell? ⟨v, 0, none⟩ = some (.pointer (some ⟨d, 0, none⟩))) := Lib.hid fun w' b =>
    ⟨(b.cell (p := ⟨w.heap.size, 0, none⟩) (World.block_lt_of_cell? _ _ c30)).trans c30, (b.cell (p := ⟨v, 1, none⟩) (World.block_lt_of_cell? _ _ c31)).trans c31, (b.cell (p := ⟨v, 2, none⟩) (World.block_lt_of_cell? _ _ c32)).trans c32, (b.cell (p := ⟨v, 0, none⟩) (World.block_lt_of_cell? _ _ c33)).trans c33⟩
  obtain ⟨o, ho⟩ : ∃ o, 1 - file = o := ⟨_, rfl⟩
  have e1 : (1 : Int) - (file : Int) = (o : Int) := by omega
  have e1w : IntKind.i64.wrap (1 - (file : Int)) = (o : Int) := by rw [IntKind.wrap_i64]; omega
  obtain ⟨g1, hg1⟩ : ∃ g1, gen + 1 = g1 := ⟨_, rfl⟩
  have e2w : IntKind.u64.wrap (G + 1) = (g1 : Int) := by rw [IntKind.wrap_u64]; have := HG.out; omega
  have hg1b : g1 < 18446744073709551616 := by have := HG.out; omega
  have HG1 := Lib.hid hg1
  clear hg1
  have HO := Lib.hid ho
  have HE1 := Lib.hid e1
  have HR6 := Lib.hid r6
  have HB3 := Lib.hid b3
  have HZ3 := Lib.hid z3
  clear ho e1 r6 b3 z3 x1 v0 v1 v2
  go_region_held3 (fun w' => w'.cell? ⟨w.heap.size, 0, none⟩ = some (.pointer (some ⟨v, 0, none⟩)) ∧ w'.cell? ⟨v, 1, none⟩ = some (.int .i64 (file : Nat)) ∧ w'.cell? ⟨v, 2, none⟩ = some (.int .u64 G) ∧ w'.cell? ⟨v, 0, none⟩ = some (.pointer (some ⟨d, 0, none⟩)))
    (first | exact Q3.out _ (by repeat (first | exact Below.refl _ _ | (refine Below.drew ?_) | (refine Below.alloc ?_ (by simp <;> omega) _) | (refine Below.setCell ?_ (by simp <;> omega) _))))
    (first | fail)
  obtain ⟨w4, hw4⟩ : ∃ w4, w4 = (w3.alloc (.cells #[.int .i64 (o : Nat)] 3)).drew := ⟨_, rfl⟩
  rw [← hw4]
  have b4 : Below w3.heap.size w3 w4 := by rw [hw4]; exact ((Below.refl _ _).alloc (Nat.le_refl _) _).drew
  have r7 : Ro w4 w3.heap.size 3 [.int .i64 (o : Nat)] := by rw [hw4]; exact (Ro.new w3 _ _).later (Below.refl _ _).drew
  have z4 : w4.heap.size = w3.heap.size + 1 := by rw [hw4]; simp
  clear hw4 e1w e2w
  obtain ⟨w5, hw5⟩ : ∃ w5, w5 = w4.alloc (.cells #[fnV (45, #[.pointer (some ⟨w.heap.size, 0, none⟩), .pointer (some ⟨w3.heap.size, 0, none⟩), .pointer (some ⟨w2.heap.size, 0, none⟩)])] 54) := ⟨_, rfl⟩
  have b5 : Below w4.heap.size w4 w5 := by rw [hw5]; exact (Below.refl _ _).alloc (Nat.le_refl _) _
  have z5 : w5.heap.size = w4.heap.size + 1 := by rw [hw5]; simp
  have rL : Ro w5 w4.heap.size 54 [fnV (45, #[.pointer (some ⟨w.heap.size, 0, none⟩), .pointer (some ⟨w3.heap.size, 0, none⟩), .pointer (some ⟨w2.heap.size, 0, none⟩)])] := by rw [hw5]; exact Ro.new w4 _ _
  have bt : Below w.heap.size w w5 := Below.both (Below.both (Below.both HB1.out HB3.out) b4) b5
  have b35 : Below w3.heap.size w3 w5 := Below.both b4 b5
  have z2 := HZ1.out
  have z3 := HZ3.out
  have hvw : v < w.heap.size := hvd
  have D5 : Dp w0 d (fun b => X b ∨ (w.heap.size ≤ b ∧ b < w5.heap.size)) S w5 := HD.out.wide (Kept.of_below bt) (HD.out.bel.trans (bt.mono HD.out.bel.size)) fun b q => q
  have hw0 := HD.out.bel.size
  obtain ⟨L, x, hr⟩ : ∃ L x, S.read (o : Nat) = (L, x) := ⟨_, _, rfl⟩
  have V5 := (HV1.out.later HB3.out).later b35
  have CR := Lib.hid (compact_read D5 (bv := w.heap.size) (bo := w3.heap.size) (bb := w2.heap.size) (bl := w4.heap.size) (by omega) (.inr ⟨by omega, by omega⟩) (by omega) (.inl HX.out) hv (by omega) V5 (((HX1.out.later HB3.out).later b35).cell rfl) ((r7.later b5).cell rfl) (HR6.out.later b35) (rL.cell rfl) hr)
  have R5 := Rows.later byM (Rows.later byM HR1.out HB3.out) b35
  have L5 := HLd.out.later HLd.out.lt bt
  have HR5 := Lib.hid R5
  have HL5 := Lib.hid L5
  have HBT := Lib.hid bt
  have HZ5 := Lib.hid (show w5.heap.size = w.heap.size + 4 ∧ w2.heap.size = w.heap.size + 1 ∧ w3.heap.size = w.heap.size + 2 from by omega)
  have HRD := Lib.hid hr
  have HX15 := Lib.hid ((HX1.out.later HB3.out).later b35)
  have HR75 := Lib.hid (r7.later b5)
  unfold fnV at hw5
  dsimp only at hw5
  have x40 := (HX1.out.later HB3.out).later b4 |>.cell (k := 0) rfl
  clear b4 r7 z4 b5 z5 rL bt b35 z2 z3 hvw D5 hw0 V5 R5 L5 hr c30 c31 c32 c33 Q3
  go_wp2_with fail
  rw [← hw5]
  clear hw5
  refine (CR.out).mono ?_
  rintro e w6 ⟨⟨rfl, V6, D6, K6⟩, D6', A6, n6, c6, hc6, r6, s6, u6⟩
  have HV6 := Lib.hid V6
  have HD6 := Lib.hid D6'
  have HK6 := Lib.hid K6
  have HS6 := Lib.hid (And.intro s6 u6)
  have HRR6 := Lib.hid r6
  clear V6 D6 K6 D6' s6 u6 r6 x40
  by_cases hx : x = 0
  · subst hx
    have b56 : w5.heap.size ≤ w6.heap.size := HK6.out.size
    have V6' : Ro w6 v 90 (vtV d file gen count false) := HV6.out
    have RL6 : Rows w6 (fun b => X b ∧ b ≠ v) 1 ByR A n l := HR5.out.keep byM (HK6.out.narrow fun b q => ⟨⟨.inl q.1, fun e => by have := HXL.out b q.1; have := HZ5.out; omega⟩, q.2⟩)
    have RA6 := Rows.weak (Q := anyP) byM RL6 fun _ _ _ => trivial
    have L6 : Laid w6 := HL0.out.later HL0.out.lt HD6.out.bel
    have hle : n6 ≤ 4194304 := by
      have h1 := read_len HD.out.ok (o : Nat)
      rw [HRD.out] at h1
      have h2 := HS6.out.1.len
      dsimp only at h1
      omega
    have hnl : n < 4294967296 := by omega
    have HF := Lib.hid (head_any w6 L6 hg1b hnl)
    have FR := Lib.hid (fun w' (b : Below w6.heap.size w6 w') => frames_any (c := c) w' (L6.later L6.lt b) hg1b (k := 0) (by decide) (Rows.later byM RA6 b) (longS_none HM.out) (by have := HW.out; omega))
    obtain ⟨F1, hF1⟩ : ∃ F1, frontS g1 n = F1 := ⟨_, rfl⟩
    obtain ⟨F2, hF2⟩ : ∃ F2, framesS g1 0 l = F2 := ⟨_, rfl⟩
    have HF1 := Lib.hid hF1
    have HF2 := Lib.hid hF2
    rw [hF1] at HF
    rw [hF2] at FR
    have HL1 : Hid (F1.length = 44) := Lib.hid (by rw [← hF1]; exact frontS_len _ _)
    have HL2 : Hid (F2.length = wideS l) := Lib.hid (by rw [← hF2]; exact framesS_len _ _ _)
    have HV6' := Lib.hid V6'
    clear hF1 hF2 V6' RL6 RA6 L6
    go_wp2_with fail
    refine (HF.out).mono ?_
    rintro e w7 ⟨A7, n7, c7, rfl, hc7, O7⟩
    have HO7 := Lib.hid O7
    clear O7
    go_wp2_with fail
    refine (FR.out w7 HO7.out.bel).mono ?_
    rintro e w8 ⟨A8, n8, c8, rfl, hc8, O8⟩
    have b8 : Below w7.heap.size w7 w8 := O8.bel
    have l7 := HO7.out.len
    have l8 := O8.len
    obtain ⟨w9, hw9⟩ : ∃ w9, w9 = w8.alloc (.cells #[.slice A7 n7 c7, .slice A8 n8 c8] 40) := ⟨_, rfl⟩
    have b9 : Below w8.heap.size w8 w9 := by rw [hw9]; exact (Below.refl _ _).alloc (Nat.le_refl _) _
    have q9 : Ro w9 w8.heap.size 40 [.slice A7 n7 c7, .slice A8 n8 c8] := by rw [hw9]; exact Ro.new w8 _ _
    have hn7 : n7 ≤ 44 := by have := HL1.out; omega
    have hn8 : n8 ≤ 1073741824 := by have := HL2.out; have := HW.out; omega
    have CC := Lib.hid (concat_any (c := 2) w9 (by decide) (lit_two q9 (HO7.out.reads.later (Below.both b8 b9)) ⟨hc7, by omega⟩ (Own.cap HO7.out) (O8.reads.later b9) ⟨hc8, by omega⟩ (Own.cap O8)) (by simp only [List.flatten_cons, List.flatten_nil, List.append_nil, List.length_append]; have := HL1.out; omega) (by simp only [List.flatten_cons, List.flatten_nil, List.append_nil, List.length_append]; have := HL1.out; omega))
    have eB : [F1, F2].flatten = F1 ++ F2 := by simp
    rw [eB] at CC
    have HB69 : Hid (Below w6.heap.size w6 w9) := Lib.hid (Below.both (Below.both HO7.out.bel b8) b9)
    clear O8 b8 b9 q9 l7 l8 eB
    go_wp2_with fail
    rw [← hw9]
    clear hw9
    refine (CC.out).mono ?_
    rintro e w10 ⟨A10, n10, c10, rfl, hc10, O10⟩
    have l10 := O10.len
    have HB910 := Lib.hid O10.bel.size
    have hm10 := Own.cap O10
    obtain ⟨w11, hw11⟩ : ∃ w11, w11 = w10.alloc (.cells #[.slice A10 n10 c10] 40) := ⟨_, rfl⟩
    have b11 : Below w10.heap.size w10 w11 := by rw [hw11]; exact (Below.refl _ _).alloc (Nat.le_refl _) _
    have q11 : Ro w11 w10.heap.size 40 [.slice A10 n10 c10] := by rw [hw11]; exact Ro.new w10 _ _
    have b611 : Below w6.heap.size w6 w11 := Below.both (Below.both HB69.out O10.bel) b11
    have HN10 : Hid (n10 = (F1 ++ F2).length) := Lib.hid (by rw [l10])
    have hn10 : n10 ≤ 2147483648 := by rw [List.length_append] at l10; have := HL1.out; have := HL2.out; have := HW.out; omega
    have HQ11 := Lib.hid q11
    have HS10 := Lib.hid (show Bs w11 A10 n10 (F1 ++ F2) ∧ (∀ a, A10 = some a → w9.heap.size ≤ a.block ∧ a.block < w10.heap.size) from ⟨O10.reads.later b11, fun a e => O10.new _ (by rw [e]; rfl)⟩)
    have HB611 := Lib.hid b611
    have D11 := HD6.out.later b611
    obtain ⟨ρ, hρ⟩ : ∃ ρ, S.room = ρ := ⟨_, rfl⟩
    have RM : Hid (∀ w', Below w11.heap.size w11 w' → Calls Tryz.prog 16 #[.pointer (some ⟨d, 0, none⟩)] w' (fun e W => e = .returned (.int .i64 (ρ : Nat)) ∧ Below w'.heap.size w' W)) := Lib.hid fun w' b =>
      (room_p (D11.later b) hρ).mono fun e W h => ⟨h.1, h.2.2⟩
    have hρb : ρ ≤ 4194304 := by rw [← hρ]; exact room_le HD.out.ok
    have HRHO := Lib.hid hρ
    have kw : w.heap.size < w6.heap.size ∧ w.heap.size < w5.heap.size ∧ w.heap.size ≠ w2.heap.size ∧ w.heap.size ≠ v := by
      have h1 := HZ5.out
      have h2 := HK6.out.size
      refine ⟨by omega, by omega, by omega, by omega⟩
    have HKW := Lib.hid kw
    have c10_ := q11.cell (k := 0) rfl
    have c12_ : w11.cell? ⟨w.heap.size, 0, none⟩ = some (.pointer (some ⟨v, 0, none⟩)) := (b611.cell (p := ⟨w.heap.size, 0, none⟩) kw.1).trans ((HK6.out.cell (a := ⟨w.heap.size, 0, none⟩) ⟨⟨.inr ⟨Nat.le_refl _, kw.2.1⟩, kw.2.2.1⟩, kw.2.2.2⟩ kw.2.1).trans (HX15.out.cell rfl))
    have c10v : w11.cell? ⟨v, 0, none⟩ = some (.pointer (some ⟨d, 0, none⟩)) := (HV6'.out.later b611).cell rfl
    have c16 : w11.cell? ⟨w2.heap.size, 0, none⟩ = some (.slice A6 n6 c6) := (HRR6.out.later b611).cell rfl
    have Q11 : Hid (∀ w', Below w11.heap.size w11 w' → w'.cell? ⟨w10.heap.size, 0, none⟩ = some (.slice A10 n10 c10) ∧ w'.cell? ⟨w.heap.size, 0, none⟩ = some (.pointer (some ⟨v, 0, none⟩)) ∧ w'.cell? ⟨v, 0, none⟩ = some (.pointer (some ⟨d, 0, none⟩)) ∧ w'.cell? ⟨w2.heap.size, 0, none⟩ = some (.slice A6 n6 c6)) := Lib.hid fun w' b =>
      ⟨(b.cell (p := ⟨w10.heap.size, 0, none⟩) (World.block_lt_of_cell? _ _ c10_)).trans c10_, (b.cell (p := ⟨w.heap.size, 0, none⟩) (World.block_lt_of_cell? _ _ c12_)).trans c12_, (b.cell (p := ⟨v, 0, none⟩) (World.block_lt_of_cell? _ _ c10v)).trans c10v, (b.cell (p := ⟨w2.heap.size, 0, none⟩) (World.block_lt_of_cell? _ _ c16)).trans c16⟩
    have e3 : IntKind.i64.wrap ((ρ : Int) + (n6 : Int)) = ((ρ + n6 : Nat) : Int) := by rw [IntKind.wrap_i64]; omega
    obtain ⟨sm, hsm⟩ : ∃ sm, ρ + n6 = sm := ⟨_, rfl⟩
    rw [hsm] at e3
    have HSM := Lib.hid hsm
    clear O10 l10 b11 q11 b611 D11 hρ c10_ c12_ c10v c16 hsm
    go_wp2_with fail
    rw [← hw11]
    clear hw11
    by_cases hroom : sm < n10
    · have t5 : decide ((sm : Int) < (n10 : Int)) = true := decide_eq_true (by omega)
      have t5n : decide (sm < n10) = true := decide_eq_true hroom
      go_region_held3 (fun w' => w'.cell? ⟨w10.heap.size, 0, none⟩ = some (.slice A10 n10 c10) ∧ w'.cell? ⟨w.heap.size, 0, none⟩ = some (.pointer (some ⟨v, 0, none⟩)) ∧ w'.cell? ⟨v, 0, none⟩ = some (.pointer (some ⟨d, 0, none⟩)) ∧ w'.cell? ⟨w2.heap.size, 0, none⟩ = some (.slice A6 n6 c6))
        (first
          | exact Q11.out _ ((Below.refl _ _).drew)
          | exact Q11.out _ (by assumption))
        (first
          | (go_at_call 16; refine (RM.out _ ((Below.refl _ _).drew)).mono ?_; rintro e w12 ⟨rfl, b120⟩; have b12 : Below w11.heap.size w11 w12 := (Below.refl _ _).drew.trans b120; clear b120))
      have hP : P = (7, S, file, gen, count, false) := by
        rw [← HPP.out]
        unfold compactS
        rw [if_neg (by have := HG.out; omega), HO.out, HRD.out, if_neg (by simp), HG1.out, HLN.out, HF1.out, HF2.out, if_pos (by
          have e1 := HN10.out
          have e2 := HSM.out
          have e3 := HRHO.out
          have e4 := HS6.out.1.len
          dsimp only
          omega)]
      subst hP
      have B612 := Lib.hid (Below.both HB611.out b12)
      go_wp2_with fail
      go_ret
      exact ⟨rfl, HV6'.out.later B612.out, (HD6.out.later B612.out).narrow fun b q => .inl q, ((Kept.of_below HBT.out).trans' (HK6.out.narrow fun b q => ⟨⟨.inl q.1, fun e => by have := HXL.out b q.1; have := HZ5.out; omega⟩, q.2⟩)).trans' (Kept.of_below B612.out)⟩
    · have t5 : decide ((sm : Int) < (n10 : Int)) = false := decide_eq_false (by omega)
      have t5n : decide (sm < n10) = false := decide_eq_false hroom
      go_region_held3 (fun w' => w'.cell? ⟨w10.heap.size, 0, none⟩ = some (.slice A10 n10 c10) ∧ w'.cell? ⟨w.heap.size, 0, none⟩ = some (.pointer (some ⟨v, 0, none⟩)) ∧ w'.cell? ⟨v, 0, none⟩ = some (.pointer (some ⟨d, 0, none⟩)) ∧ w'.cell? ⟨w2.heap.size, 0, none⟩ = some (.slice A6 n6 c6))
        (first
          | exact Q11.out _ ((Below.refl _ _).drew)
          | exact Q11.out _ (by assumption))
        (first
          | (go_at_call 16; refine (RM.out _ ((Below.refl _ _).drew)).mono ?_; rintro e w12 ⟨rfl, b120⟩; have b12 : Below w11.heap.size w11 w12 := (Below.refl _ _).drew.trans b120; clear b120))
      obtain ⟨e12, x12, _, f12⟩ := Q11.out w12 b12
      have B612 : Below w6.heap.size w6 w12 := Below.both HB611.out b12
      have r712 : Ro w12 w3.heap.size 3 [.int .i64 (o : Nat)] := (HR75.out.same ((HK6.out.blk w3.heap.size ⟨⟨.inr ⟨by have := HZ5.out; omega, by have := HZ5.out; omega⟩, by have := HZ5.out; omega⟩, by have := HZ5.out; omega⟩ (by have := HZ5.out; omega)))).later B612
      obtain ⟨w13, hw13⟩ : ∃ w13, w13 = w12.alloc (.cells #[fnV (48, #[.pointer (some ⟨w.heap.size, 0, none⟩), .pointer (some ⟨w3.heap.size, 0, none⟩), .pointer (some ⟨w2.heap.size, 0, none⟩)]), fnV (49, #[.pointer (some ⟨w.heap.size, 0, none⟩), .pointer (some ⟨w3.heap.size, 0, none⟩), .pointer (some ⟨w10.heap.size, 0, none⟩)]), fnV (50, #[.pointer (some ⟨w.heap.size, 0, none⟩), .pointer (some ⟨w3.heap.size, 0, none⟩)]), fnV (51, #[.pointer (some ⟨w.heap.size, 0, none⟩)])] 54) := ⟨_, rfl⟩
      have b13 : Below w12.heap.size w12 w13 := by rw [hw13]; exact (Below.refl _ _).alloc (Nat.le_refl _) _
      have z13 : w13.heap.size = w12.heap.size + 1 := by rw [hw13]; simp
      have R13 : Ro w13 w12.heap.size 54 [fnV (48, #[.pointer (some ⟨w.heap.size, 0, none⟩), .pointer (some ⟨w3.heap.size, 0, none⟩), .pointer (some ⟨w2.heap.size, 0, none⟩)]), fnV (49, #[.pointer (some ⟨w.heap.size, 0, none⟩), .pointer (some ⟨w3.heap.size, 0, none⟩), .pointer (some ⟨w10.heap.size, 0, none⟩)]), fnV (50, #[.pointer (some ⟨w.heap.size, 0, none⟩), .pointer (some ⟨w3.heap.size, 0, none⟩)]), fnV (51, #[.pointer (some ⟨w.heap.size, 0, none⟩)])] := by rw [hw13]; exact Ro.new w12 _ _
      have B613 : Below w6.heap.size w6 w13 := Below.both B612 b13
      have D13 : Dp w0 d (fun b => (X b ∨ (w.heap.size ≤ b ∧ b < w5.heap.size)) ∨ (w6.heap.size ≤ b ∧ b < w13.heap.size)) S w13 := HD6.out.wide (Kept.of_below B613) (HD6.out.bel.trans (B613.mono HD6.out.bel.size)) fun b q => q
      have zz := HZ5.out
      have s6 := HB69.out.size
      have s612 := B612.size
      have s10 : w9.heap.size ≤ w10.heap.size ∧ w10.heap.size < w11.heap.size := ⟨HB910.out, HQ11.out.lt⟩
      have s12 := b12.size
      have V13 := HV6'.out.later B613
      obtain ⟨x', S', hxs⟩ : ∃ x' S', seqS (compactL file o n6 (F1 ++ F2)) S = (x', S') := ⟨_, _, rfl⟩
      have hw0 := HD.out.bel.size
      have ST := Lib.hid (compact_steps D13 V13 (bv := w.heap.size) (bo := w3.heap.size) (bt := w2.heap.size) (bb := w10.heap.size) (bl := w12.heap.size) (other := o) (.inl (.inl HX.out)) (.inl (.inr ⟨by omega, by omega⟩)) (.inr ⟨by omega, by omega⟩) (.inr ⟨by omega, by omega⟩) (.inl (.inr ⟨by omega, by omega⟩)) (.inl (.inr ⟨by omega, by omega⟩))
        ((b13.cell (p := ⟨w.heap.size, 0, none⟩) (World.block_lt_of_cell? _ _ x12)).trans x12) ((r712.later b13).cell rfl) ((b13.cell (p := ⟨w2.heap.size, 0, none⟩) (World.block_lt_of_cell? _ _ f12)).trans f12) ((b13.cell (p := ⟨w10.heap.size, 0, none⟩) (World.block_lt_of_cell? _ _ e12)).trans e12)
        (fun i hi => by
          have e : i = 0 ∨ i = 1 ∨ i = 2 ∨ i = 3 := by omega
          rcases e with rfl | rfl | rfl | rfl <;> exact R13.cell rfl) (HS10.out.1.later (Below.both b12 b13)) (fun a e _ => .inr ⟨by have := HS10.out.2 a e; omega, by have := HS10.out.2 a e; omega⟩) hc10 hm10 hv (fun i hi => Nat.le_trans (cnt_compact _ _ _ _ _ i hi) (by omega)))
      rw [hxs] at ST
      have hP : P = if x' = 0 then (0, S', o, g1, n, false) else (x', S', file, gen, count, true) := by
        rw [← HPP.out]
        unfold compactS
        rw [if_neg (by have := HG.out; omega), HO.out, HRD.out, if_neg (by simp), HG1.out, HLN.out, HF1.out, HF2.out, if_neg (by
          have e1 := HN10.out
          have e2 := HSM.out
          have e3 := HRHO.out
          have e4 := HS6.out.1.len
          dsimp only
          omega)]
        have e4 := HS6.out.1.len
        dsimp only
        rw [e4, hxs]
      have HPX := Lib.hid hP
      have HR713 := Lib.hid (r712.later b13)
      have HX13 := Lib.hid ((b13.cell (p := ⟨w.heap.size, 0, none⟩) (World.block_lt_of_cell? _ _ x12)).trans x12)
      have KT : Hid (Kept (fun b => X b ∧ b ≠ v) w w13) := Lib.hid (((Kept.of_below HBT.out).trans' (HK6.out.narrow fun b q => ⟨⟨.inl q.1, fun e => by have := HXL.out b q.1; have := HZ5.out; omega⟩, q.2⟩)).trans' (Kept.of_below B613))
      have SZ := Lib.hid (show w5.heap.size ≤ w13.heap.size from by omega)
      unfold fnV at hw13
      dsimp only at hw13
      clear B612 r712 b13 z13 R13 B613 D13 zz s6 s612 s10 s12 V13 hxs hw0 hP e12 f12 HPP
      go_wp2_with fail
      rw [← hw13]
      clear hw13 x12
      refine (ST.out).mono ?_
      rintro e w14 ⟨rfl, V14, D14, K14⟩
      have HV14 := Lib.hid V14
      have HD14 := Lib.hid D14
      have HK14 := Lib.hid K14
      have y2 : w14.cell? ⟨w.heap.size, 0, none⟩ = some (.pointer (some ⟨v, 0, none⟩)) := (K14.cell (a := ⟨w.heap.size, 0, none⟩) ⟨.inl (.inr ⟨Nat.le_refl _, HKW.out.2.1⟩), HKW.out.2.2.2⟩ (by show w.heap.size < w13.heap.size; have := HZ5.out; have := SZ.out; omega)).trans HX13.out
      have y7 : w14.cell? ⟨w3.heap.size, 0, none⟩ = some (.int .i64 (o : Nat)) := (K14.cell (a := ⟨w3.heap.size, 0, none⟩) ⟨.inl (.inr ⟨by show w.heap.size ≤ w3.heap.size; have := HZ5.out; omega, by show w3.heap.size < w5.heap.size; have := HZ5.out; omega⟩), by show w3.heap.size ≠ v; have := HZ5.out; have := hvd; omega⟩ (by show w3.heap.size < w13.heap.size; have := HZ5.out; have := SZ.out; omega)).trans (HR713.out.cell rfl)
      clear V14 D14 K14
      have DD : Hid (Dp w0 d X S' w14) := Lib.hid (HD14.out.narrow fun b q => .inl (.inl q))
      have KK : Hid (Kept (fun b => X b ∧ b ≠ v) w w14) := Lib.hid (KT.out.trans' (HK14.out.narrow fun b q => ⟨.inl (.inl q.1), q.2⟩))
      by_cases hx : x' = 0
      · subst hx
        obtain rfl : P = (0, S', o, g1, n, false) := by rw [HPX.out, if_pos rfl]
        have V14' : Ro w14 v 90 (vtV d file gen count false) := HV14.out
        have p0 := V14'.cell (k := 0) rfl
        have p1 := V14'.cell (k := 1) rfl
        have p2 := V14'.cell (k := 2) rfl
        have p3 := V14'.cell (k := 3) rfl
        have f1 := V14'.free 1
        have f2 := V14'.free 2
        have f3 := V14'.free 3
        go_wp2_with fail
        go_region
        have SS : Hid (VtP w0 d v X w 0 S' o g1 n false (.returned (.int .i64 0)) (((w14.setCell ⟨v, 1, none⟩ (.int .i64 (o : Nat))).setCell ⟨v, 2, none⟩ (.int .u64 (g1 : Nat))).setCell ⟨v, 3, none⟩ (.int .i64 (n : Nat))).drew) := Lib.hid (by
          have bd := fun W : World => (Below.refl W.heap.size W).drew
          refine ⟨rfl, (((V14'.set 1 (.int .i64 (o : Nat))).set 2 (.int .u64 (g1 : Nat))).set 3 (.int .i64 (n : Nat))).later (bd _), (((DD.out.box HX.out hv _).box HX.out hv _).box HX.out hv _).later (bd _), (KK.out.trans' ⟨Nat.le_of_eq (by simp [World.setCell]), fun b hb _ => ?_⟩).trans' (Kept.of_below (bd _))⟩
          exact ((Below.heap_setCell _ ⟨v, 3, none⟩ _ b hb.2).trans (Below.heap_setCell _ ⟨v, 2, none⟩ _ b hb.2)).trans (Below.heap_setCell _ ⟨v, 1, none⟩ _ b hb.2))
        go_wp2_with fail
        go_ret
        exact SS.out
      · have t9 : (x' == 0) = false := by rw [beq_eq_false_iff_ne]; exact hx
        have t10 : (x' != 0) = true := by rw [bne_iff_ne]; exact hx
        obtain rfl : P = (x', S', file, gen, count, true) := by rw [HPX.out, if_neg hx]
        have VV : Hid (Ro w14 v 90 (vtV d file gen count true)) := Lib.hid (by have := HV14.out; rwa [t10] at this)
        go_wp2_with fail
        go_ret
        exact ⟨rfl, VV.out, DD.out, KK.out⟩
  · have t2 : (x != 0) = true := by rw [bne_iff_ne]; exact hx
    have hP : P = (x, S, file, gen, count, true) := by
      rw [← HPP.out]
      unfold compactS
      rw [if_neg (by have := HG.out; omega), HO.out, HRD.out, if_pos hx]
    subst hP
    have VV : Hid (Ro w6 v 90 (vtV d file gen count true)) := Lib.hid (by have := HV6.out; rwa [t2] at this)
    go_wp2_with fail
    go_ret
    exact ⟨rfl, VV.out, HD6.out.narrow fun b q => .inl q, (Kept.of_below HBT.out).trans' (HK6.out.narrow fun b q => ⟨⟨.inl q.1, fun e => by have := HXL.out b q.1; have := HZ5.out; omega⟩, q.2⟩)⟩
end
end Go.Proofs.YtjcphpmlekfhdaaGreatDoor
