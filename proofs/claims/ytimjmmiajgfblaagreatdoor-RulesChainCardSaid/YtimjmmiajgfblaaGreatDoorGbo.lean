/- What the rules of a chain ask, over numbers and lists: parameters, the work asked for, medians, which header stands behind others, and a chain made. No memory. No condition. -/
import Derived.Test.YtimjmmiajgfblaaGreatDoorGbn
import Derived.Test.YtimjmmiajgfblaaGreatDoorGaa
import Derived.Test.YtimjmmiajgfblaaGreatDoorGav
import Derived.Test.YtimjmmiajgfblaaGreatDoorGbe
import Derived.Test.YtimjmmiajgfblaaGreatDoorGai

namespace Go.Proofs.YtimjmmiajgfblaaGreatDoor

structure Pm where
  limit : Nat
  iv : Int
  sp : Nat
  pts : List (Int × List Nat)
  first : Hd
structure Pm.Ok (p : Pm) : Prop where
  limit : p.limit < 4294967296
  iv : -9223372036854775808 ≤ p.iv ∧ p.iv < 9223372036854775808
  sp : p.sp < 4294967296
  pts : ∀ x ∈ p.pts, (-9223372036854775808 ≤ x.1 ∧ x.1 < 9223372036854775808) ∧ x.2.length = 32 ∧ AllB x.2
  first : p.first.Ok
/-- How many bits a number has. -/
def bitsN (v : Nat) : Nat := if v = 0 then 0 else Nat.log2 v + 1
theorem bitsN_of (v : Nat) : Bg.BitsOf v (bitsN v) := by
  unfold bitsN
  refine ⟨fun h => by rw [if_pos h], fun h => ?_⟩
  rw [if_neg h]
  exact ⟨by omega, by rw [Nat.add_sub_cancel]; exact Nat.log2_self_le h, Nat.lt_log2_self⟩
/-- The target that compact bits mean; 0 of none. -/
def tgtN (n : Nat) : Nat := if Bg.okOf n then Bg.tvOf n * 2 ^ Bg.upOf n else 0
def compN (v : Nat) : Nat := Bg.compOf v (bitsN v)
def meetsN (H : List Nat) (t : Nat) : Bool := decide (t ≠ 0 ∧ Bg.hashNum (nth H) 32 ≤ t)
/-- Points in order of their heights, none below `last`; one at 0 must be the first header's. -/
def ptsS (fid : List Nat) : Int → List (Int × List Nat) → Bool
  | _, [] => true
  | last, x :: t => if x.1 ≤ last ∨ (x.1 = 0 ∧ x.2 ≠ fid) then false else ptsS fid x.1 t
def limS (p : Pm) : Bool := decide (Bg.okOf p.limit ∧ compN (tgtN p.limit) = p.limit)
def numS (p : Pm) : Bool := decide (2 ≤ p.iv ∧ p.iv ≤ 2016 ∧ 1 ≤ p.sp ∧ p.sp ≤ 3600)
def mayS (p : Pm) : Bool := limS p && numS p && decide (p.first.b = p.limit) && ptsS (idS p.first) (-1) p.pts
def lastH (l : List Hd) : Hd := nthH l (l.length - 1)
/-- The target behind a whole number of intervals. -/
def spanS (p : Pm) (l : List Hd) : Int := min (max (((lastH l).t : Int) - ((nthH l (l.length - p.iv.toNat)).t : Int)) (p.iv * p.sp / 4)) (p.iv * p.sp * 4)
def nextT (p : Pm) (l : List Hd) : Nat := nextN (tgtN (lastH l).b) (spanS p l).toNat (p.iv * p.sp).toNat (tgtN p.limit)
def bitsS (p : Pm) (l : List Hd) : Nat :=
  if l.length = 0 ∨ mayS p = false then 0 else if l.length % p.iv.toNat ≠ 0 then (lastH l).b else compN (nextT p l)
def timesOf (l : List Hd) : List Nat := (l.drop (l.length - 11)).map (·.t)
def medS (l : List Hd) : Nat := midS (timesOf l)
def ptBad (pts : List (Int × List Nat)) (k : Nat) (id : List Nat) : Bool := pts.any fun x => decide (x.1 = (k : Int) ∧ x.2 ≠ id)
def rightS (p : Pm) (l : List Hd) (h : Hd) : Nat :=
  if mayS p = false then 1
  else if l.length = 0 ∨ h.p ≠ idS (lastH l) then 9
  else if h.b ≠ bitsS p l then 10
  else if meetsN (idS h) (tgtN h.b) = false then 11
  else if h.t ≤ medS l then 12
  else if ptBad p.pts l.length (idS h) = true then 13
  else 0
/-- The first of so many numbers, from n on, with which a header has its work. -/
def mineF (h : Hd) (t : Nat) : Nat → Nat → Option Hd
  | 0, _ => none
  | f + 1, n => if meetsN (idS { h with n := n }) t = true then some { h with n := n } else mineF h t f (n + 1)
def baseH (p : Pm) (l : List Hd) (time : Nat) (root : List Nat) : Hd := ⟨1, idS (lastH l), root, time, bitsS p l, 0⟩
def mineS (p : Pm) (l : List Hd) (time : Nat) (root : List Nat) (tries : Nat) : Option Hd :=
  if l.length = 0 then none else if Bg.okOf (bitsS p l) then mineF (baseH p l time root) (tgtN (bitsS p l)) tries 0 else none
def easyS (iv : Int) (sp : Nat) : Pm := ⟨545259519, iv, sp, [], ⟨1, List.replicate 32 0, List.replicate 32 0, 1000, 545259519, 0⟩⟩
def rootS (i s : Nat) : List Nat := i % 256 :: s :: List.replicate 30 0
def chainF (p : Pm) : List Hd → Nat → List Nat → List Hd
  | l, _, [] => l
  | l, i, s :: t =>
    match mineS p l ((medS l + 1 + s) % 4294967296) (rootS i s) 200 with
    | none => l
    | some h => chainF p (l ++ [h]) (i + 1) t
def chainS (p : Pm) (steps : List Nat) : List Hd := chainF p [p.first] 0 steps

end Go.Proofs.YtimjmmiajgfblaaGreatDoor

/- Parameters of a chain and their points, as they lie in memory. No condition. -/
namespace Go.Proofs.YtimjmmiajgfblaaGreatDoor
open Go.RowKit
set_option maxRecDepth 100000

def ptV (x : Int × List Nat) : List Value := .int .i64 x.1 :: vals x.2
def nthP (l : List (Int × List Nat)) (k : Nat) : Int × List Nat := l.getD k (0, List.replicate 32 0)
structure PtOk (x : Int × List Nat) : Prop where
  lo : -9223372036854775808 ≤ x.1
  hi : x.1 < 9223372036854775808
  len : x.2.length = 32
  byt : AllB x.2
theorem ptV_len {x : Int × List Nat} (h : PtOk x) : (ptV x).length = 33 := by simp [ptV, vals_length, h.len]
theorem ptV_one (x : Int × List Nat) : ∀ u ∈ ptV x, u.oneCell' = true := by
  intro u hu
  rcases List.mem_cons.1 hu with rfl | hu
  · rfl
  · exact vals_one _ _ hu
theorem nthP_in {l : List (Int × List Nat)} {k : Nat} (h : k < l.length) : nthP l k ∈ l := by
  simp [nthP, List.getD, h]
theorem drop_nthP {l : List (Int × List Nat)} {k : Nat} (h : k < l.length) : l.drop k = nthP l k :: l.drop (k + 1) := by
  rw [List.drop_eq_getElem_cons h]
  simp [nthP, List.getD, h]
/-- A slice at A of n elements reads as points. -/
structure Ps (w : World) (A : Option Addr) (n : Nat) (l : List (Int × List Nat)) : Prop where
  len : l.length = n
  ok : ∀ x ∈ l, PtOk x
  cel : 0 < n → ∃ b o, A = some ⟨b, o, none⟩ ∧ b < w.heap.size ∧ ∀ k, k < n → w.rangeAt b (o + k * 33) (ptV (nthP l k))
theorem Ps.nil (w : World) (A : Option Addr) : Ps w A 0 [] := ⟨rfl, fun x hx => (by cases hx), fun h => absurd h (by omega)⟩
theorem Ps.later {w w1 : World} {A : Option Addr} {n : Nat} {l : List (Int × List Nat)} (h : Ps w A n l) (g : Below w.heap.size w w1) : Ps w1 A n l :=
  ⟨h.len, h.ok, fun hn => by
    obtain ⟨b, o, e, hb, hc⟩ := h.cel hn
    exact ⟨b, o, e, Nat.lt_of_lt_of_le hb g.size, fun k hk j v hj => by rw [← hc k hk j v hj]; exact g.cell hb⟩⟩
theorem Ps.at_ {w : World} {b o n k : Nat} {l : List (Int × List Nat)} (h : Ps w (some ⟨b, o, none⟩) n l) (hk : k < n) : b < w.heap.size ∧ w.rangeAt b (o + k * 33) (ptV (nthP l k)) := by
  obtain ⟨b', o', e, hb, hc⟩ := h.cel (by omega)
  injection e with e
  injection e with e1 e2
  subst e1 e2
  exact ⟨hb, hc k hk⟩
theorem Ps.nth {w : World} {A : Option Addr} {n k : Nat} {l : List (Int × List Nat)} (h : Ps w A n l) (hk : k < n) : PtOk (nthP l k) := h.ok _ (nthP_in (by rw [h.len]; exact hk))
/-- The cells of parameters. -/
def pmV (p : Pm) (A : Option Addr) (n c : Nat) : List Value := .int .u32 (p.limit : Nat) :: .int .i64 p.iv :: .int .u32 (p.sp : Nat) :: .slice A n c :: hdV p.first
theorem pmV_len {p : Pm} (h : p.first.Ok) (A : Option Addr) (n c : Nat) : (pmV p A n c).length = 72 := by simp [pmV, hdV_len h]
theorem pmV_one (p : Pm) (A : Option Addr) (n c : Nat) : ∀ u ∈ pmV p A n c, u.oneCell' = true := by
  intro u hu
  simp only [pmV, List.mem_cons] at hu
  rcases hu with rfl | rfl | rfl | rfl | hu
  · rfl
  · rfl
  · rfl
  · rfl
  · exact hdV_one _ u hu
theorem pmV_bits (p : Pm) (h : p.first.Ok) (A : Option Addr) (n c : Nat) : (pmV p A n c)[70]? = some (.int .u32 (p.first.b : Nat)) := by
  show (hdV p.first)[66]? = _
  exact hdV_no h (k := 2) (by decide)
theorem rowPm : IsRow 29 72 := ⟨.inl ⟨_, Tryz.underlying29⟩, by kernel_rfl⟩
theorem rowPt : IsRow 63 33 := ⟨.inl ⟨_, Tryz.underlying63⟩, by kernel_rfl⟩
def zeroP : Int × List Nat := (0, List.replicate 32 0)
theorem zeroPt (w : World) : (zeroValue 63).run Tryz.prog w = .ok (.agg (ptV zeroP).toArray) w := by kernel_rfl
/-- Parameters whose points lie in memory. -/
structure PmR (w : World) (p : Pm) (A : Option Addr) (n c : Nat) : Prop where
  ok : p.Ok
  pts : Ps w A n p.pts
  le : n ≤ 1000000
  cap : n ≤ c
theorem PmR.later {w w1 : World} {p : Pm} {A : Option Addr} {n c : Nat} (h : PmR w p A n c) (g : Below w.heap.size w w1) : PmR w1 p A n c := ⟨h.ok, h.pts.later g, h.le, h.cap⟩
/-- A box of parameters. -/
structure PmB (w : World) (b : Nat) (p : Pm) (A : Option Addr) (n c : Nat) : Prop where
  ro : Ro w b 29 (pmV p A n c)
  r : PmR w p A n c
theorem PmB.later {w w1 : World} {b : Nat} {p : Pm} {A : Option Addr} {n c : Nat} (h : PmB w b p A n c) (g : Below w.heap.size w w1) : PmB w1 b p A n c := ⟨h.ro.later g, h.r.later g⟩
theorem PmB.new {w : World} {p : Pm} {A : Option Addr} {n c : Nat} (h : PmR w p A n c) : PmB (w.alloc (.cells (pmV p A n c).toArray 29)) w.heap.size p A n c :=
  ⟨Ro.new _ _ _, h.later ((Below.refl _ _).alloc (Nat.le_refl _) _)⟩
section
variable {w : World} {b : Nat} {p : Pm} {A : Option Addr} {n c : Nat}
theorem PmB.limit (h : PmB w b p A n c) : w.cell? ⟨b, 0, none⟩ = some (.int .u32 (p.limit : Nat)) := h.ro.cell (k := 0) rfl
theorem PmB.iv (h : PmB w b p A n c) : w.cell? ⟨b, 1, none⟩ = some (.int .i64 p.iv) := h.ro.cell (k := 1) rfl
theorem PmB.sp (h : PmB w b p A n c) : w.cell? ⟨b, 2, none⟩ = some (.int .u32 (p.sp : Nat)) := h.ro.cell (k := 2) rfl
theorem PmB.sl (h : PmB w b p A n c) : w.cell? ⟨b, 3, none⟩ = some (.slice A n c) := h.ro.cell (k := 3) rfl
theorem PmB.bits (h : PmB w b p A n c) : w.cell? ⟨b, 70, none⟩ = some (.int .u32 (p.first.b : Nat)) := h.ro.cell (pmV_bits p h.r.ok.first A n c)
theorem PmB.first (h : PmB w b p A n c) : w.rangeAt b 4 (hdV p.first) := by
  have := Ro.mid (A := [.int .u32 (p.limit : Nat), .int .i64 p.iv, .int .u32 (p.sp : Nat), .slice A n c]) (B := hdV p.first) (C := []) (by rw [List.append_nil]; exact h.ro) rfl
  exact this
end
theorem rangeOf {w : World} {b : Nat} {T : TypeId} {vs : List Value} (R : Ro w b T vs) : w.rangeAt b 0 vs := fun j v hj => by rw [Nat.zero_add]; exact R.cell hj
theorem pt_hash {w : World} {b o : Nat} {x : Int × List Nat} (h : w.rangeAt b o (ptV x)) : w.rangeAt b (o + 1) (vals x.2) := fun j v hj => by
  rw [Nat.add_assoc, Nat.add_comm 1 j]
  exact h (j + 1) v hj
theorem pt_height {w : World} {b o : Nat} {x : Int × List Nat} (h : w.rangeAt b o (ptV x)) : w.cell? ⟨b, o, none⟩ = some (.int .i64 x.1) := h 0 _ rfl
end Go.Proofs.YtimjmmiajgfblaaGreatDoor

/- mayPoints of the package rules: are the points in order? No condition but the length and that the tables lie as laid. -/
namespace Go.Proofs.YtimjmmiajgfblaaGreatDoor
open Go.RowKit

theorem ptsS_step (fid : List Nat) (z : Int) {l : List (Int × List Nat)} {k : Nat} (h : k < l.length) : ptsS fid z (l.drop k) = if (nthP l k).1 ≤ z ∨ ((nthP l k).1 = 0 ∧ (nthP l k).2 ≠ fid) then false else ptsS fid (nthP l k).1 (l.drop (k + 1)) := by
  rw [drop_nthP h, ptsS]

set_option maxRecDepth 100000 in
set_option maxHeartbeats 4000000 in
theorem mayPoints_any {p : Pm} {A : Option Addr} {n c : Nat} (w : World) (hLd : Laid w) (hP : PmR w p A n c) : Calls Tryz.prog 31 #[.agg (pmV p A n c).toArray] w fun e w' => e = .returned (.bool (ptsS (idS p.first) (-1) p.pts)) ∧ Below w.heap.size w w' := by
  have HD := Lib.hid hLd
  have B0 := Lib.hid (PmB.new hP)
  have hn := hP.le
  have HL := Lib.hid hP.pts.len
  have b0 := (Below.refl w.heap.size w).alloc (Nat.le_refl _) (.cells (pmV p A n c).toArray 29)
  have HB0 := Lib.hid b0
  have HP := Lib.hid hP
  have c3 := B0.out.sl
  clear hLd hP b0
  go_enter Tryz.func31, Tryz.ntmps31
  go_wp2_with fail
  clear c3
  obtain ⟨bx, hbx⟩ : ∃ bx, w.heap.size = bx := ⟨_, rfl⟩
  rw [hbx] at B0
  rw [hbx]
  have HBX := Lib.hid hbx
  clear hbx
  go_loopw [3, 9] (fun z i wr => ∃ (k : Nat) (y : Int), k ≤ n ∧ i = .int .i64 (k : Nat) ∧ z = .int .i64 y ∧ Hid (ptsS (idS p.first) (-1) p.pts = ptsS (idS p.first) y (p.pts.drop k)) ∧ PmB wr bx p A n c ∧ Below w.heap.size w wr) (fun _ i _ => n - (intOf i).toNat)
  case atStart => exact ⟨0, -1, Nat.zero_le _, rfl, rfl, Lib.hid (by rw [List.drop_zero]), B0.out, HB0.out⟩
  case round =>
    obtain ⟨k, y, hk, rfl, rfl, E, B, bel⟩ := hrel
    have HB := Lib.hid B
    have HL2 := Lib.hid bel
    clear B0 HB0 B bel
    by_cases hlt : k < n
    · obtain ⟨b, o, rfl, _, _⟩ := HP.out.pts.cel (by omega)
      have ad := add_at b o
      have RG := Lib.hid ((HB.out.r.pts.at_ hlt).2)
      have ok := Lib.hid (HB.out.r.pts.nth hlt)
      have ll := Lib.hid (ptV_len ok.out)
      rw [ptsS_step (idS p.first) y (l := p.pts) (k := k) (by rw [HL.out]; exact hlt)] at E
      obtain ⟨x, hx⟩ : ∃ x, nthP p.pts k = x := ⟨_, rfl⟩
      rw [hx] at RG ok ll E
      clear hx
      have z0 := zeroPt
      go_wp2_with (first | (refine wpList_load_part rfl (.tmp 11) rfl rfl rowPt RG.out ll.out ?_) | (refine wpList_store_ro rfl (.tmp 5) (.tmp 12) rfl rfl rfl rowPt (Ro.new wr 63 (ptV zeroP)) rfl ll.out (ptV_one _) ?_))
      intro w4 R4 g4
      obtain ⟨h, H⟩ := x
      have b4 := Lib.hid (box_store g4)
      have B4 := Lib.hid (HB.out.later b4.out)
      have L4 := Lib.hid (HL2.out.trans (b4.out.mono HL2.out.size))
      have lH : Hid (H.length = 32) := Lib.hid ok.out.len
      have RH := Lib.hid (pt_hash (rangeOf R4))
      have RF := Lib.hid B4.out.first
      have R4' := Lib.hid R4
      have u0 : ∀ u : After w4, u.w.cell? ⟨wr.heap.size, 0, none⟩ = some (.int .i64 h) := fun u => by
        have := pt_height (rangeOf R4'.out)
        rw [← this]
        exact u.below.cell R4'.out.lt
      have lF := Lib.hid (hdV_len B4.out.r.ok.first)
      have HDr := Lib.hid (HD.out.later HD.out.lt L4.out)
      have HCI : Hid (∀ u : After w4, Calls Tryz.prog 35 #[.agg (hdV p.first).toArray] u.w fun e w' => e = .returned (.agg (vals (idS p.first)).toArray) ∧ Below u.w.heap.size u.w w') := Lib.hid (fun u => id_any B4.out.r.ok.first u.w (HDr.out.later HDr.out.lt (u.below.mono (Nat.le_refl _))))
      have EQ := eqV lH.out (idS_len p.first)
      obtain ⟨I, hI⟩ : ∃ I, idS p.first = I := ⟨_, rfl⟩
      obtain ⟨F, hF⟩ : ∃ F, p.first = F := ⟨_, rfl⟩
      rw [hF] at hI HCI RF lF EQ E
      rw [hI] at HCI E EQ
      have HI := Lib.hid hI
      have HF := Lib.hid hF
      clear hI hF R4 g4 z0 ll RG ad
      by_cases d1 : h ≤ y
      · have D1 := Lib.hid d1
        have q1 : decide (h ≤ y) = true := decide_eq_true d1
        clear d1 EQ
        go_wp2_with fail
        refine wp_region_after (by kernel_rfl) (by kernel_rfl) ?_
        repeat (go_big_quiet_step (fail))
        refine wpQuiet_nil ?_
        rintro _ ⟨u, rfl⟩
        have L5 := Lib.hid (L4.out.trans (u.below.mono L4.out.size))
        clear u0
        go_wp2_with fail
        go_ret
        exact ⟨by rw [HF.out, HI.out, E.out, if_pos (.inl D1.out)]; rfl, L5.out⟩
      · have D1 := Lib.hid d1
        have q1 : decide (h ≤ y) = false := decide_eq_false d1
        clear d1
        by_cases d2 : h = 0
        · subst d2
          by_cases d3 : H = I
          · have D3 := Lib.hid d3
            rw [eqB_yes d3] at EQ
            clear d3
            go_wp2_with fail
            refine wp_region_after (by kernel_rfl) (by kernel_rfl) ?_
            repeat (go_big_quiet_step (fail))
            go_big_quiet_want
            refine quiet_load_part (.tmp 22) rfl rfl row32 (fun w9 h9 => by obtain ⟨u, rfl⟩ := h9; exact range_later RH.out R4'.out.lt u.below) (by rw [vals_length]; exact lH.out) ?_
            simp only [Act.put, List.setIfInBounds_toArray, List.set_cons_succ, List.set_cons_zero]
            go_big_quiet_on
            repeat (go_big_quiet_step (fail))
            go_big_quiet_want
            refine quiet_load_part (.tmp 24) rfl rfl rowHd (fun w9 h9 => by obtain ⟨u, rfl⟩ := h9; exact range_later RF.out B4.out.ro.lt u.below) lF.out ?_
            simp only [Act.put, List.setIfInBounds_toArray, List.set_cons_succ, List.set_cons_zero]
            go_big_quiet_on
            go_big_quiet_step (exact after_call (HCI.out _))
            repeat (go_big_quiet_step (fail))
            refine wpQuiet_nil ?_
            rintro _ ⟨u, rfl⟩
            have L5 := Lib.hid (L4.out.trans (u.below.mono L4.out.size))
            have B5 := Lib.hid (B4.out.later u.below)
            have c0 := u0 u
            clear u0
            go_wp2_with fail
            exact ⟨⟨k + 1, 0, by omega, by go_num, rfl, Lib.hid (by rw [HF.out, HI.out, E.out, if_neg (fun q => q.elim (fun q => absurd q (by have := D1.out; omega)) (fun q => q.2 D3.out))]), B5.out, L5.out⟩, by simp [intOf]; omega⟩
          · have D3 := Lib.hid d3
            rw [eqB_no d3] at EQ
            clear d3
            go_wp2_with fail
            refine wp_region_after (by kernel_rfl) (by kernel_rfl) ?_
            repeat (go_big_quiet_step (fail))
            go_big_quiet_want
            refine quiet_load_part (.tmp 22) rfl rfl row32 (fun w9 h9 => by obtain ⟨u, rfl⟩ := h9; exact range_later RH.out R4'.out.lt u.below) (by rw [vals_length]; exact lH.out) ?_
            simp only [Act.put, List.setIfInBounds_toArray, List.set_cons_succ, List.set_cons_zero]
            go_big_quiet_on
            repeat (go_big_quiet_step (fail))
            go_big_quiet_want
            refine quiet_load_part (.tmp 24) rfl rfl rowHd (fun w9 h9 => by obtain ⟨u, rfl⟩ := h9; exact range_later RF.out B4.out.ro.lt u.below) lF.out ?_
            simp only [Act.put, List.setIfInBounds_toArray, List.set_cons_succ, List.set_cons_zero]
            go_big_quiet_on
            go_big_quiet_step (exact after_call (HCI.out _))
            repeat (go_big_quiet_step (fail))
            refine wpQuiet_nil ?_
            rintro _ ⟨u, rfl⟩
            have L5 := Lib.hid (L4.out.trans (u.below.mono L4.out.size))
            have B5 := Lib.hid (B4.out.later u.below)
            clear u0
            go_wp2_with fail
            go_ret
            exact ⟨by rw [HF.out, HI.out, E.out, if_pos (.inr ⟨by simp, fun e => D3.out e⟩)]; rfl, L5.out⟩
        · have D2 := Lib.hid d2
          have q2 : (h == 0) = false := by simpa using d2
          clear d2 EQ
          go_wp2_with fail
          refine wp_region_after (by kernel_rfl) (by kernel_rfl) ?_
          repeat (go_big_quiet_step (fail))
          refine wpQuiet_nil ?_
          rintro _ ⟨u, rfl⟩
          have L5 := Lib.hid (L4.out.trans (u.below.mono L4.out.size))
          have B5 := Lib.hid (B4.out.later u.below)
          have c0 := u0 u
          clear u0
          go_wp2_with fail
          exact ⟨⟨k + 1, h, by omega, by go_num, rfl, Lib.hid (by rw [HF.out, HI.out, E.out, if_neg (fun q => q.elim (fun q => absurd q (by have := D1.out; omega)) (fun q => D2.out q.1))]), B5.out, L5.out⟩, by simp [intOf]; omega⟩
    · obtain rfl : k = n := by omega
      go_wp2_with fail
      go_ret
      refine ⟨?_, HL2.out⟩
      rw [E.out, List.drop_of_length_le (by rw [HL.out]; omega)]
      rfl
end Go.Proofs.YtimjmmiajgfblaaGreatDoor
