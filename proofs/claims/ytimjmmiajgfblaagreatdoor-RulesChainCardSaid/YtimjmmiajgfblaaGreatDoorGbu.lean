/- The six rules that a header may break, as the package rules asks them. No condition but the lengths and that the tables lie as laid. -/
import Derived.Test.YtimjmmiajgfblaaGreatDoorGbq
import Derived.Test.YtimjmmiajgfblaaGreatDoorGbt
import Derived.Test.YtimjmmiajgfblaaGreatDoorGad
import Derived.Test.YtimjmmiajgfblaaGreatDoorGbn

namespace Go.Proofs.YtimjmmiajgfblaaGreatDoor
open Go.RowKit

/-- What the six rules read: the parameters, the headers, the header, its hash. -/
structure RgB (w : World) (b3 b4 b5 b7 : Nat) (p : Pm) (A : Option Addr) (n c : Nat) (B : Option Addr) (m d : Nat) (l : List Hd) (h : Hd) : Prop where
  ld : Laid w
  p3 : PmB w b3 p A n c
  r4 : Ro w b4 30 [.slice B m d]
  hs : Hs w B m l
  r5 : Ro w b5 27 (hdV h)
  r7 : Ro w b7 25 (vals (idS h))
  ok : h.Ok
  le : m ≤ 1000000
  cap : m ≤ d
section
variable {w w1 : World} {b3 b4 b5 b7 : Nat} {p : Pm} {A : Option Addr} {n c : Nat} {B : Option Addr} {m d : Nat} {l : List Hd} {h : Hd}
theorem RgB.later (q : RgB w b3 b4 b5 b7 p A n c B m d l h) (g : Below w.heap.size w w1) : RgB w1 b3 b4 b5 b7 p A n c B m d l h :=
  ⟨q.ld.later q.ld.lt g, q.p3.later g, q.r4.later g, q.hs.later g, q.r5.later g, q.r7.later g, q.ok, q.le, q.cap⟩
theorem RgB.c4 (q : RgB w b3 b4 b5 b7 p A n c B m d l h) : w.cell? ⟨b4, 0, none⟩ = some (.slice B m d) := q.r4.cell (k := 0) rfl
theorem RgB.bits (q : RgB w b3 b4 b5 b7 p A n c B m d l h) : w.cell? ⟨b5, 66, none⟩ = some (.int .u32 (h.b : Nat)) := q.r5.cell (hdV_no q.ok (k := 2) (by decide))
theorem RgB.time (q : RgB w b3 b4 b5 b7 p A n c B m d l h) : w.cell? ⟨b5, 65, none⟩ = some (.int .u32 (h.t : Nat)) := q.r5.cell (hdV_no q.ok (k := 1) (by decide))

set_option maxRecDepth 100000 in
set_option maxHeartbeats 4000000 in
theorem rg1_any (q : RgB w b3 b4 b5 b7 p A n c B m d l h) : Calls Tryz.prog 36 #[.pointer (some ⟨b3, 0, none⟩)] w fun e w' => e = .returned (.bool (!mayS p)) ∧ Below w.heap.size w w' := by
  have HQ := Lib.hid q
  have lP := Lib.hid (pmV_len q.p3.r.ok.first A n c)
  clear q
  go_enter Tryz.func36, Tryz.ntmps36
  go_wp2_with (refine wpList_load_ro rfl (.tmp 0) rfl rfl rowPm HQ.out.p3.ro lP.out ?_)
  refine (may_any _ HQ.out.ld HQ.out.p3.r).mono ?_
  rintro e w2 ⟨rfl, hc⟩
  have HB := Lib.hid hc
  clear hc
  go_wp2_with fail
  go_ret
  exact ⟨rfl, HB.out⟩
set_option maxRecDepth 100000 in
set_option maxHeartbeats 4000000 in
theorem rg4_any (q : RgB w b3 b4 b5 b7 p A n c B m d l h) : Calls Tryz.prog 39 #[.pointer (some ⟨b5, 0, none⟩), .pointer (some ⟨b7, 0, none⟩)] w fun e w' => e = .returned (.bool (!meetsN (idS h) (tgtN h.b))) ∧ Below w.heap.size w w' := by
  have HQ := Lib.hid q
  have l7 : Hid ((vals (idS h)).length = 32) := Lib.hid (by rw [vals_length, idS_len])
  have cb := q.bits
  clear q
  go_enter Tryz.func39, Tryz.ntmps39
  go_wp2_with (refine wpList_load_ro rfl (.tmp 1) rfl rfl row26 HQ.out.r7 l7.out ?_)
  refine (wrk_any (idS_len h) (idS_byt h) HQ.out.ok.b _).mono ?_
  rintro e w2 ⟨rfl, hc⟩
  have HB := Lib.hid hc
  clear hc
  go_wp2_with fail
  go_ret
  exact ⟨rfl, HB.out⟩
set_option maxRecDepth 100000 in
set_option maxHeartbeats 4000000 in
theorem rg6_any (q : RgB w b3 b4 b5 b7 p A n c B m d l h) : Calls Tryz.prog 42 #[.pointer (some ⟨b3, 0, none⟩), .pointer (some ⟨b4, 0, none⟩), .pointer (some ⟨b7, 0, none⟩)] w fun e w' => e = .returned (.bool (ptBad p.pts m (idS h))) ∧ Below w.heap.size w w' := by
  have HQ := Lib.hid q
  have l7 : Hid ((vals (idS h)).length = 32) := Lib.hid (by rw [vals_length, idS_len])
  have c3 := q.p3.sl
  have c4 := q.c4
  clear q
  go_enter Tryz.func42, Tryz.ntmps42
  go_wp2_with (refine wpList_load_ro rfl (.tmp 2) rfl rfl row26 HQ.out.r7 l7.out ?_)
  refine (mts_any _ HQ.out.p3.r.pts HQ.out.p3.r.le (idS_len h)).mono ?_
  rintro e w2 ⟨rfl, hc⟩
  have HB := Lib.hid hc
  clear hc
  go_wp2_with fail
  go_ret
  exact ⟨by simp, HB.out⟩
set_option maxRecDepth 100000 in
set_option maxHeartbeats 4000000 in
theorem rg3_any (q : RgB w b3 b4 b5 b7 p A n c B m d l h) : Calls Tryz.prog 38 #[.pointer (some ⟨b5, 0, none⟩), .pointer (some ⟨b3, 0, none⟩), .pointer (some ⟨b4, 0, none⟩)] w fun e w' => e = .returned (.bool (decide (h.b ≠ bitsS p l))) ∧ Below w.heap.size w w' := by
  have HQ := Lib.hid q
  have lP := Lib.hid (pmV_len q.p3.r.ok.first A n c)
  have u5 : ∀ u : After w, u.w.cell? ⟨b5, 66, none⟩ = some (.int .u32 (h.b : Nat)) := fun u => (HQ.out.later u.below).bits
  have u4 : ∀ u : After w, u.w.cell? ⟨b4, 0, none⟩ = some (.slice B m d) := fun u => (HQ.out.later u.below).c4
  have CB : Hid (∀ u : After w, Calls Tryz.prog 12 #[.agg (pmV p A n c).toArray, .slice B m d] u.w fun e w' => e = .returned (.int .u32 (bitsS p l : Nat)) ∧ Below u.w.heap.size u.w w') := Lib.hid (fun u => bits_any u.w (HQ.out.later u.below).ld (HQ.out.later u.below).p3.r HQ.out.le HQ.out.cap (HQ.out.later u.below).hs)
  obtain ⟨x, hx⟩ : ∃ x, h.b = x := ⟨_, rfl⟩
  obtain ⟨y, hy⟩ : ∃ y, bitsS p l = y := ⟨_, rfl⟩
  rw [hx] at u5
  rw [hy] at CB
  rw [hx, hy]
  clear q hx hy
  have nq : ((x : Int) != (y : Int)) = decide (x ≠ y) := by
    rw [Bool.eq_iff_iff, bne_iff_ne, decide_eq_true_iff]
    omega
  go_enter Tryz.func38, Tryz.ntmps38
  go_wp2_with fail
  refine wp_region_after (by kernel_rfl) (by kernel_rfl) ?_
  repeat (go_big_quiet_step (fail))
  go_big_quiet_want
  refine quiet_load_part (.tmp 1) rfl rfl rowPm (fun w9 h9 => by obtain ⟨u, rfl⟩ := h9; exact rangeOf (HQ.out.later u.below).p3.ro) lP.out ?_
  simp only [Act.put, List.setIfInBounds_toArray, List.set_cons_succ, List.set_cons_zero]
  go_big_quiet_on
  repeat (go_big_quiet_step ((go_at_call 12; exact after_call (CB.out _))))
  refine wpQuiet_nil ?_
  rintro _ ⟨u, rfl⟩
  have HB := Lib.hid u.below
  go_wp2_with fail
  go_ret
  exact ⟨by simp [nq], HB.out⟩
set_option maxRecDepth 100000 in
set_option maxHeartbeats 4000000 in
theorem rg5_any (q : RgB w b3 b4 b5 b7 p A n c B m d l h) : Calls Tryz.prog 41 #[.pointer (some ⟨b5, 0, none⟩), .pointer (some ⟨b4, 0, none⟩)] w fun e w' => e = .returned (.bool (decide (h.t ≤ medS l))) ∧ Below w.heap.size w w' := by
  have HQ := Lib.hid q
  have u5 : ∀ u : After w, u.w.cell? ⟨b5, 65, none⟩ = some (.int .u32 (h.t : Nat)) := fun u => (HQ.out.later u.below).time
  have u4 : ∀ u : After w, u.w.cell? ⟨b4, 0, none⟩ = some (.slice B m d) := fun u => (HQ.out.later u.below).c4
  have CB : Hid (∀ u : After w, Calls Tryz.prog 14 #[.slice B m d] u.w fun e w' => e = .returned (.int .u32 (medS l : Nat)) ∧ Below u.w.heap.size u.w w') := Lib.hid (fun u => median_any u.w HQ.out.le HQ.out.cap (HQ.out.later u.below).hs)
  obtain ⟨x, hx⟩ : ∃ x, h.t = x := ⟨_, rfl⟩
  obtain ⟨y, hy⟩ : ∃ y, medS l = y := ⟨_, rfl⟩
  rw [hx] at u5
  rw [hy] at CB
  rw [hx, hy]
  clear q hx hy
  go_enter Tryz.func41, Tryz.ntmps41
  go_wp2_with fail
  refine wp_region_after (by kernel_rfl) (by kernel_rfl) ?_
  repeat (go_big_quiet_step ((go_at_call 14; exact after_call (CB.out _))))
  refine wpQuiet_nil ?_
  rintro _ ⟨u, rfl⟩
  have HB := Lib.hid u.below
  go_wp2_with fail
  go_ret
  exact ⟨by simp, HB.out⟩
set_option maxRecDepth 100000 in
set_option maxHeartbeats 4000000 in
theorem rg2_any (q : RgB w b3 b4 b5 b7 p A n c B m d l h) : Calls Tryz.prog 37 #[.pointer (some ⟨b4, 0, none⟩), .pointer (some ⟨b5, 0, none⟩)] w fun e w' => e = .returned (.bool (decide (m = 0 ∨ h.p ≠ idS (lastH l)))) ∧ Below w.heap.size w w' := by
  have HQ := Lib.hid q
  have u4 : ∀ u : After w, u.w.cell? ⟨b4, 0, none⟩ = some (.slice B m d) := fun u => (HQ.out.later u.below).c4
  have hle := q.le
  have hln := q.hs.len
  clear q
  by_cases h0 : m = 0
  · subst h0
    go_enter Tryz.func37, Tryz.ntmps37
    go_wp2_with fail
    refine wp_region_after (by kernel_rfl) (by kernel_rfl) ?_
    repeat (go_big_quiet_step (fail))
    refine wpQuiet_nil ?_
    rintro _ ⟨u, rfl⟩
    have HB := Lib.hid u.below
    go_wp2_with fail
    go_ret
    exact ⟨by simp, HB.out⟩
  · have q0 : ((m : Int) == 0) = false := by simp; omega
    obtain ⟨b, o, rfl, hb, _⟩ := HQ.out.hs.cel (by omega)
    have ad := add_at b o
    obtain ⟨j, hj⟩ : ∃ j, m - 1 = j := ⟨_, rfl⟩
    have y1 : IntKind.i64.wrap ((m : Int) - 1) = (j : Int) := by rw [IntWalk.i64_in _ (by omega)]; omega
    have jm : j < m := by omega
    have RG := Lib.hid ((HQ.out.hs.at_ jm).2)
    have hb' := Lib.hid hb
    have ok0 := Lib.hid (nthH_ok HQ.out.hs.ok j)
    have eL : lastH l = nthH l j := by rw [lastH, hln, hj]
    rw [eL]
    obtain ⟨g, hg⟩ : ∃ g, nthH l j = g := ⟨_, rfl⟩
    rw [hg] at RG ok0 ⊢
    have ll := Lib.hid (hdV_len ok0.out)
    have RP := Lib.hid (range_prev (rangeOf HQ.out.r5))
    have lp : Hid (h.p.length = 32) := Lib.hid HQ.out.ok.p
    have HCI : Hid (∀ u : After w, Calls Tryz.prog 35 #[.agg (hdV g).toArray] u.w fun e w' => e = .returned (.agg (vals (idS g)).toArray) ∧ Below u.w.heap.size u.w w') := Lib.hid (fun u => id_any ok0.out u.w (HQ.out.later u.below).ld)
    have EQ := eqV lp.out (idS_len g)
    obtain ⟨P, hP⟩ : ∃ P, h.p = P := ⟨_, rfl⟩
    obtain ⟨I, hI⟩ : ∃ I, idS g = I := ⟨_, rfl⟩
    rw [hP, hI] at EQ
    rw [hP] at RP lp
    rw [hI] at HCI
    rw [hP, hI]
    have H0 := Lib.hid h0
    clear hj hg hP hI h0 eL hb hln
    obtain ⟨r, hr⟩ : ∃ r, eqB P I = r := ⟨_, rfl⟩
    have ER : Hid (decide (m = 0 ∨ P ≠ I) = !r) := Lib.hid (by
      rw [← hr]
      by_cases e : P = I
      · rw [eqB_yes e, decide_eq_false (fun q => q.elim H0.out (fun q => q e))]; rfl
      · rw [eqB_no e, decide_eq_true (.inr e)]; rfl)
    rw [hr] at EQ
    rw [ER.out]
    clear hr
    go_enter Tryz.func37, Tryz.ntmps37
    go_wp2_with fail
    refine wp_region_after (by kernel_rfl) (by kernel_rfl) ?_
    repeat (go_big_quiet_step (fail))
    go_big_quiet_want
    refine quiet_load_part (.tmp 7) rfl rfl row26 (fun w9 h9 => by obtain ⟨u, rfl⟩ := h9; exact range_later RP.out HQ.out.r5.lt u.below) (by rw [vals_length]; exact lp.out) ?_
    simp only [Act.put, List.setIfInBounds_toArray, List.set_cons_succ, List.set_cons_zero]
    go_big_quiet_on
    repeat (go_big_quiet_step (fail))
    go_big_quiet_want
    refine quiet_load_part (.tmp 13) rfl rfl rowHd (fun w9 h9 => by obtain ⟨u, rfl⟩ := h9; exact range_later RG.out hb'.out u.below) ll.out ?_
    simp only [Act.put, List.setIfInBounds_toArray, List.set_cons_succ, List.set_cons_zero]
    go_big_quiet_on
    go_big_quiet_step (exact after_call (HCI.out _))
    repeat (go_big_quiet_step (fail))
    refine wpQuiet_nil ?_
    rintro _ ⟨u, rfl⟩
    have HB := Lib.hid u.below
    go_wp2_with fail
    go_ret
    exact ⟨by simp, HB.out⟩
end
end Go.Proofs.YtimjmmiajgfblaaGreatDoor

/- Right of the package rules: may a header stand behind others? No condition but the lengths and that the tables lie as laid. -/
namespace Go.Proofs.YtimjmmiajgfblaaGreatDoor
open Go.RowKit

theorem rowRule : IsRow 68 2 := ⟨.inl ⟨_, Tryz.underlying68⟩, by kernel_rfl⟩
theorem one2 (a b : Value) (ha : a.oneCell' = true) (hb : b.oneCell' = true) : ∀ u ∈ [a, b], u.oneCell' = true := by
  intro u hu
  simp only [List.mem_cons, List.not_mem_nil, or_false] at hu
  rcases hu with rfl | rfl
  · exact ha
  · exact hb

set_option maxRecDepth 100000 in
set_option maxHeartbeats 8000000 in
theorem right_chain {p : Pm} {A B : Option Addr} {n c m d : Nat} {l : List Hd} {h : Hd} (w : World) (hLd : Laid w) (hP : PmR w p A n c) (hm : m ≤ 1000000) (hd : m ≤ d) (hL : Hs w B m l) (hk : h.Ok) :
    Calls Tryz.prog 16 #[.agg (pmV p A n c).toArray, .slice B m d, .agg (hdV h).toArray] w fun e w' => e = .returned (.int .i64 (rightS p l h : Nat)) ∧ Below w.heap.size w w' := by
  have HD := Lib.hid hLd
  have ok := Lib.hid hk
  have HN := Lib.hid hL.len
  have ll := Lib.hid (hdV_len hk)
  have n0 := (Below.refl w.heap.size w).alloc (Nat.le_refl _) (.cells (pmV p A n c).toArray 29)
  have n1 := n0.alloc n0.size (.cells #[.slice B m d] 30)
  have n2 := n1.alloc n1.size (.cells (hdV h).toArray 27)
  have P1 := (PmB.new hP).later ((Below.refl _ _).alloc (Nat.le_refl _) (.cells #[.slice B m d] 30))
  have P2 := Lib.hid (P1.later ((Below.refl _ _).alloc (Nat.le_refl _) (.cells (hdV h).toArray 27)))
  have R4 := (Ro.new (w.alloc (.cells (pmV p A n c).toArray 29)) 30 [.slice B m d]).alloc (.cells (hdV h).toArray 27)
  rw [World.size_alloc] at R4
  have R5 := Ro.new ((w.alloc (.cells (pmV p A n c).toArray 29)).alloc (.cells #[.slice B m d] 30)) 27 (hdV h)
  rw [World.size_alloc, World.size_alloc] at R5
  have HA := Lib.hid n2
  have HR4 := Lib.hid R4
  have HR5 := Lib.hid R5
  have HL := Lib.hid (hL.later n2)
  clear n0 n1 n2 P1 R4 R5 hP hL hLd hk
  go_enter Tryz.func16, Tryz.ntmps16
  go_wp2_with (refine wpList_load_ro rfl (.tmp 5) rfl rfl rowHd HR5.out ll.out ?_)
  refine (id_any ok.out _ (HD.out.later HD.out.lt HA.out)).mono ?_
  rintro e w1 ⟨rfl, hc⟩
  have n3 := (Below.refl w1.heap.size w1).alloc (Nat.le_refl _) (.cells (vals (List.replicate 32 0)).toArray 25)
  have A1 := HA.out.trans (hc.mono HA.out.size)
  have R7 := Ro.new w1 25 (vals (List.replicate 32 0))
  have l7 : Hid ((vals (idS h)).length = 32) := Lib.hid (by rw [vals_length, idS_len])
  have HA1 := Lib.hid A1
  have P3 := Lib.hid (P2.out.later hc)
  have R4 := Lib.hid (HR4.out.later hc)
  have R5 := Lib.hid (HR5.out.later hc)
  have HL1 := Lib.hid (HL.out.later hc)
  have HR7 := Lib.hid R7
  clear hc n3 A1 R7 HA HR4 HR5 P2 HL
  go_wp2_with (refine wpList_store_ro rfl (.tmp 7) (.tmp 11) rfl rfl rfl row26 HR7.out rfl l7.out (vals_one _) ?_)
  intro w2 R7 g7
  have gb := box_store g7
  have HA2 := Lib.hid (HA1.out.trans (gb.mono HA1.out.size))
  have Q2 : RgB w2 w.heap.size (w.heap.size + 1) (w.heap.size + 1 + 1) w1.heap.size p A n c B m d l h := ⟨HD.out.later HD.out.lt HA2.out, P3.out.later gb, R4.out.later gb, HL1.out.later gb, R5.out.later gb, R7, ok.out, hm, hd⟩
  have HQ2 := Lib.hid Q2
  clear Q2 gb g7 R7 P3 R4 R5 HL1 HR7 HA1
  generalize w1.heap.size = b7 at HQ2 ⊢
  generalize w.heap.size + 1 + 1 = b5 at HQ2 ⊢
  generalize w.heap.size + 1 = b4 at HQ2 ⊢
  obtain ⟨b3, hb3⟩ : ∃ b3, w.heap.size = b3 := ⟨_, rfl⟩
  rw [hb3] at HQ2 ⊢
  have HB3 := Lib.hid hb3
  clear hb3
  go_wp2_with fail
  have n8 := (Below.refl w2.heap.size w2).alloc (Nat.le_refl _) (.cells #[.func (.func 36) #[] #[.pointer (some ⟨b3, 0, none⟩)], .int .i64 1, .func (.func 37) #[] #[.pointer (some ⟨b4, 0, none⟩), .pointer (some ⟨b5, 0, none⟩)], .int .i64 9, .func (.func 38) #[] #[.pointer (some ⟨b5, 0, none⟩), .pointer (some ⟨b3, 0, none⟩), .pointer (some ⟨b4, 0, none⟩)], .int .i64 10, .func (.func 39) #[] #[.pointer (some ⟨b5, 0, none⟩), .pointer (some ⟨b7, 0, none⟩)], .int .i64 11, .func (.func 41) #[] #[.pointer (some ⟨b5, 0, none⟩), .pointer (some ⟨b4, 0, none⟩)], .int .i64 12, .func (.func 42) #[] #[.pointer (some ⟨b3, 0, none⟩), .pointer (some ⟨b4, 0, none⟩), .pointer (some ⟨b7, 0, none⟩)], .int .i64 13] 68)
  have R8 : Ro (w2.alloc (.cells #[.func (.func 36) #[] #[.pointer (some ⟨b3, 0, none⟩)], .int .i64 1, .func (.func 37) #[] #[.pointer (some ⟨b4, 0, none⟩), .pointer (some ⟨b5, 0, none⟩)], .int .i64 9, .func (.func 38) #[] #[.pointer (some ⟨b5, 0, none⟩), .pointer (some ⟨b3, 0, none⟩), .pointer (some ⟨b4, 0, none⟩)], .int .i64 10, .func (.func 39) #[] #[.pointer (some ⟨b5, 0, none⟩), .pointer (some ⟨b7, 0, none⟩)], .int .i64 11, .func (.func 41) #[] #[.pointer (some ⟨b5, 0, none⟩), .pointer (some ⟨b4, 0, none⟩)], .int .i64 12, .func (.func 42) #[] #[.pointer (some ⟨b3, 0, none⟩), .pointer (some ⟨b4, 0, none⟩), .pointer (some ⟨b7, 0, none⟩)], .int .i64 13] 68)) w2.heap.size 68 [.func (.func 36) #[] #[.pointer (some ⟨b3, 0, none⟩)], .int .i64 1, .func (.func 37) #[] #[.pointer (some ⟨b4, 0, none⟩), .pointer (some ⟨b5, 0, none⟩)], .int .i64 9, .func (.func 38) #[] #[.pointer (some ⟨b5, 0, none⟩), .pointer (some ⟨b3, 0, none⟩), .pointer (some ⟨b4, 0, none⟩)], .int .i64 10, .func (.func 39) #[] #[.pointer (some ⟨b5, 0, none⟩), .pointer (some ⟨b7, 0, none⟩)], .int .i64 11, .func (.func 41) #[] #[.pointer (some ⟨b5, 0, none⟩), .pointer (some ⟨b4, 0, none⟩)], .int .i64 12, .func (.func 42) #[] #[.pointer (some ⟨b3, 0, none⟩), .pointer (some ⟨b4, 0, none⟩), .pointer (some ⟨b7, 0, none⟩)], .int .i64 13] := Ro.new _ _ _
  have HA3 := Lib.hid (HA2.out.trans (n8.mono HA2.out.size))
  have Q3 := Lib.hid (HQ2.out.later n8)
  generalize (w2.alloc (.cells #[.func (.func 36) #[] #[.pointer (some ⟨b3, 0, none⟩)], .int .i64 1, .func (.func 37) #[] #[.pointer (some ⟨b4, 0, none⟩), .pointer (some ⟨b5, 0, none⟩)], .int .i64 9, .func (.func 38) #[] #[.pointer (some ⟨b5, 0, none⟩), .pointer (some ⟨b3, 0, none⟩), .pointer (some ⟨b4, 0, none⟩)], .int .i64 10, .func (.func 39) #[] #[.pointer (some ⟨b5, 0, none⟩), .pointer (some ⟨b7, 0, none⟩)], .int .i64 11, .func (.func 41) #[] #[.pointer (some ⟨b5, 0, none⟩), .pointer (some ⟨b4, 0, none⟩)], .int .i64 12, .func (.func 42) #[] #[.pointer (some ⟨b3, 0, none⟩), .pointer (some ⟨b4, 0, none⟩), .pointer (some ⟨b7, 0, none⟩)], .int .i64 13] 68)) = w3 at R8 HA3 Q3 ⊢
  generalize w2.heap.size = S at R8 ⊢
  have HR := Lib.hid R8
  clear n8 R8 HA2 HQ2
  refine wp_loop_rounds 7 ?_
  rw [rounds_succ]
  have ca := HR.out.cell (k := 0) rfl
  have cb := HR.out.cell (k := 1) rfl
  go_wp2_with (refine wpList_store_ro rfl (.tmp 9) (.tmp 29) rfl rfl (vs := [.func (.func 36) #[] #[.pointer (some ⟨b3, 0, none⟩)], .int .i64 1]) rfl rowRule (Ro.new w3 68 [.nilFunc, .int .i64 0]) rfl rfl (one2 _ _ rfl rfl) ?_)
  clear ca cb
  intro wq RB gq
  have nb := box_store gq
  clear gq
  have cq := RB.cell (k := 0) rfl
  have HNB := Lib.hid nb
  have HRB := Lib.hid RB
  clear nb RB
  go_wp2_with fail
  clear cq
  refine (rg1_any (Q3.out.later HNB.out)).mono ?_
  rintro e w4 ⟨rfl, hc⟩
  have HR0 := Lib.hid ((HR.out.later HNB.out).later hc)
  have NQ0 := Lib.hid ((Q3.out.later HNB.out).later hc)
  have hz := HA3.out.trans (HNB.out.mono HA3.out.size)
  have H0 := Lib.hid (hz.trans (hc.mono hz.size))
  have RC := HRB.out.later hc
  have ce := RC.cell (k := 1) rfl
  clear hc hz HR Q3 HA3 HRB RC HNB
  obtain ⟨r, hr⟩ : ∃ r, (!mayS p) = r := ⟨_, rfl⟩
  rw [hr]
  cases r with
  | true =>
    have KT : mayS p = false := by simpa using hr
    have HKT := Lib.hid KT
    clear hr KT
    go_wp2_with fail
    go_ret
    exact ⟨by rw [rightS, if_pos HKT.out]; rfl, H0.out⟩
  | false =>
    have ht : mayS p = true := by simpa using hr
    have K0 : Hid (¬ mayS p = false) := Lib.hid (by rw [ht]; simp)
    clear ht
    clear hr ce
    have HR := HR0
    have Q3 := NQ0
    have HA3 := H0
    clear HR0 NQ0 H0
    go_wp2_with fail
    rw [rounds_succ]
    have ca := HR.out.cell (k := 2) rfl
    have cb := HR.out.cell (k := 3) rfl
    go_wp2_with (refine wpList_store_ro rfl (.tmp 9) (.tmp 29) rfl rfl (vs := [.func (.func 37) #[] #[.pointer (some ⟨b4, 0, none⟩), .pointer (some ⟨b5, 0, none⟩)], .int .i64 9]) rfl rowRule (Ro.new w4 68 [.nilFunc, .int .i64 0]) rfl rfl (one2 _ _ rfl rfl) ?_)
    clear ca cb
    intro wq RB gq
    have nb := box_store gq
    clear gq
    have cq := RB.cell (k := 0) rfl
    have HNB := Lib.hid nb
    have HRB := Lib.hid RB
    clear nb RB
    go_wp2_with fail
    clear cq
    refine (rg2_any (Q3.out.later HNB.out)).mono ?_
    rintro e w5 ⟨rfl, hc⟩
    have HR1 := Lib.hid ((HR.out.later HNB.out).later hc)
    have NQ1 := Lib.hid ((Q3.out.later HNB.out).later hc)
    have hz := HA3.out.trans (HNB.out.mono HA3.out.size)
    have H1 := Lib.hid (hz.trans (hc.mono hz.size))
    have RC := HRB.out.later hc
    have ce := RC.cell (k := 1) rfl
    clear hc hz HR Q3 HA3 HRB RC HNB
    obtain ⟨r, hr⟩ : ∃ r, decide (m = 0 ∨ h.p ≠ idS (lastH l)) = r := ⟨_, rfl⟩
    rw [hr]
    cases r with
    | true =>
      have KT := of_decide_eq_true hr
      have HKT := Lib.hid KT
      clear hr KT
      have HKU : Hid (l.length = 0 ∨ h.p ≠ idS (lastH l)) := Lib.hid (by rw [HN.out]; exact HKT.out)
      go_wp2_with fail
      go_ret
      exact ⟨by rw [rightS, if_neg K0.out, if_pos HKU.out]; rfl, H1.out⟩
    | false =>
      have K1 : Hid (¬ (l.length = 0 ∨ h.p ≠ idS (lastH l))) := Lib.hid (by rw [HN.out]; exact of_decide_eq_false hr)
      clear hr ce
      have HR := HR1
      have Q3 := NQ1
      have HA3 := H1
      clear HR1 NQ1 H1
      go_wp2_with fail
      rw [rounds_succ]
      have ca := HR.out.cell (k := 4) rfl
      have cb := HR.out.cell (k := 5) rfl
      go_wp2_with (refine wpList_store_ro rfl (.tmp 9) (.tmp 29) rfl rfl (vs := [.func (.func 38) #[] #[.pointer (some ⟨b5, 0, none⟩), .pointer (some ⟨b3, 0, none⟩), .pointer (some ⟨b4, 0, none⟩)], .int .i64 10]) rfl rowRule (Ro.new w5 68 [.nilFunc, .int .i64 0]) rfl rfl (one2 _ _ rfl rfl) ?_)
      clear ca cb
      intro wq RB gq
      have nb := box_store gq
      clear gq
      have cq := RB.cell (k := 0) rfl
      have HNB := Lib.hid nb
      have HRB := Lib.hid RB
      clear nb RB
      go_wp2_with fail
      clear cq
      refine (rg3_any (Q3.out.later HNB.out)).mono ?_
      rintro e w6 ⟨rfl, hc⟩
      have HR2 := Lib.hid ((HR.out.later HNB.out).later hc)
      have NQ2 := Lib.hid ((Q3.out.later HNB.out).later hc)
      have hz := HA3.out.trans (HNB.out.mono HA3.out.size)
      have H2 := Lib.hid (hz.trans (hc.mono hz.size))
      have RC := HRB.out.later hc
      have ce := RC.cell (k := 1) rfl
      clear hc hz HR Q3 HA3 HRB RC HNB
      obtain ⟨r, hr⟩ : ∃ r, decide (h.b ≠ bitsS p l) = r := ⟨_, rfl⟩
      rw [hr]
      cases r with
      | true =>
        have KT := of_decide_eq_true hr
        have HKT := Lib.hid KT
        clear hr KT
        go_wp2_with fail
        go_ret
        exact ⟨by rw [rightS, if_neg K0.out, if_neg K1.out, if_pos HKT.out]; rfl, H2.out⟩
      | false =>
        have K2 : Hid (¬ h.b ≠ bitsS p l) := Lib.hid (of_decide_eq_false hr)
        clear hr ce
        have HR := HR2
        have Q3 := NQ2
        have HA3 := H2
        clear HR2 NQ2 H2
        go_wp2_with fail
        rw [rounds_succ]
        have ca := HR.out.cell (k := 6) rfl
        have cb := HR.out.cell (k := 7) rfl
        go_wp2_with (refine wpList_store_ro rfl (.tmp 9) (.tmp 29) rfl rfl (vs := [.func (.func 39) #[] #[.pointer (some ⟨b5, 0, none⟩), .pointer (some ⟨b7, 0, none⟩)], .int .i64 11]) rfl rowRule (Ro.new w6 68 [.nilFunc, .int .i64 0]) rfl rfl (one2 _ _ rfl rfl) ?_)
        clear ca cb
        intro wq RB gq
        have nb := box_store gq
        clear gq
        have cq := RB.cell (k := 0) rfl
        have HNB := Lib.hid nb
        have HRB := Lib.hid RB
        clear nb RB
        go_wp2_with fail
        clear cq
        refine (rg4_any (Q3.out.later HNB.out)).mono ?_
        rintro e w7 ⟨rfl, hc⟩
        have HR3 := Lib.hid ((HR.out.later HNB.out).later hc)
        have NQ3 := Lib.hid ((Q3.out.later HNB.out).later hc)
        have hz := HA3.out.trans (HNB.out.mono HA3.out.size)
        have H3 := Lib.hid (hz.trans (hc.mono hz.size))
        have RC := HRB.out.later hc
        have ce := RC.cell (k := 1) rfl
        clear hc hz HR Q3 HA3 HRB RC HNB
        obtain ⟨r, hr⟩ : ∃ r, (!meetsN (idS h) (tgtN h.b)) = r := ⟨_, rfl⟩
        rw [hr]
        cases r with
        | true =>
          have KT : meetsN (idS h) (tgtN h.b) = false := by simpa using hr
          have HKT := Lib.hid KT
          clear hr KT
          go_wp2_with fail
          go_ret
          exact ⟨by rw [rightS, if_neg K0.out, if_neg K1.out, if_neg K2.out, if_pos HKT.out]; rfl, H3.out⟩
        | false =>
          have ht : meetsN (idS h) (tgtN h.b) = true := by simpa using hr
          have K3 : Hid (¬ meetsN (idS h) (tgtN h.b) = false) := Lib.hid (by rw [ht]; simp)
          clear ht
          clear hr ce
          have HR := HR3
          have Q3 := NQ3
          have HA3 := H3
          clear HR3 NQ3 H3
          go_wp2_with fail
          rw [rounds_succ]
          have ca := HR.out.cell (k := 8) rfl
          have cb := HR.out.cell (k := 9) rfl
          go_wp2_with (refine wpList_store_ro rfl (.tmp 9) (.tmp 29) rfl rfl (vs := [.func (.func 41) #[] #[.pointer (some ⟨b5, 0, none⟩), .pointer (some ⟨b4, 0, none⟩)], .int .i64 12]) rfl rowRule (Ro.new w7 68 [.nilFunc, .int .i64 0]) rfl rfl (one2 _ _ rfl rfl) ?_)
          clear ca cb
          intro wq RB gq
          have nb := box_store gq
          clear gq
          have cq := RB.cell (k := 0) rfl
          have HNB := Lib.hid nb
          have HRB := Lib.hid RB
          clear nb RB
          go_wp2_with fail
          clear cq
          refine (rg5_any (Q3.out.later HNB.out)).mono ?_
          rintro e w8 ⟨rfl, hc⟩
          have HR4 := Lib.hid ((HR.out.later HNB.out).later hc)
          have NQ4 := Lib.hid ((Q3.out.later HNB.out).later hc)
          have hz := HA3.out.trans (HNB.out.mono HA3.out.size)
          have H4 := Lib.hid (hz.trans (hc.mono hz.size))
          have RC := HRB.out.later hc
          have ce := RC.cell (k := 1) rfl
          clear hc hz HR Q3 HA3 HRB RC HNB
          obtain ⟨r, hr⟩ : ∃ r, decide (h.t ≤ medS l) = r := ⟨_, rfl⟩
          rw [hr]
          cases r with
          | true =>
            have KT := of_decide_eq_true hr
            have HKT := Lib.hid KT
            clear hr KT
            go_wp2_with fail
            go_ret
            exact ⟨by rw [rightS, if_neg K0.out, if_neg K1.out, if_neg K2.out, if_neg K3.out, if_pos HKT.out]; rfl, H4.out⟩
          | false =>
            have K4 : Hid (¬ h.t ≤ medS l) := Lib.hid (of_decide_eq_false hr)
            clear hr ce
            have HR := HR4
            have Q3 := NQ4
            have HA3 := H4
            clear HR4 NQ4 H4
            go_wp2_with fail
            rw [rounds_succ]
            have ca := HR.out.cell (k := 10) rfl
            have cb := HR.out.cell (k := 11) rfl
            go_wp2_with (refine wpList_store_ro rfl (.tmp 9) (.tmp 29) rfl rfl (vs := [.func (.func 42) #[] #[.pointer (some ⟨b3, 0, none⟩), .pointer (some ⟨b4, 0, none⟩), .pointer (some ⟨b7, 0, none⟩)], .int .i64 13]) rfl rowRule (Ro.new w8 68 [.nilFunc, .int .i64 0]) rfl rfl (one2 _ _ rfl rfl) ?_)
            clear ca cb
            intro wq RB gq
            have nb := box_store gq
            clear gq
            have cq := RB.cell (k := 0) rfl
            have HNB := Lib.hid nb
            have HRB := Lib.hid RB
            clear nb RB
            go_wp2_with fail
            clear cq
            refine (rg6_any (Q3.out.later HNB.out)).mono ?_
            rintro e w9 ⟨rfl, hc⟩
            have HR5 := Lib.hid ((HR.out.later HNB.out).later hc)
            have NQ5 := Lib.hid ((Q3.out.later HNB.out).later hc)
            have hz := HA3.out.trans (HNB.out.mono HA3.out.size)
            have H5 := Lib.hid (hz.trans (hc.mono hz.size))
            have RC := HRB.out.later hc
            have ce := RC.cell (k := 1) rfl
            clear hc hz HR Q3 HA3 HRB RC HNB
            obtain ⟨r, hr⟩ : ∃ r, ptBad p.pts m (idS h) = r := ⟨_, rfl⟩
            rw [hr]
            cases r with
            | true =>
              have KT := hr
              have HKT := Lib.hid KT
              clear hr KT
              have HKU : Hid (ptBad p.pts l.length (idS h) = true) := Lib.hid (by rw [HN.out]; exact HKT.out)
              go_wp2_with fail
              go_ret
              exact ⟨by rw [rightS, if_neg K0.out, if_neg K1.out, if_neg K2.out, if_neg K3.out, if_neg K4.out, if_pos HKU.out]; rfl, H5.out⟩
            | false =>
              have K5 : Hid (¬ ptBad p.pts l.length (idS h) = true) := Lib.hid (by rw [HN.out, hr]; simp)
              clear hr ce
              have HR := HR5
              have Q3 := NQ5
              have HA3 := H5
              clear HR5 NQ5 H5
              go_wp2_with fail
              rw [rounds_succ]
              go_wp2_with fail
              go_ret
              exact ⟨by rw [rightS, if_neg K0.out, if_neg K1.out, if_neg K2.out, if_neg K3.out, if_neg K4.out, if_neg K5.out]; rfl, HA3.out⟩
end Go.Proofs.YtimjmmiajgfblaaGreatDoor

/- Easy parameters, and headers with times. No condition but the lengths. -/
namespace Go.Proofs.YtimjmmiajgfblaaGreatDoor
open Go.RowKit
set_option maxRecDepth 100000

def ezH : Hd := ⟨1, List.replicate 32 0, List.replicate 32 0, 1000, 545259519, 0⟩
theorem z32_ok : (List.replicate 32 0).length = 32 ∧ AllB (List.replicate 32 0) := ⟨by decide, fun x hx => by rw [List.eq_of_mem_replicate hx]; decide⟩
theorem ezH_ok : ezH.Ok := ⟨by decide, by decide, by decide, by decide, by decide, by decide, z32_ok.2, z32_ok.2⟩
theorem build_ezH (w : World) : (Instr.build 27 #[(0, .int .u32 1), (3, .int .u32 1000), (4, .int .u32 545259519)]).run Tryz.prog w = .ok (.agg (hdV ezH).toArray) w := by kernel_rfl
theorem easy_first (iv : Int) (sp : Nat) : (easyS iv sp).first = ezH := rfl
theorem build_ezP (iv : Int) (sp : Nat) (w : World) : (Instr.build 29 #[(0, .int .u32 545259519), (1, .int .i64 iv), (2, .int .u32 (sp : Int)), (4, .agg (hdV ezH).toArray)]).run Tryz.prog w = .ok (.agg (pmV (easyS iv sp) none 0 0).toArray) w := by kernel_rfl
def zeroPm : Pm := ⟨0, 0, 0, [], zeroH⟩
theorem zeroPm_run (w : World) : (zeroValue 29).run Tryz.prog w = .ok (.agg (pmV zeroPm none 0 0).toArray) w := by kernel_rfl
theorem easy_ok {iv : Int} {sp : Nat} (h1 : -9223372036854775808 ≤ iv) (h2 : iv < 9223372036854775808) (h3 : sp < 4294967296) : (easyS iv sp).Ok := ⟨by show 545259519 < 4294967296; decide, ⟨h1, h2⟩, h3, fun x hx => (by cases hx), ezH_ok⟩
theorem easy_r {iv : Int} {sp : Nat} (w : World) (h1 : -9223372036854775808 ≤ iv) (h2 : iv < 9223372036854775808) (h3 : sp < 4294967296) : PmR w (easyS iv sp) none 0 0 := ⟨easy_ok h1 h2 h3, Ps.nil _ _, by omega, by omega⟩

set_option maxHeartbeats 4000000 in
theorem easy_any (iv : Int) (sp : Nat) (w : World) : Calls Tryz.prog 18 #[.int .i64 iv, .int .u32 (sp : Nat)] w fun e w' => e = .returned (.agg (pmV (easyS iv sp) none 0 0).toArray) ∧ Below w.heap.size w w' := by
  have z0 := zeroPm_run
  have BH := build_ezH
  have BP := Lib.hid (build_ezP iv sp)
  have l0 : Hid ((pmV zeroPm none 0 0).length = 72) := Lib.hid (pmV_len zeroH_ok _ _ _)
  have l1 : Hid ((pmV (easyS iv sp) none 0 0).length = 72) := Lib.hid (pmV_len ezH_ok _ _ _)
  have o1 : Hid (∀ u ∈ pmV (easyS iv sp) none 0 0, u.oneCell' = true) := Lib.hid (pmV_one _ _ _ _)
  have R0 := Lib.hid (Ro.new w 29 (pmV zeroPm none 0 0))
  obtain ⟨V, hV⟩ : ∃ V, pmV (easyS iv sp) none 0 0 = V := ⟨_, rfl⟩
  rw [hV] at BP l1 o1 ⊢
  clear hV
  obtain ⟨HV, hHV⟩ : ∃ HV, hdV ezH = HV := ⟨_, rfl⟩
  rw [hHV] at BH BP
  clear hHV
  go_enter Tryz.func18, Tryz.ntmps18
  go_wp2_with (first | (refine wpList_buildR rfl 27 #[(0, .const (.int .u32 1)), (3, .const (.int .u32 1000)), (4, .const (.int .u32 545259519))] rfl (vs := #[(0, .int .u32 1), (3, .int .u32 1000), (4, .int .u32 545259519)]) ?e1 (BH _) ?_) | (refine wpList_buildR rfl 29 #[(0, .const (.int .u32 545259519)), (1, .tmp 5), (2, .tmp 6), (4, .tmp 7)] rfl (vs := #[(0, .int .u32 545259519), (1, .int .i64 iv), (2, .int .u32 (sp : Int)), (4, .agg HV.toArray)]) ?e2 (BP.out _) ?_) | (refine wpList_store_ro rfl (.tmp 4) (.tmp 8) rfl rfl rfl rowPm R0.out l0.out l1.out o1.out ?_))
  case e1 => simp [go_sem]
  intro w2 R2 g2
  go_wp2_with (exact bodyPost_ret (results_ro Tryz.results18 _ rfl rowPm R2 l1.out) rfl ⟨rfl, box_store g2⟩)

/-- Headers with these times. -/
def tmH (x : Nat) : Hd := ⟨0, List.replicate 32 0, List.replicate 32 0, x, 545259519, 0⟩
def tmHs (L : List Nat) : List Hd := L.map tmH
theorem tmH_ok {x : Nat} (h : x < 4294967296) : (tmH x).Ok := ⟨by show 0 < 4294967296; decide, by simp [tmH], by simp [tmH], h, by show 545259519 < 4294967296; decide, by show 0 < 4294967296; decide, z32_ok.2, z32_ok.2⟩
theorem build_tmH (x : Nat) (w : World) : (Instr.build 27 #[(3, .int .u32 (x : Int)), (4, .int .u32 545259519)]).run Tryz.prog w = .ok (.agg (hdV (tmH x)).toArray) w := by kernel_rfl
theorem tmHs_snoc (L : List Nat) (x : Nat) : tmHs (L ++ [x]) = tmHs L ++ [tmH x] := by simp [tmHs]
set_option maxHeartbeats 4000000 in
theorem times_any {A : Option Addr} {n c : Nat} {L : List Nat} (w : World) (hn : n ≤ 1000000) (hL : Ws w A n L) (hb : ∀ x ∈ L, x < 4294967296) : Calls Tryz.prog 28 #[.slice A n c] w fun e w' => ∃ B d, e = .returned (.slice B n d) ∧ OwnH w (.slice B n d) n (tmHs L) w' := by
  have HL := Lib.hid hL
  have HN := Lib.hid hL.len
  have HB := Lib.hid hb
  have O0 := Lib.hid (OwnH.none_ (Below.refl w.heap.size w))
  clear hL hb
  go_enter Tryz.func28, Tryz.ntmps28
  go_wp2_with fail
  go_loopw [3, 4] (fun v i wr => ∃ k : Nat, k ≤ n ∧ i = .int .i64 (k : Nat) ∧ ∃ B d, v = .slice B k d ∧ OwnH w (.slice B k d) k (tmHs (L.take k)) wr) (fun _ i _ => n - (intOf i).toNat)
  case atStart => exact ⟨0, Nat.zero_le _, rfl, _, _, rfl, O0.out⟩
  case round =>
    clear O0
    obtain ⟨k, hk, rfl, B, d, rfl, O⟩ := hrel
    have HO := Lib.hid O
    clear O
    by_cases hlt : k < n
    · obtain ⟨a, rfl, hab, hcel⟩ := HL.out.cel (by omega)
      have hx := hcel k hlt
      have hx1 : wr.cell? (a.add k) = some (.int .u32 (nth L k : Nat)) := by rw [← hx]; exact HO.out.bel.cell (by rw [add_block]; exact hab)
      have ok : Hid ((tmH (nth L k)).Ok) := Lib.hid (tmH_ok (HB.out _ (by rw [nth, List.getD_eq_getElem?_getD, List.getElem?_eq_getElem (by rw [HN.out]; exact hlt)]; exact List.getElem_mem _)))
      have et := Lib.hid (take_nth (A := L) (j := k) (by rw [HN.out]; exact hlt))
      obtain ⟨x, hx2⟩ : ∃ x, nth L k = x := ⟨_, rfl⟩
      rw [hx2] at hx1 ok et
      have BT := build_tmH x
      have ll := Lib.hid (hdV_len ok.out)
      have O5 := Lib.hid (HO.out.later ((Below.refl _ _).alloc (Nat.le_refl _) (.cells (hdV (tmH x)).toArray 27)))
      have R5 := Lib.hid (Ro.new wr 27 (hdV (tmH x)))
      obtain ⟨G, hG⟩ : ∃ G, tmH x = G := ⟨_, rfl⟩
      rw [hG] at BT ll O5 R5 ok
      have HG := Lib.hid hG
      clear hcel hx hx2 HO hG
      go_wp2_with (first | (refine wpList_buildR rfl 27 #[(3, .tmp 15), (4, .const (.int .u32 545259519))] rfl (vs := #[(3, .int .u32 (x : Int)), (4, .int .u32 545259519)]) ?e1 (BT _) ?_) | (refine wpList_litH rfl (.tmp 16) rfl rfl ll.out ?_) | (at_builtin; refine wpList_appH rfl (.tmp 11) (.tmp 17) rfl rfl O5.out rfl ok.out R5.out (by omega) ?_))
      case e1 => simp [go_sem]
      intro A6 c6 w6 hc6 O6 g6
      have HO6 := Lib.hid O6
      clear O6 g6
      go_wp2_with fail
      exact ⟨⟨k + 1, by omega, by go_num, _, _, rfl, by rw [et.out, tmHs_snoc, HG.out]; exact HO6.out⟩, by simp [intOf]; omega⟩
    · obtain rfl : k = n := by omega
      go_wp2_with fail
      go_ret
      have := HO.out
      rw [List.take_of_length_le (by rw [HN.out]; exact Nat.le_refl _)] at this
      exact ⟨_, _, rfl, this⟩
end Go.Proofs.YtimjmmiajgfblaaGreatDoor

/- A header that is mined: the first of some numbers with which it has its work. No condition but the lengths. -/
namespace Go.Proofs.YtimjmmiajgfblaaGreatDoor
open Go.RowKit
set_option maxRecDepth 100000

theorem build_mnl (x0 x1 x2 x3 x4 x5 x6 x7 x8 x9 x10 x11 x12 x13 x14 x15 x16 x17 x18 x19 x20 x21 x22 x23 x24 x25 x26 x27 x28 x29 x30 x31 : Nat) (t b : Nat) (w : World) : (Instr.build 27 #[(0, .int .u32 1), (2, .agg (vals [x0, x1, x2, x3, x4, x5, x6, x7, x8, x9, x10, x11, x12, x13, x14, x15, x16, x17, x18, x19, x20, x21, x22, x23, x24, x25, x26, x27, x28, x29, x30, x31]).toArray), (3, .int .u32 (t : Int)), (4, .int .u32 (b : Int))]).run Tryz.prog w = .ok (.agg (hdV ⟨1, List.replicate 32 0, [x0, x1, x2, x3, x4, x5, x6, x7, x8, x9, x10, x11, x12, x13, x14, x15, x16, x17, x18, x19, x20, x21, x22, x23, x24, x25, x26, x27, x28, x29, x30, x31], t, b, 0⟩).toArray) w := by kernel_rfl
theorem build_mn (t b : Nat) {r : List Nat} (hr : r.length = 32) (w : World) : (Instr.build 27 #[(0, .int .u32 1), (2, .agg (vals r).toArray), (3, .int .u32 (t : Int)), (4, .int .u32 (b : Int))]).run Tryz.prog w = .ok (.agg (hdV ⟨1, List.replicate 32 0, r, t, b, 0⟩).toArray) w := by
  obtain ⟨x0, x1, x2, x3, x4, x5, x6, x7, x8, x9, x10, x11, x12, x13, x14, x15, x16, x17, x18, x19, x20, x21, x22, x23, x24, x25, x26, x27, x28, x29, x30, x31, rfl⟩ := len32 r hr
  exact build_mnl x0 x1 x2 x3 x4 x5 x6 x7 x8 x9 x10 x11 x12 x13 x14 x15 x16 x17 x18 x19 x20 x21 x22 x23 x24 x25 x26 x27 x28 x29 x30 x31 t b w
theorem splice_prev {v t b n : Nat} {p q r : List Nat} (hp : p.length = 32) (hq : q.length = 32) : splice (hdV ⟨v, p, r, t, b, n⟩) 1 (vals q) = hdV ⟨v, q, r, t, b, n⟩ := by
  unfold splice hdV
  simp only [List.take_succ_cons, List.take_zero, vals_length, hq, List.cons_append, List.nil_append]
  rw [show 1 + 32 = 32 + 1 by rfl, List.drop_succ_cons, List.drop_append_of_le_length (by rw [vals_length, hp]; exact Nat.le_refl _), List.drop_of_length_le (by rw [vals_length, hp]; exact Nat.le_refl _), List.nil_append]
theorem set_nonce {v t b n k : Nat} {p r : List Nat} (hp : p.length = 32) (hr : r.length = 32) : (hdV ⟨v, p, r, t, b, n⟩).set 67 (.int .u32 (k : Nat)) = hdV ⟨v, p, r, t, b, k⟩ := by
  unfold hdV
  rw [List.set_cons_succ, List.set_append_right _ _ (by rw [vals_length, hp]; omega), vals_length, hp, List.set_append_right _ _ (by rw [vals_length, hr]; omega), vals_length, hr]
  rfl
end Go.Proofs.YtimjmmiajgfblaaGreatDoor

/- Mine of the document's answer: a header behind others with its work. No condition but the lengths. -/
namespace Go.Proofs.YtimjmmiajgfblaaGreatDoor
open Go.RowKit

theorem nextT_lt (p : Pm) (l : List Hd) : nextT p l < 115792089237316195423570985008687907853269984665640564039457584007913129639936 := by
  unfold nextT nextN
  have := tgtN_lt p.limit
  split
  · exact this
  · split <;> omega
theorem bitsS_lt (p : Pm) {l : List Hd} (hl : OkAll l) : bitsS p l < 4294967296 := by
  unfold bitsS
  split
  · omega
  · split
    · exact (nthH_ok hl _).b
    · exact compN_lt (nextT_lt p l)
theorem quiet_build {o : Oper} {a : Act} {D : World → Prop} {K : Act → Prop} (T : TypeId) (parts : Array (Nat × Operand)) (ho : o.op = .build T parts) {us : Array (Nat × Value)} {v : Value} (hx : (parts.map fun y => (y.1, a.eval y.2)) = us) (hrun : ∀ w, (Instr.build T us).run Tryz.prog w = .ok v w) (hk : K (a.put o.dst v)) : o.quiet Tryz.prog a D K :=
  ⟨v, fun w hw => by
    have hx' : (parts.map fun (x : Nat × Operand) => match x with | (i, x) => (i, a.eval x)) = us := hx
    unfold Oper.quietAt execOp
    simp only [ho, hx', Sem.run_bind, hrun w, Result.andThen_ok, Sem.run_pure]
    exact ⟨rfl, rfl⟩, hk⟩
theorem mineF_ok {h g : Hd} {t : Nat} (o : h.Ok) : ∀ (f n : Nat), n + f ≤ 4294967296 → mineF h t f n = some g → g.Ok
  | 0, _, _, e => by cases e
  | f + 1, n, hn, e => by
    rw [mineF] at e
    split at e
    · injection e with e
      subst e
      exact ⟨o.v, o.p, o.r, o.t, o.b, by show n < 4294967296; omega, o.pb, o.rb⟩
    · exact mineF_ok o f (n + 1) (by omega) e
/-- The header that comes with the answer, found or not. -/
def mineG (p : Pm) (l : List Hd) (time : Nat) (root : List Nat) (tries : Nat) : Hd :=
  match mineS p l time root tries with
  | some g => g
  | none => if Bg.okOf (bitsS p l) ∧ tries ≠ 0 then { baseH p l time root with n := tries - 1 } else baseH p l time root
theorem mineG_some {p : Pm} {l : List Hd} {time : Nat} {root : List Nat} {tries : Nat} {g : Hd} (h : mineS p l time root tries = some g) : mineG p l time root tries = g := by rw [mineG, h]
theorem mineG_none {p : Pm} {l : List Hd} {time : Nat} {root : List Nat} {tries : Nat} (h : mineS p l time root tries = none) : mineG p l time root tries = if Bg.okOf (bitsS p l) ∧ tries ≠ 0 then { baseH p l time root with n := tries - 1 } else baseH p l time root := by rw [mineG, h]
theorem pickG (bs : Hd) (k : Nat) (c : Prop) [Decidable c] (hc : c) : (if c ∧ k ≠ 0 then { bs with n := k - 1 } else bs) = ⟨bs.v, bs.p, bs.r, bs.t, bs.b, if k = 0 then bs.n else k - 1⟩ := by
  by_cases hz : k = 0
  · simp [hz]
  · simp [hz, hc]
/-- What a call of Mine keeps while it tries. -/
structure MnA (w : World) (sr sh st : Nat) (g : Hd) (t0 t1 t2 t3 : Nat) (wr : World) : Prop where
  a : Below w.heap.size w wr
  z : Ro wr sr 27 (hdV zeroH)
  h : Ro wr sh 27 (hdV g)
  t : BigB wr st t0 t1 t2 t3
  lz : w.heap.size ≤ sr
  lh : w.heap.size ≤ sh
  nz : sr ≠ sh
  nt : st ≠ sh
section
variable {w wr w1 : World} {sr sh st t0 t1 t2 t3 : Nat} {g g' : Hd}
theorem MnA.later (q : MnA w sr sh st g t0 t1 t2 t3 wr) (b : Below wr.heap.size wr w1) : MnA w sr sh st g t0 t1 t2 t3 w1 :=
  ⟨q.a.trans (b.mono q.a.size), q.z.later b, q.h.later b, q.t.later b, q.lz, q.lh, q.nz, q.nt⟩
end

set_option maxRecDepth 100000 in
set_option maxHeartbeats 8000000 in
theorem mine_any {p : Pm} {A B : Option Addr} {n c m d time tries : Nat} {l : List Hd} {root : List Nat} (w : World) (hP : PmR w p A n c) (h1 : 1 ≤ m) (hm : m ≤ 1000000) (hd : m ≤ d) (hL : Hs w B m l) (hr : root.length = 32) (hrb : AllB root) (ht : time < 4294967296) (hf : tries ≤ 1000) :
    Calls Tryz.prog 45 #[.agg (pmV p A n c).toArray, .slice B m d, .int .u32 (time : Nat), .agg (vals root).toArray, .int .u32 (tries : Nat)] w fun e w' => (∃ (g : Hd) (f : Bool), g.Ok ∧ e = .returned (.tuple #[.agg (hdV g).toArray, .bool f]) ∧ mineS p l time root tries = (if f then some g else none) ∧ mineG p l time root tries = g) ∧ Below w.heap.size w w' := by
  have HR := Lib.hid hr
  have HRB := Lib.hid hrb
  have HN := Lib.hid hL.len
  have lP := Lib.hid (pmV_len hP.ok.first A n c)
  have lr : Hid ((vals root).length = 32) := Lib.hid (by rw [vals_length, hr])
  have n0 := (Below.refl w.heap.size w).alloc (Nat.le_refl _) (.cells (pmV p A n c).toArray 29)
  have n1 := n0.alloc n0.size (.cells (vals root).toArray 25)
  have n2 := n1.alloc n1.size (.cells (hdV zeroH).toArray 27)
  have P2 := Lib.hid (((PmB.new hP).later ((Below.refl _ _).alloc (Nat.le_refl _) (.cells (vals root).toArray 25))).later ((Below.refl _ _).alloc (Nat.le_refl _) (.cells (hdV zeroH).toArray 27)))
  have R8 := (Ro.new (w.alloc (.cells (pmV p A n c).toArray 29)) 25 (vals root)).alloc (.cells (hdV zeroH).toArray 27)
  rw [World.size_alloc] at R8
  have R10 := Ro.new ((w.alloc (.cells (pmV p A n c).toArray 29)).alloc (.cells (vals root).toArray 25)) 27 (hdV zeroH)
  rw [World.size_alloc, World.size_alloc] at R10
  have HA := Lib.hid n2
  have HR8 := Lib.hid R8
  have HR10 := Lib.hid R10
  have HL := Lib.hid (hL.later n2)
  have HPR := Lib.hid (hP.later n2)
  have z0 := zeroHd
  have BM := build_mn time (bitsS p l) hr
  clear n0 n1 n2 R8 R10 hP hL hr hrb
  go_enter Tryz.func45, Tryz.ntmps45
  go_wp2_with fail
  generalize ((w.alloc (.cells (pmV p A n c).toArray 29)).alloc (.cells (vals root).toArray 25)).alloc (.cells (hdV zeroH).toArray 27) = w1 at P2 HA HR8 HR10 HL HPR ⊢
  have hsr : w.heap.size ≤ w.heap.size + 1 + 1 := by omega
  generalize w.heap.size + 1 + 1 = sr at HR10 hsr ⊢
  have HSR := Lib.hid hsr
  generalize w.heap.size + 1 = s8 at HR8 ⊢
  obtain ⟨s5, hs5⟩ : ∃ s5, w.heap.size = s5 := ⟨_, rfl⟩
  rw [hs5] at P2 ⊢
  have HS5 := Lib.hid hs5
  clear hsr hs5
  obtain ⟨bt, hbt⟩ : ∃ bt, bitsS p l = bt := ⟨_, rfl⟩
  rw [hbt] at BM
  have HBT := Lib.hid hbt
  obtain ⟨g0, hg0⟩ : ∃ g0 : Hd, ⟨1, List.replicate 32 0, root, time, bt, 0⟩ = g0 := ⟨_, rfl⟩
  rw [hg0] at BM
  have HG0 := Lib.hid hg0
  have HBM := Lib.hid BM
  clear hbt hg0
  refine wp_region_grow 6 (by kernel_rfl) (Nat.le_of_ble_eq_true (by kernel_rfl)) (by kernel_rfl) (by kernel_rfl) (fun _ _ _ _ _ h => h) ?_
  apply Exists.intro
  refine ⟨?_, ?_⟩
  · intro wg hg
    simp only [List.take_succ_cons, List.take_zero]
    have CB : Hid (∀ u : After wg, Calls Tryz.prog 13 #[.agg (pmV p A n c).toArray, .slice B m d] u.w fun e w' => e = .returned (.int .u32 (bt : Nat)) ∧ Below u.w.heap.size u.w w') := Lib.hid (fun u => by
      rw [← HBT.out]
      exact rbits_any u.w ((HPR.out.later hg).later u.below) hm hd ((HL.out.later hg).later u.below))
    go_big_quiet_want
    refine quiet_load_part (.tmp 8) rfl rfl row26 (fun w9 h9 => by obtain ⟨u, rfl⟩ := h9; exact rangeOf ((HR8.out.later hg).later u.below)) lr.out ?_
    simp only [Act.put, List.setIfInBounds_toArray, List.set_cons_succ, List.set_cons_zero]
    go_big_quiet_on
    repeat (go_big_quiet_step (fail))
    go_big_quiet_want
    refine quiet_load_part (.tmp 5) rfl rfl rowPm (fun w9 h9 => by obtain ⟨u, rfl⟩ := h9; exact rangeOf ((P2.out.ro.later hg).later u.below)) lP.out ?_
    simp only [Act.put, List.setIfInBounds_toArray, List.set_cons_succ, List.set_cons_zero]
    go_big_quiet_on
    repeat (go_big_quiet_step ((go_at_call 13; exact after_call (CB.out _))))
    go_big_quiet_want
    refine quiet_build 27 #[(0, .const (.int .u32 1)), (2, .tmp 16), (3, .tmp 17), (4, .tmp 20)] rfl (us := #[(0, .int .u32 1), (2, .agg (vals root).toArray), (3, .int .u32 (time : Int)), (4, .int .u32 (bt : Int))]) (by simp [go_sem]) HBM.out ?_
    simp only [Act.put, List.setIfInBounds_toArray, List.set_cons_succ, List.set_cons_zero]
    go_big_quiet_on
    refine wpQuiet_nil ?_
    exact rfl
  intro wg hg
  show wpK _ _ _ _ _ 2 _ _ _
  refine wpK_box1 (f := 1) (i := 6) (c := (hdV zeroH).toArray) (T := 27) (by kernel_rfl) rfl rfl rfl (fun w => by go_simp) hg ?_
  intro sh wh gh lh Hh
  refine wpK_one (f := 0) (i := 7) (by kernel_rfl) rfl rfl ?_
  intro wc gc K hK
  have o0 : Hid (g0.Ok) := Lib.hid (by rw [← HG0.out]; exact ⟨by show 1 < 4294967296; decide, z32_ok.1, HR.out, ht, by rw [← HBT.out]; exact bitsS_lt p HL.out.ok, by show 0 < 4294967296; decide, z32_ok.2, HRB.out⟩)
  have hb0 : Hid (bt < 4294967296) := Lib.hid (by rw [← HBT.out]; exact bitsS_lt p HL.out.ok)
  refine wp_store_ro (.tmp 12) (.tmp 21) rfl rfl rfl rowHd (show Ro wc sh 27 (hdV zeroH) from (Hh.later gc)) rfl (hdV_len o0.out) (hdV_one _) ?_
  intro wd Rd gd
  have gg := (hg.trans gh).trans gc
  have hsh : w1.heap.size ≤ sh := Nat.le_trans hg.size lh
  have ge : Grows w1 wd := Below.grown gg gd gg.size (fun q e => by injection e with e; subst e; exact hsh)
  refine hK _ _ ge ?_
  clear hK K
  simp only [Act.put, List.setIfInBounds_toArray, List.set_cons_succ, List.set_cons_zero]
  refine wpK_end (by kernel_rfl) ?_
  intro w2 gf
  have ge2 := ge.trans gf
  have HA2 := Lib.hid (HA.out.trans (Below.mono ge2 HA.out.size))
  have Rh := Lib.hid (Rd.later gf)
  have HZ := Lib.hid (HR10.out.later ge2)
  have HL2 := Lib.hid (HL.out.later ge2)
  have hns : Hid (sr ≠ sh) := Lib.hid (by have := HR10.out.lt; omega)
  have hws : Hid (w.heap.size ≤ sh) := Lib.hid (Nat.le_trans HA.out.size hsh)
  clear hg gh gc gd gg ge gf ge2 lh Hh hsh Rd HA HR10 HL HR8 P2 HPR HBM BM
  have q0 : ((m : Int) == 0) = false := by simp; omega
  obtain ⟨b, o, rfl, hb, _⟩ := HL2.out.cel (by omega)
  have ad := add_at b o
  obtain ⟨j1, hj1⟩ : ∃ j1, m - 1 = j1 := ⟨_, rfl⟩
  have y1 : IntKind.i64.wrap ((m : Int) - 1) = (j1 : Int) := by rw [IntWalk.i64_in _ (by omega)]; omega
  have jm : j1 < m := by omega
  have ok1 := Lib.hid (nthH_ok HL2.out.ok j1)
  have RG := Lib.hid ((HL2.out.at_ jm).2)
  have eL : Hid (lastH l = nthH l j1) := Lib.hid (by rw [lastH, HN.out, hj1])
  obtain ⟨h1', eh1⟩ : ∃ h1, nthH l j1 = h1 := ⟨_, rfl⟩
  rw [eh1] at ok1 eL RG
  have ll := Lib.hid (hdV_len ok1.out)
  clear eh1 hj1 hb
  go_wp2_with (refine wpList_load_part rfl (.tmp 30) rfl rfl rowHd RG.out ll.out ?_)
  refine (refId_any ok1.out _).mono ?_
  rintro e w3 ⟨rfl, hc⟩
  have HA3 := Lib.hid (HA2.out.trans (hc.mono HA2.out.size))
  have Rh3 := Lib.hid (Rh.out.later hc)
  have HZ3 := Lib.hid (HZ.out.later hc)
  clear hc HA2 Rh HZ HL2 RG y1 q0
  have l0 : Hid ((hdV g0).length = 68) := Lib.hid (hdV_len o0.out)
  have lI : Hid ((vals (idS h1')).length = 32) := Lib.hid (by rw [vals_length, idS_len])
  go_wp2_with (refine wpList_store_part rfl (.tmp 33) (.tmp 32) rfl rfl rfl row26 Rh3.out (by rw [l0.out]; decide) lI.out (vals_one _) ?_)
  intro w4 R4 g4
  rw [← HG0.out, splice_prev z32_ok.1 (idS_len h1')] at R4
  have HA4 := Lib.hid (HA3.out.grown g4 HA3.out.size (fun q e => by injection e with e; subst e; exact hws.out))
  have HZ4 := Lib.hid (HZ3.out.far g4 (fun e => by injection e with e; exact hns.out e))
  have R4q := Lib.hid R4
  have okb : Hid ((baseH p l time root).Ok) := Lib.hid ⟨by show 1 < 4294967296; decide, idS_len _, HR.out, ht, by show bitsS p l < _; rw [HBT.out]; exact hb0.out, by show 0 < 4294967296; decide, idS_byt _, HRB.out⟩
  have eB : Hid (baseH p l time root = ⟨1, idS h1', root, time, bt, 0⟩) := Lib.hid (by rw [baseH, eL.out, HBT.out])
  rw [← eB.out] at R4q
  obtain ⟨t0, t1, t2, t3, wt, et, _, CT⟩ := of_words bt hb0.out
  have HCT := Lib.hid CT
  have HWT := Lib.hid wt
  have HET := Lib.hid et
  have cb : w4.cell? ⟨sh, 66, none⟩ = some (.int .u32 (bt : Nat)) := by rw [← HBT.out]; exact R4q.out.cell (hdV_no okb.out (k := 2) (by decide))
  clear g4 R4 HA3 HZ3 Rh3 CT wt et
  go_wp2_with fail
  refine (HCT.out _).mono ?_
  rintro e w5 ⟨rfl, hc⟩
  have n6 := (Below.refl w5.heap.size w5).alloc (Nat.le_refl _) (.cells #[.int .u64 (t0 : Nat), .int .u64 (t1 : Nat), .int .u64 (t2 : Nat), .int .u64 (t3 : Nat)] 51)
  have Bt : BigB (w5.alloc (.cells #[.int .u64 (t0 : Nat), .int .u64 (t1 : Nat), .int .u64 (t2 : Nat), .int .u64 (t3 : Nat)] 51)) w5.heap.size t0 t1 t2 t3 := ⟨Ro.new _ _ _⟩
  have A5 := HA4.out.trans (hc.mono HA4.out.size)
  have R5 := R4q.out.later hc
  have N6 : MnA w sr sh w5.heap.size (baseH p l time root) t0 t1 t2 t3 (w5.alloc (.cells #[.int .u64 (t0 : Nat), .int .u64 (t1 : Nat), .int .u64 (t2 : Nat), .int .u64 (t3 : Nat)] 51)) := ⟨A5.trans (n6.mono A5.size), (HZ4.out.later hc).later n6, R5.later n6, Bt, HSR.out, hws.out, hns.out, by have := R5.lt; omega⟩
  have HN6 := Lib.hid N6
  clear n6 Bt A5 R5 N6 hc HA4 HZ4 R4q cb HCT
  have em : Hid (l.length ≠ 0) := Lib.hid (by rw [HN.out]; omega)
  by_cases hok : Bg.okOf bt
  · rw [decide_eq_true hok]
    have eM : Hid (mineS p l time root tries = mineF (baseH p l time root) (tgtN bt) tries 0) := Lib.hid (by rw [mineS, if_neg em.out, HBT.out, if_pos hok])
    have HOK := Lib.hid hok
    clear hok
    obtain ⟨bs, hbs⟩ : ∃ bs, baseH p l time root = bs := ⟨_, rfl⟩
    rw [hbs] at HN6 okb eM
    have EBS := Lib.hid hbs
    clear hbs eB
    go_wp2_with fail
    generalize (w5.alloc (.cells #[.int .u64 (t0 : Nat), .int .u64 (t1 : Nat), .int .u64 (t2 : Nat), .int .u64 (t3 : Nat)] 51)) = w6 at HN6 ⊢
    generalize w5.heap.size = st at HN6 ⊢
    go_loopw [15] (fun i wr => ∃ k q : Nat, k ≤ tries ∧ i = .int .u32 (k : Nat) ∧ MnA w sr sh st ⟨bs.v, bs.p, bs.r, bs.t, bs.b, q⟩ t0 t1 t2 t3 wr ∧ q < 4294967296 ∧ Hid (q = if k = 0 then bs.n else k - 1) ∧ Hid (mineF bs (tgtN bt) tries 0 = mineF bs (tgtN bt) (tries - k) k)) (fun i _ => tries - (intOf i).toNat)
    case atStart => exact ⟨0, bs.n, Nat.zero_le _, rfl, HN6.out, okb.out.n, Lib.hid rfl, Lib.hid rfl⟩
    case round =>
      obtain ⟨k, q, hk, rfl, I, hq, EQ, EF⟩ := hrel
      have HI := Lib.hid I
      clear I HN6
      by_cases hlt : k < tries
      · have okk : Hid (Hd.Ok ⟨bs.v, bs.p, bs.r, bs.t, bs.b, k⟩) := Lib.hid ⟨okb.out.v, okb.out.p, okb.out.r, okb.out.t, okb.out.b, by show k < 4294967296; omega, okb.out.pb, okb.out.rb⟩
        have okq : Hid (Hd.Ok ⟨bs.v, bs.p, bs.r, bs.t, bs.b, q⟩) := Lib.hid ⟨okb.out.v, okb.out.p, okb.out.r, okb.out.t, okb.out.b, hq, okb.out.pb, okb.out.rb⟩
        have c67 := HI.out.h.cell (hdV_no okq.out (k := 3) (by decide))
        replace c67 : wr.cell? ⟨sh, 67, none⟩ = some (.int .u32 (q : Nat)) := c67
        have f67 := HI.out.h.free 67
        have es := set_nonce (v := bs.v) (t := bs.t) (b := bs.b) (n := q) (k := k) okb.out.p okb.out.r
        have J1 : MnA w sr sh st ⟨bs.v, bs.p, bs.r, bs.t, bs.b, k⟩ t0 t1 t2 t3 (wr.setCell ⟨sh, 67, none⟩ (.int .u32 (k : Nat))) := ⟨HI.out.a.setCell HI.out.lh _, HI.out.z.other HI.out.nz _, by rw [← es]; exact HI.out.h.set 67 _, ⟨HI.out.t.ro.other HI.out.nt _⟩, HI.out.lz, HI.out.lh, HI.out.nz, HI.out.nt⟩
        have HJ := Lib.hid J1
        clear J1 es
        have eS : Hid (mineF bs (tgtN bt) (tries - k) k = if meetsN (idS ⟨bs.v, bs.p, bs.r, bs.t, bs.b, k⟩) (tgtN bt) = true then some ⟨bs.v, bs.p, bs.r, bs.t, bs.b, k⟩ else mineF bs (tgtN bt) (tries - (k + 1)) (k + 1)) := Lib.hid (by
          obtain ⟨f, hf⟩ : ∃ f, tries - k = f + 1 := ⟨tries - k - 1, by omega⟩
          rw [hf, show tries - (k + 1) = f by omega, mineF])
        obtain ⟨gk, hgk⟩ : ∃ gk : Hd, ⟨bs.v, bs.p, bs.r, bs.t, bs.b, k⟩ = gk := ⟨_, rfl⟩
        rw [hgk] at okk HJ eS
        have HGK := Lib.hid hgk
        have lk := Lib.hid (hdV_len okk.out)
        clear hgk okq
        go_wp2_with fail
        generalize (wr.setCell ⟨sh, 67, none⟩ (.int .u32 (k : Nat))) = w7 at HJ ⊢
        clear c67 f67 HI
        obtain ⟨r, hr⟩ : ∃ r, meetsN (idS gk) (tgtN bt) = r := ⟨_, rfl⟩
        have HCI : Hid (∀ u : After w7, Calls Tryz.prog 22 #[.agg (hdV gk).toArray] u.w fun e w' => e = .returned (.agg (vals (idS gk)).toArray) ∧ Below u.w.heap.size u.w w') := Lib.hid (fun u => refId_any okk.out u.w)
        have HCM : Hid (∀ u : After w7, Calls Tryz.prog 44 #[.agg (vals (idS gk)).toArray, .agg #[.int .u64 (t0 : Nat), .int .u64 (t1 : Nat), .int .u64 (t2 : Nat), .int .u64 (t3 : Nat)]] u.w fun e w' => e = .returned (.bool r) ∧ Below u.w.heap.size u.w w') := Lib.hid (fun u => by
          have := rmeets_any (idS_len gk) (idS_byt gk) HWT.out u.w
          rw [HET.out, hr] at this
          exact this)
        rw [hr] at eS
        clear hr
        have u0 : ∀ u : After w7, u.w.cell? ⟨st, 0, none⟩ = some (.int .u64 (t0 : Nat)) := fun u => (HJ.out.t.later u.below).c0
        have u1 : ∀ u : After w7, u.w.cell? ⟨st, 1, none⟩ = some (.int .u64 (t1 : Nat)) := fun u => (HJ.out.t.later u.below).c1
        have u2 : ∀ u : After w7, u.w.cell? ⟨st, 2, none⟩ = some (.int .u64 (t2 : Nat)) := fun u => (HJ.out.t.later u.below).c2
        have u3 : ∀ u : After w7, u.w.cell? ⟨st, 3, none⟩ = some (.int .u64 (t3 : Nat)) := fun u => (HJ.out.t.later u.below).c3
        refine wp_region_after (by kernel_rfl) (by kernel_rfl) ?_
        go_big_quiet_want
        refine quiet_load_part (.tmp 12) rfl rfl rowHd (fun w9 h9 => by obtain ⟨u, rfl⟩ := h9; exact rangeOf (HJ.out.h.later u.below)) lk.out ?_
        simp only [Act.put, List.setIfInBounds_toArray, List.set_cons_succ, List.set_cons_zero]
        go_big_quiet_on
        repeat (go_big_quiet_step ((first | (go_at_call 22; exact after_call (HCI.out _)) | (go_at_call 44; exact after_call (HCM.out _)))))
        refine wpQuiet_nil ?_
        rintro _ ⟨u, rfl⟩
        have HJ2 := Lib.hid (HJ.out.later u.below)
        clear u0 u1 u2 u3 HCI HCM HJ
        cases r with
        | true =>
          go_wp2_with (first | (refine wpList_load_ro rfl (.tmp 12) rfl rfl rowHd HJ2.out.h (hdV_len okk.out) ?_) | (refine wpList_store_ro rfl (.tmp 10) (.tmp 54) rfl rfl rfl rowHd HJ2.out.z rfl (hdV_len okk.out) (hdV_one _) ?_))
          intro w12 R12 g12
          go_wp2_with (exact bodyPost_ret (results_ro2 Tryz.results45 _ rfl rowHd R12 (hdV_len okk.out) rfl) rfl ⟨⟨_, _, okk.out, rfl, by rw [eM.out, EF.out, eS.out]; rfl, mineG_some (by rw [eM.out, EF.out, eS.out]; rfl)⟩, HJ2.out.a.grown g12 HJ2.out.a.size (fun q e => by injection e with e; subst e; exact HJ2.out.lz)⟩)
        | false =>
          go_wp2_with fail
          exact ⟨⟨k + 1, k, by omega, by go_num, HGK.out ▸ HJ2.out, by omega, Lib.hid (by simp), Lib.hid (by rw [EF.out, eS.out]; rfl)⟩, by simp [intOf]; omega⟩
      · obtain rfl : k = tries := by omega
        have okq : Hid (Hd.Ok ⟨bs.v, bs.p, bs.r, bs.t, bs.b, q⟩) := Lib.hid ⟨okb.out.v, okb.out.p, okb.out.r, okb.out.t, okb.out.b, hq, okb.out.pb, okb.out.rb⟩
        go_wp2_with (first | (refine wpList_load_ro rfl (.tmp 12) rfl rfl rowHd HI.out.h (hdV_len okq.out) ?_) | (refine wpList_store_ro rfl (.tmp 10) (.tmp 55) rfl rfl rfl rowHd HI.out.z rfl (hdV_len okq.out) (hdV_one _) ?_))
        intro w12 R12 g12
        go_wp2_with (exact bodyPost_ret (results_ro2 Tryz.results45 _ rfl rowHd R12 (hdV_len okq.out) rfl) rfl ⟨⟨_, _, okq.out, rfl, by rw [eM.out, EF.out, Nat.sub_self]; rfl, by rw [mineG_none (by rw [eM.out, EF.out, Nat.sub_self]; rfl), EBS.out, HBT.out, EQ.out]; exact pickG bs k _ HOK.out⟩, HI.out.a.grown g12 HI.out.a.size (fun q e => by injection e with e; subst e; exact HI.out.lz)⟩)
  · rw [decide_eq_false hok]
    have eM : Hid (mineS p l time root tries = none) := Lib.hid (by rw [mineS, if_neg em.out, HBT.out, if_neg hok])
    have HOK := Lib.hid hok
    clear hok
    go_wp2_with fail
    generalize (w5.alloc (.cells #[.int .u64 (t0 : Nat), .int .u64 (t1 : Nat), .int .u64 (t2 : Nat), .int .u64 (t3 : Nat)] 51)) = w6 at HN6 ⊢
    generalize w5.heap.size = st at HN6 ⊢
    refine wp_loop_rounds 1 ?_
    rw [rounds_succ]
    go_wp2_with (first | (refine wpList_load_ro rfl (.tmp 12) rfl rfl rowHd HN6.out.h (hdV_len okb.out) ?_) | (refine wpList_store_ro rfl (.tmp 10) (.tmp 55) rfl rfl rfl rowHd HN6.out.z rfl (hdV_len okb.out) (hdV_one _) ?_))
    intro w12 R12 g12
    go_wp2_with (exact bodyPost_ret (results_ro2 Tryz.results45 _ rfl rowHd R12 (hdV_len okb.out) rfl) rfl ⟨⟨_, _, okb.out, rfl, by rw [eM.out]; rfl, by rw [mineG_none eM.out, HBT.out, if_neg (fun q => HOK.out q.1)]⟩, HN6.out.a.grown g12 HN6.out.a.size (fun q e => by injection e with e; subst e; exact HN6.out.lz)⟩)
theorem mine_det {p : Pm} {A B : Option Addr} {n c m d time tries : Nat} {l : List Hd} {root : List Nat} (w : World) (hP : PmR w p A n c) (h1 : 1 ≤ m) (hm : m ≤ 1000000) (hd : m ≤ d) (hL : Hs w B m l) (hr : root.length = 32) (hrb : AllB root) (ht : time < 4294967296) (hf : tries ≤ 1000) :
    Calls Tryz.prog 45 #[.agg (pmV p A n c).toArray, .slice B m d, .int .u32 (time : Nat), .agg (vals root).toArray, .int .u32 (tries : Nat)] w fun e w' => e = .returned (.tuple #[.agg (hdV (mineG p l time root tries)).toArray, .bool (mineS p l time root tries).isSome]) ∧ Below w.heap.size w w' := by
  refine (mine_any w hP h1 hm hd hL hr hrb ht hf).mono fun e w' ⟨⟨g, f, _, he, hs, hg⟩, hb⟩ => ⟨?_, hb⟩
  rw [he, hg, hs]
  cases f <;> rfl
theorem mineG_ok {p : Pm} {time tries : Nat} {l : List Hd} {root : List Nat} (ok : (baseH p l time root).Ok) (hf : tries ≤ 1000) : (mineG p l time root tries).Ok := by
  have hb : ∀ k, k < 4294967296 → Hd.Ok { baseH p l time root with n := k } := fun k hk => ⟨ok.v, ok.p, ok.r, ok.t, ok.b, hk, ok.pb, ok.rb⟩
  cases h : mineS p l time root tries with
  | some g =>
    rw [mineG_some h]
    unfold mineS at h
    split at h
    · cases h
    · split at h
      · exact mineF_ok ok tries 0 (by omega) h
      · cases h
  | none =>
    rw [mineG_none h]
    split
    · exact hb _ (by omega)
    · exact ok
end Go.Proofs.YtimjmmiajgfblaaGreatDoor

/- Chain of the document's answer: headers mined one behind the other. No condition but the lengths. -/
namespace Go.Proofs.YtimjmmiajgfblaaGreatDoor
open Go.RowKit

theorem OwnH.lit {w0 w : World} {h : Hd} (o : h.Ok) (b : Below w0.heap.size w0 w) : OwnH w0 (.slice (some ⟨w.heap.size, 0, none⟩) 1 1) 1 [h] (w.alloc (.cells (hdV h).toArray 27)) :=
  ⟨⟨by rw [hsV_one, hdV_len o], .inr ⟨w.heap.size, 1, (hdV h).toArray, rfl, b.size, heap_alloc_new w _, Nat.le_refl _, by unfold maxLen; omega, by simp [hdV_len o], by simp only [hsV_one]; exact List.take_of_length_le (by simp [hdV_len o])⟩⟩, okAll_one o, b.alloc b.size _⟩
theorem build_root (i s : Nat) (w : World) : (Instr.build 25 #[(0, .int .u8 (i : Int)), (1, .int .u8 (s : Int))]).run Tryz.prog w = .ok (.agg (vals (i :: s :: List.replicate 30 0)).toArray) w := by kernel_rfl
theorem chainF_none {p : Pm} {l : List Hd} {k s : Nat} {t : List Nat} (h : mineS p l ((medS l + 1 + s) % 4294967296) (rootS k s) 200 = none) : chainF p l k (s :: t) = l := by rw [chainF, h]
theorem chainF_some {p : Pm} {l : List Hd} {k s : Nat} {t : List Nat} {g : Hd} (h : mineS p l ((medS l + 1 + s) % 4294967296) (rootS k s) 200 = some g) : chainF p l k (s :: t) = chainF p (l ++ [g]) (k + 1) t := by rw [chainF, h]

set_option maxRecDepth 100000 in
set_option maxHeartbeats 8000000 in
theorem chain_any {p : Pm} {A B : Option Addr} {n c k d : Nat} {L : List Nat} (w : World) (hP : PmR w p A n c) (hk : k ≤ 40) (hL : Bs w B k L) :
    Calls Tryz.prog 19 #[.agg (pmV p A n c).toArray, .slice B k d] w fun e w' => ∃ C m f, e = .returned (.slice C m f) ∧ OwnH w (.slice C m f) m (chainS p L) w' ∧ m ≤ k + 1 ∧ 1 ≤ m := by
  have B0 := Lib.hid (PmB.new hP)
  have HA := Lib.hid ((Below.refl w.heap.size w).alloc (Nat.le_refl _) (.cells (pmV p A n c).toArray 29))
  have HL := Lib.hid hL
  have HN := Lib.hid hL.len
  have HB := Lib.hid hL.byt
  have okf := Lib.hid hP.ok.first
  have RF := Lib.hid B0.out.first
  have lF := Lib.hid (hdV_len hP.ok.first)
  have lP := Lib.hid (pmV_len hP.ok.first A n c)
  have O1 := Lib.hid (OwnH.lit (w0 := w.alloc (.cells (pmV p A n c).toArray 29)) hP.ok.first (Below.refl _ _))
  have HPR := Lib.hid hP
  have B1 := Lib.hid (B0.out.later ((Below.refl _ _).alloc (Nat.le_refl _) (.cells (hdV p.first).toArray 27)))
  clear hP hL
  go_enter Tryz.func19, Tryz.ntmps19
  go_wp2_with (first | (refine wpList_load_part rfl (.tmp 9) rfl rfl rowHd RF.out lF.out ?_) | (refine wpList_litH rfl (.tmp 10) rfl rfl lF.out ?_))
  have hsz : (w.alloc (.cells (pmV p A n c).toArray 29)).heap.size = w.heap.size + 1 := World.size_alloc _ _
  have R1 := Lib.hid B1.out.ro
  clear B0 RF B1
  generalize (w.alloc (.cells (pmV p A n c).toArray 29)) = wb at O1 HA R1 hsz ⊢
  have HSZ := Lib.hid hsz
  generalize (wb.alloc (.cells (hdV p.first).toArray 27)) = w1 at O1 R1 ⊢
  rw [hsz] at O1
  clear hsz
  go_loopw [5, 6] (fun v i wr => ∃ j : Nat, j ≤ k ∧ i = .int .i64 (j : Nat) ∧ ∃ C f l, v = .slice C (j + 1) f ∧ OwnH wb (.slice C (j + 1) f) (j + 1) l wr ∧ Hid (chainS p L = chainF p l j (L.drop j)) ∧ Ro wr w.heap.size 29 (pmV p A n c)) (fun _ i _ => k - (intOf i).toNat)
  case atStart => exact ⟨0, Nat.zero_le _, rfl, _, _, _, rfl, O1.out, Lib.hid (by rw [List.drop_zero]; rfl), R1.out⟩
  case round =>
    clear O1 R1
    obtain ⟨j, hj, rfl, C, f, l, rfl, O, EC, PB⟩ := hrel
    have HO := Lib.hid O
    have bw := HA.out.trans (O.bel.mono HA.out.size)
    have HBW := Lib.hid bw
    have HP : Hid (PmB wr w.heap.size p A n c) := Lib.hid ⟨PB, HPR.out.later bw⟩
    clear O PB bw
    by_cases hlt : j < k
    · obtain ⟨a, rfl, hab, hcel⟩ := HL.out.cel (by omega)
      have hx := hcel j hlt
      have hsb : nth L j < 256 := nth_lt HB.out j
      have ed := Lib.hid (drop_nth (A := L) (j := j) (by rw [HN.out]; exact hlt))
      obtain ⟨s, hs⟩ : ∃ s, nth L j = s := ⟨_, rfl⟩
      rw [hs] at hx hsb ed
      rw [ed.out] at EC
      clear hs ed hcel
      obtain ⟨md, hmd⟩ : ∃ md, medS l = md := ⟨_, rfl⟩
      have HMD := Lib.hid hmd
      clear hmd
      have y1 : IntKind.u32.wrap ((md : Int) + 1) = (((md + 1) % 4294967296 : Nat) : Int) := rfl
      obtain ⟨e1, he1⟩ : ∃ e1, (md + 1) % 4294967296 = e1 := ⟨_, rfl⟩
      rw [he1] at y1
      have y2 : IntKind.u32.wrap ((e1 : Int) + (s : Int)) = (((e1 + s) % 4294967296 : Nat) : Int) := rfl
      obtain ⟨tm, htm⟩ : ∃ tm, (e1 + s) % 4294967296 = tm := ⟨_, rfl⟩
      rw [htm] at y2
      have ETM : Hid ((md + 1 + s) % 4294967296 = tm) := Lib.hid (by rw [← htm, ← he1]; omega)
      have htl : tm < 4294967296 := by omega
      clear he1 htm
      have hr32 : (j :: s :: List.replicate 30 0).length = 32 := by simp
      have hrb : AllB (j :: s :: List.replicate 30 0) := fun x hx => by
        simp only [List.mem_cons] at hx
        rcases hx with rfl | rfl | hx
        · omega
        · exact hsb
        · rw [List.eq_of_mem_replicate hx]; decide
      have ERT : Hid (rootS j s = j :: s :: List.replicate 30 0) := Lib.hid (by rw [rootS, Nat.mod_eq_of_lt (by omega)])
      obtain ⟨rt, hrt⟩ : ∃ rt, j :: s :: List.replicate 30 0 = rt := ⟨_, rfl⟩
      rw [hrt] at hr32 hrb ERT
      have HRT := Lib.hid hrt
      clear hrt
      have z0 := zeroHd
      have jl : j + 1 ≤ 41 := by omega
      have HCO := Lib.hid HO.out.cap
      have HHS := Lib.hid HO.out.reads
      go_wp2_with fail
      refine wp_region_grow 22 (by kernel_rfl) (Nat.le_of_ble_eq_true (by kernel_rfl)) (by kernel_rfl) (by kernel_rfl) (fun _ _ _ _ _ h => h) ?_
      have okb : Hid ((baseH p l tm rt).Ok) := Lib.hid ⟨by show 1 < 4294967296; decide, idS_len _, hr32, htl, bitsS_lt p HO.out.ok, by show 0 < 4294967296; decide, idS_byt _, hrb⟩
      have okg := Lib.hid (mineG_ok (tries := 200) okb.out (by omega))
      obtain ⟨g, hg⟩ : ∃ g, mineG p l tm rt 200 = g := ⟨_, rfl⟩
      obtain ⟨fl, hfl⟩ : ∃ fl, (mineS p l tm rt 200).isSome = fl := ⟨_, rfl⟩
      have HG := Lib.hid hg
      have HF := Lib.hid hfl
      rw [hg] at okg
      have HR32 := Lib.hid hr32
      have HRB := Lib.hid hrb
      clear hg hfl hr32 hrb
      apply Exists.intro
      refine ⟨?_, ?_⟩
      · intro wg hg
        simp only [List.take_succ_cons, List.take_zero]
        have CMd : Hid (∀ u : After wg, Calls Tryz.prog 15 #[.slice C (j + 1) f] u.w fun e w' => e = .returned (.int .u32 (md : Nat)) ∧ Below u.w.heap.size u.w w') := Lib.hid (fun u => by
          rw [← HMD.out]
          exact rmedian_any u.w (by omega) ((HHS.out.later hg).later u.below))
        have CMi : Hid (∀ u : After wg, Calls Tryz.prog 45 #[.agg (pmV p A n c).toArray, .slice C (j + 1) f, .int .u32 (tm : Nat), .agg #[.int .u8 (j : Nat), .int .u8 (s : Nat), .int .u8 0, .int .u8 0, .int .u8 0, .int .u8 0, .int .u8 0, .int .u8 0, .int .u8 0, .int .u8 0, .int .u8 0, .int .u8 0, .int .u8 0, .int .u8 0, .int .u8 0, .int .u8 0, .int .u8 0, .int .u8 0, .int .u8 0, .int .u8 0, .int .u8 0, .int .u8 0, .int .u8 0, .int .u8 0, .int .u8 0, .int .u8 0, .int .u8 0, .int .u8 0, .int .u8 0, .int .u8 0, .int .u8 0, .int .u8 0], .int .u32 200] u.w fun e w' => e = .returned (.tuple #[.agg (hdV g).toArray, .bool fl]) ∧ Below u.w.heap.size u.w w') := Lib.hid (fun u => by
          rw [← HG.out, ← HF.out]
          have h := mine_det (tries := 200) u.w ((HP.out.r.later hg).later u.below) (by omega) (by omega) HCO.out ((HHS.out.later hg).later u.below) HR32.out HRB.out htl (by omega)
          have e : (vals rt).toArray = #[.int .u8 (j : Nat), .int .u8 (s : Nat), .int .u8 0, .int .u8 0, .int .u8 0, .int .u8 0, .int .u8 0, .int .u8 0, .int .u8 0, .int .u8 0, .int .u8 0, .int .u8 0, .int .u8 0, .int .u8 0, .int .u8 0, .int .u8 0, .int .u8 0, .int .u8 0, .int .u8 0, .int .u8 0, .int .u8 0, .int .u8 0, .int .u8 0, .int .u8 0, .int .u8 0, .int .u8 0, .int .u8 0, .int .u8 0, .int .u8 0, .int .u8 0, .int .u8 0, .int .u8 0] := by rw [← HRT.out]; rfl
          rw [e] at h
          exact h)
        have ux : ∀ u : After wg, u.w.cell? (a.add j) = some (.int .u8 (s : Nat)) := fun u => by
          rw [← hx]
          exact (HBW.out.trans ((Below.trans hg (u.below.mono hg.size)).mono HBW.out.size)).cell (by rw [add_block]; exact hab)
        go_big_quiet_want
        refine quiet_load_part (.tmp 2) rfl rfl rowPm (fun w9 h9 => by obtain ⟨u, rfl⟩ := h9; exact rangeOf ((HP.out.ro.later hg).later u.below)) lP.out ?_
        simp only [Act.put, List.setIfInBounds_toArray, List.set_cons_succ, List.set_cons_zero]
        go_big_quiet_on
        repeat (go_big_quiet_step ((go_at_call 15; exact after_call (CMd.out _))))
        repeat (go_big_quiet_step ((go_at_call 45; exact after_call (CMi.out _))))
        refine wpQuiet_nil ?_
        exact rfl
      intro wg hg
      show wpK _ _ _ _ _ 3 _ _ _
      refine wpK_box1 (f := 2) (i := 22) (c := (hdV zeroH).toArray) (T := 27) (by kernel_rfl) rfl rfl rfl (fun w => by go_simp) hg ?_
      intro sh wh gh lh Hh
      refine wpK_one (f := 1) (i := 23) (by kernel_rfl) rfl rfl ?_
      intro wc gc K hK
      have lg := Lib.hid (hdV_len okg.out)
      refine wp_store_ro (.tmp 7) (.tmp 38) rfl rfl rfl rowHd (show Ro wc sh 27 (hdV zeroH) from (Hh.later gc)) rfl lg.out (hdV_one _) ?_
      intro wd Rd gd
      have gg := (hg.trans gh).trans gc
      have hsh : wr.heap.size ≤ sh := Nat.le_trans hg.size lh
      have ge : Grows wr wd := Below.grown gg gd gg.size (fun q e => by injection e with e; subst e; exact hsh)
      refine hK _ _ ge ?_
      clear hK K
      simp only [Act.put, List.setIfInBounds_toArray, List.set_cons_succ, List.set_cons_zero]
      refine wpK_one (f := 0) (i := 24) (by kernel_rfl) rfl rfl ?_
      intro we gx K hK
      go_simp
      have ge1 := ge.trans gx
      refine hK _ _ ge1 ?_
      clear hK K
      refine wpK_end (by kernel_rfl) ?_
      intro w2 gf
      have ge2 := ge1.trans gf
      have Rh := Lib.hid ((Rd.later gx).later gf)
      have HO2 := Lib.hid (HO.out.later ge2)
      have HP2 := Lib.hid (HP.out.later ge2)
      clear hg gh gc gd gg ge ge1 gx gf ge2 lh Hh hsh Rd HO HP z0 hx y1 y2 HHS
      cases fl with
      | false =>
        go_wp2_with fail
        go_ret
        have e := EC.out
        rw [chainF_none (by rw [HMD.out, ETM.out, ERT.out]; exact Option.not_isSome_iff_eq_none.1 (by rw [HF.out]; simp))] at e
        exact ⟨_, _, _, rfl, by rw [e]; exact HO2.out.weaken HA.out, by omega, by omega⟩
      | true =>
        have O3 := Lib.hid (HO2.out.later ((Below.refl _ _).alloc (Nat.le_refl _) (.cells (hdV g).toArray 27)))
        have R3 := Lib.hid (Ro.new w2 27 (hdV g))
        have P3 := Lib.hid (HP2.out.later ((Below.refl _ _).alloc (Nat.le_refl _) (.cells (hdV g).toArray 27)))
        have sz : (w2.alloc (.cells (hdV g).toArray 27)).heap.size = w2.heap.size + 1 := World.size_alloc _ _
        clear HO2 HP2
        go_wp2_with (first | (refine wpList_load_ro rfl (.tmp 7) rfl rfl rowHd Rh.out lg.out ?_) | (refine wpList_litH rfl (.tmp 44) rfl rfl lg.out ?_) | (at_builtin; refine wpList_appH rfl (.tmp 43) (.tmp 45) rfl rfl O3.out rfl okg.out R3.out (by omega) ?_))
        intro A6 c6 w6 hc6 O6 g6
        have HO6 := Lib.hid O6
        have HP6 : Hid (Ro w6 w.heap.size 29 (pmV p A n c)) := Lib.hid (P3.out.ro.far g6 (fun e => by have := O3.out.new _ e.symm; have := HSZ.out; omega))
        clear O6 g6
        go_wp2_with fail
        have e := EC.out
        rw [chainF_some (g := g) (by rw [HMD.out, ETM.out, ERT.out]; have h1 := HF.out; obtain ⟨g', h2⟩ := Option.isSome_iff_exists.1 h1; rw [h2, ← HG.out, mineG_some h2])] at e
        exact ⟨⟨j + 1, by omega, by go_num, _, _, _, rfl, HO6.out, Lib.hid e, HP6.out⟩, by simp [intOf]; omega⟩
    · obtain rfl : j = k := by omega
      go_wp2_with fail
      go_ret
      have e := EC.out
      rw [List.drop_of_length_le (by rw [HN.out]; exact Nat.le_refl _), chainF] at e
      exact ⟨_, _, _, rfl, by rw [e]; exact HO.out.weaken HA.out, Nat.le_refl _, by omega⟩
end Go.Proofs.YtimjmmiajgfblaaGreatDoor

/- The chapter's example, reckoned: the chain of two steps, the work asked for, medians, and which header stands. No memory. No condition. -/
namespace Go.Proofs.YtimjmmiajgfblaaGreatDoor
set_option maxRecDepth 1000000

def exA : Hd := ⟨1, [0, 0, 0, 0, 0, 0, 0, 0, 0, 0, 0, 0, 0, 0, 0, 0, 0, 0, 0, 0, 0, 0, 0, 0, 0, 0, 0, 0, 0, 0, 0, 0], [0, 0, 0, 0, 0, 0, 0, 0, 0, 0, 0, 0, 0, 0, 0, 0, 0, 0, 0, 0, 0, 0, 0, 0, 0, 0, 0, 0, 0, 0, 0, 0], 1000, 545259519, 0⟩
def exB : Hd := ⟨1, [61, 203, 117, 189, 137, 197, 20, 104, 21, 221, 192, 209, 215, 49, 76, 183, 70, 25, 253, 247, 43, 253, 106, 115, 55, 132, 161, 91, 255, 182, 29, 187], [0, 1, 0, 0, 0, 0, 0, 0, 0, 0, 0, 0, 0, 0, 0, 0, 0, 0, 0, 0, 0, 0, 0, 0, 0, 0, 0, 0, 0, 0, 0, 0], 1002, 545259519, 2⟩
def exC : Hd := ⟨1, [2, 88, 234, 164, 255, 71, 47, 157, 146, 101, 136, 58, 143, 236, 2, 59, 147, 241, 27, 98, 227, 165, 174, 158, 61, 176, 55, 233, 0, 253, 7, 37], [1, 2, 0, 0, 0, 0, 0, 0, 0, 0, 0, 0, 0, 0, 0, 0, 0, 0, 0, 0, 0, 0, 0, 0, 0, 0, 0, 0, 0, 0, 0, 0], 1005, 545259519, 1⟩
theorem ex_may : mayS (easyS 4 10) = true := by decide +kernel
theorem ex_b3 : bitsS (easyS 4 10) (tmHs [0, 1, 2]) = 545259519 := by decide +kernel
theorem ex_b4 : bitsS (easyS 4 10) (tmHs [0, 1, 2, 3]) = 538968063 := by decide +kernel
theorem ex_med : medS (tmHs [5, 1, 9, 7]) = 7 := by decide +kernel
theorem ex_chain : chainS (easyS 4 10) [1, 2] = [exA, exB, exC] := by decide +kernel
theorem ex_right : rightS (easyS 4 10) [exA, exB] exC = 0 := by decide +kernel
theorem ex_bad : rightS (easyS 4 10) [exA, exB] { exC with p := 1 :: List.replicate 31 0 } = 9 := by decide +kernel
end Go.Proofs.YtimjmmiajgfblaaGreatDoor

/- The chapter's example holds: the statements' anchor. No condition but that the tables lie as laid. -/
namespace Go.Proofs.YtimjmmiajgfblaaGreatDoor
open Go.RowKit

theorem exA_ok : exA.Ok := ⟨by decide, by decide, by decide, by decide, by decide, by decide, by unfold AllB; decide, by unfold AllB; decide⟩
theorem exB_ok : exB.Ok := ⟨by decide, by decide, by decide, by decide, by decide, by decide, by unfold AllB; decide, by unfold AllB; decide⟩
theorem exC_ok : exC.Ok := ⟨by decide, by decide, by decide, by decide, by decide, by decide, by unfold AllB; decide, by unfold AllB; decide⟩

set_option maxRecDepth 100000 in
set_option maxHeartbeats 8000000 in
theorem works_any (w : World) (hLd : Laid w) : Calls Tryz.prog 9 #[] w fun e w' => e = .returned (.bool true) ∧ Below w.heap.size w w' := by
  have HD := Lib.hid hLd
  clear hLd
  have lP : Hid ((pmV (easyS 4 10) none 0 0).length = 72) := Lib.hid (pmV_len ezH_ok _ _ _)
  have o1 : Hid (∀ u ∈ pmV (easyS 4 10) none 0 0, u.oneCell' = true) := Lib.hid (pmV_one _ _ _ _)
  have l0 : Hid ((pmV zeroPm none 0 0).length = 72) := Lib.hid (pmV_len zeroH_ok _ _ _)
  have EP : Hid (∀ wx, PmR wx (easyS 4 10) none 0 0) := Lib.hid (fun wx => easy_r wx (by decide) (by decide) (by decide))
  have HMay := Lib.hid ex_may
  have HB3 := Lib.hid ex_b3
  have HB4 := Lib.hid ex_b4
  have HMed := Lib.hid ex_med
  have HCh := Lib.hid ex_chain
  have HRi := Lib.hid ex_right
  have HBa := Lib.hid ex_bad
  have CE := Lib.hid (easy_any 4 10)
  obtain ⟨p, hp⟩ : ∃ p, easyS 4 10 = p := ⟨_, rfl⟩
  rw [hp] at lP o1 EP HMay HB3 HB4 HCh HRi HBa CE
  clear hp
  have z0 := zeroPm_run
  go_enter Tryz.func9, Tryz.ntmps9
  go_wp2_with fail
  refine (CE.out _).mono ?_
  rintro e w1 ⟨rfl, hc⟩
  have HA1 := Lib.hid hc
  have R0 := Lib.hid (Ro.new w1 29 (pmV zeroPm none 0 0))
  clear hc CE
  go_wp2_with (refine wpList_store_ro rfl (.tmp 1) (.tmp 7) rfl rfl rfl rowPm R0.out l0.out lP.out o1.out ?_)
  intro w2 R2 g2
  have HA2 := Lib.hid (HA1.out.trans ((box_store g2).mono HA1.out.size))
  have HR2 := Lib.hid R2
  clear g2 R2 R0 HA1 z0
  generalize w1.heap.size = b1 at HR2 ⊢
  go_wp2_with fail
  have n3 := (Below.refl w2.heap.size w2).alloc (Nat.le_refl _) (.cells #[.int .u32 0, .int .u32 1, .int .u32 2, .int .u32 3] 22)
  have W4 : Ws (w2.alloc (.cells #[.int .u32 0, .int .u32 1, .int .u32 2, .int .u32 3] 22)) (some ⟨w2.heap.size, 0, none⟩) 4 [0, 1, 2, 3] := Ws.lit w2 [0, 1, 2, 3] trivial
  refine (times_any _ (by omega) W4 (by decide)).mono ?_
  rintro e w3 ⟨B, d, rfl, O⟩
  have HA3 := Lib.hid (HA2.out.trans ((n3.trans (O.bel.mono n3.size)).mono HA2.out.size))
  have HR3 := Lib.hid ((HR2.out.later n3).later O.bel)
  have hcap := Lib.hid O.cap
  have HT := Lib.hid O.reads
  clear n3 W4 HA2 HR2 O
  have n4 := (Below.refl w3.heap.size w3).alloc (Nat.le_refl _) (.cells #[.int .u8 1, .int .u8 2] 5)
  have BL : Bs (w3.alloc (.cells #[.int .u8 1, .int .u8 2] 5)) (some ⟨w3.heap.size, 0, none⟩) 2 [1, 2] := Bs.lit w3 [1, 2] (by unfold AllB; decide)
  have HN4 := Lib.hid n4
  have HBL := Lib.hid BL
  clear n4 BL
  go_wp2_with (refine wpList_load_ro rfl (.tmp 1) rfl rfl rowPm HR3.out lP.out ?_)
  refine (chain_any _ (EP.out _) (by omega) HBL.out).mono ?_
  rintro e w4 ⟨C, m, f, rfl, O, _, _⟩
  rw [HCh.out] at O
  obtain rfl : m = 3 := O.len.symm
  have bb := HN4.out.trans (O.bel.mono HN4.out.size)
  have HA4 := Lib.hid (HA3.out.trans (bb.mono HA3.out.size))
  have HR4 := Lib.hid (HR3.out.later bb)
  have HT4 := Lib.hid (HT.out.later bb)
  have hcf := Lib.hid O.cap
  have HC4 := Lib.hid O.reads
  clear O bb HA3 HR3 HT HN4 HBL
  have LD4 := Lib.hid (HD.out.later HD.out.lt HA4.out)
  go_wp2_with fail
  refine wp_region_seg (by kernel_rfl) fun wg hg => ?_
  have GA := Lib.hid hg
  refine wpK_seg 0 17 (f := 10) (by kernel_rfl) (fun _ _ _ _ _ h => h) (by kernel_rfl) (by kernel_rfl) (by kernel_rfl) GA.out ?_
  apply Exists.intro
  refine ⟨?_, ?_⟩
  · intro wh hh
    simp only [List.drop_zero, List.take_succ_cons, List.take_zero]
    have CM : Hid (∀ u : After wh, Calls Tryz.prog 10 #[.agg (pmV p none 0 0).toArray] u.w fun e w' => e = .returned (.bool true) ∧ Below u.w.heap.size u.w w') := Lib.hid (fun u => by
      rw [← HMay.out]
      exact may_any u.w (LD4.out.later LD4.out.lt (Below.trans hh (u.below.mono hh.size))) (EP.out _))
    have CB3 : Hid (∀ u : After wh, Calls Tryz.prog 12 #[.agg (pmV p none 0 0).toArray, .slice B 3 d] u.w fun e w' => e = .returned (.int .u32 545259519) ∧ Below u.w.heap.size u.w w') := Lib.hid (fun u => by
      have bz := Below.trans hh (u.below.mono hh.size)
      have h := bits_any (p := p) (d := d) u.w (LD4.out.later LD4.out.lt bz) (EP.out _) (by omega) (by have := hcap.out; omega) ((HT4.out.later bz).left (k := 3) (by omega))
      have e : (tmHs [0, 1, 2, 3]).take 3 = tmHs [0, 1, 2] := rfl
      rw [e, HB3.out] at h
      exact h)
    have CB4 : Hid (∀ u : After wh, Calls Tryz.prog 12 #[.agg (pmV p none 0 0).toArray, .slice B 4 d] u.w fun e w' => e = .returned (.int .u32 538968063) ∧ Below u.w.heap.size u.w w') := Lib.hid (fun u => by
      have bz := Below.trans hh (u.below.mono hh.size)
      have h := bits_any (p := p) (d := d) u.w (LD4.out.later LD4.out.lt bz) (EP.out _) (by omega) hcap.out (HT4.out.later bz)
      rw [HB4.out] at h
      exact h)
    go_big_quiet_want
    refine quiet_load_part (.tmp 1) rfl rfl rowPm (fun w9 h9 => by obtain ⟨u, rfl⟩ := h9; exact rangeOf (HR4.out.later (Below.trans hh (u.below.mono hh.size)))) lP.out ?_
    simp only [Act.put, List.setIfInBounds_toArray, List.set_cons_succ, List.set_cons_zero]
    go_big_quiet_on
    repeat (go_big_quiet_step ((go_at_call 10; exact after_call (CM.out _))))
    go_big_quiet_want
    refine quiet_load_part (.tmp 1) rfl rfl rowPm (fun w9 h9 => by obtain ⟨u, rfl⟩ := h9; exact rangeOf (HR4.out.later (Below.trans hh (u.below.mono hh.size)))) lP.out ?_
    simp only [Act.put, List.setIfInBounds_toArray, List.set_cons_succ, List.set_cons_zero]
    go_big_quiet_on
    have hd4 := hcap.out
    repeat (go_big_quiet_step ((go_at_call 12; exact after_call (CB3.out _))))
    go_big_quiet_want
    refine quiet_load_part (.tmp 1) rfl rfl rowPm (fun w9 h9 => by obtain ⟨u, rfl⟩ := h9; exact rangeOf (HR4.out.later (Below.trans hh (u.below.mono hh.size)))) lP.out ?_
    simp only [Act.put, List.setIfInBounds_toArray, List.set_cons_succ, List.set_cons_zero]
    go_big_quiet_on
    repeat (go_big_quiet_step ((go_at_call 12; exact after_call (CB4.out _))))
    refine wpQuiet_nil ?_
    exact rfl
  refine wpK_call_want (f := 9) (i := 17) (by kernel_rfl) rfl (by rfl) GA.out ?_
  intro wa ga K hK
  go_simp
  have na := (Below.refl wa.heap.size wa).alloc (Nat.le_refl _) (.cells #[.int .u32 5, .int .u32 1, .int .u32 9, .int .u32 7] 22)
  have W5 : Ws (wa.alloc (.cells #[.int .u32 5, .int .u32 1, .int .u32 9, .int .u32 7] 22)) (some ⟨wa.heap.size, 0, none⟩) 4 [5, 1, 9, 7] := Ws.lit wa [5, 1, 9, 7] trivial
  have ga2 := Below.trans ga (na.mono ga.size)
  refine hK _ _ na ?_
  clear hK K
  generalize (wa.alloc (.cells #[.int .u32 5, .int .u32 1, .int .u32 9, .int .u32 7] 22)) = wb at W5 ga2 ⊢
  generalize wa.heap.size = ba at W5 ⊢
  have HW5 := Lib.hid W5
  have GB := Lib.hid ga2
  clear na W5 ga ga2
  refine wpK_one_want (f := 8) (i := 18) (by kernel_rfl) rfl (by rfl) ?_
  intro wc gc K hK
  go_simp
  have gc1 := Below.trans GB.out (gc.mono GB.out.size)
  refine (times_any _ (by omega) (HW5.out.later gc) (by decide)).mono ?_
  rintro e wd ⟨B5, d5, rfl, O⟩
  have gd := gc1.trans (O.bel.mono gc1.size)
  have HT5 := Lib.hid O.reads
  have hc5 := Lib.hid O.cap
  have GD := Lib.hid gd
  clear O HW5 GB gc gc1
  try go_simp
  refine hK _ _ gd ?_
  clear hK K gd
  try simp only [Act.put, List.setIfInBounds_toArray, List.set_cons_succ, List.set_cons_zero]
  have CMe : Hid (∀ wx, Below wd.heap.size wd wx → Calls Tryz.prog 14 #[.slice B5 4 d5] wx fun e w' => e = .returned (.int .u32 7) ∧ Below wx.heap.size wx w') := Lib.hid (fun wx bx => by
    have h := median_any wx (by omega) hc5.out (HT5.out.later bx)
    rw [HMed.out] at h
    exact h)
  refine wpK_one_want (f := 7) (i := 19) (by kernel_rfl) rfl (by rfl) ?_
  intro we ge K hK
  go_simp
  refine (CMe.out _ ge).mono ?_
  rintro e wf ⟨rfl, hf⟩
  have gf := (GD.out.trans (Below.mono ge GD.out.size)).trans (hf.mono (Nat.le_trans GD.out.size ge.size))
  have GF := Lib.hid gf
  clear ge hf CMe HT5 GD
  try go_simp
  refine hK _ _ gf ?_
  clear hK K gf
  try simp only [Act.put, List.setIfInBounds_toArray, List.set_cons_succ, List.set_cons_zero]
  refine wpK_seg 20 7 (f := 0) (by kernel_rfl) (fun _ _ _ _ _ h => h) (by kernel_rfl) (by kernel_rfl) (by kernel_rfl) GF.out ?_
  apply Exists.intro
  refine ⟨?_, ?_⟩
  · intro wh hh
    simp only [List.drop_succ_cons, List.drop_zero, List.take_succ_cons, List.take_zero]
    repeat (go_big_quiet_step (fail))
    refine wpQuiet_nil ?_
    exact rfl
  refine wpK_end (by kernel_rfl) fun wz gz => ?_
  have bz := GF.out.trans (Below.mono gz GF.out.size)
  have HA5 := Lib.hid (HA4.out.trans (bz.mono HA4.out.size))
  have HR5 := Lib.hid (HR4.out.later bz)
  have HC5 := Lib.hid (HC4.out.later bz)
  clear bz gz GF HA4 HR4 HC4 HT4 LD4
  obtain ⟨cb, co, rfl, _, _⟩ := HC5.out.cel (by omega)
  have ad := add_at cb co
  have RG := Lib.hid ((HC5.out.at_ (k := 2) (by omega)).2)
  have eC : nthH [exA, exB, exC] 2 = exC := rfl
  rw [eC] at RG
  clear eC
  have lC := Lib.hid (hdV_len exC_ok)
  have okC := Lib.hid exC_ok
  have okD : Hid (({ exC with p := 1 :: List.replicate 31 0 } : Hd).Ok) := Lib.hid ⟨exC_ok.v, by decide, exC_ok.r, exC_ok.t, exC_ok.b, exC_ok.n, by unfold AllB; decide, exC_ok.rb⟩
  have eSp : Hid (splice (hdV exC) 1 (vals (1 :: List.replicate 31 0)) = hdV { exC with p := 1 :: List.replicate 31 0 }) := Lib.hid (splice_prev (v := exC.v) (t := exC.t) (b := exC.b) (n := exC.n) (r := exC.r) exC_ok.p (by decide))
  have CRi := Lib.hid (fun wx (bx : Below wz.heap.size wz wx) (ld : Laid wx) => right_chain (p := p) (d := f) (h := exC) wx ld (EP.out wx) (show 2 ≤ 1000000 by decide) (by have := hcf.out; omega) ((HC5.out.later bx).left (k := 2) (by omega)) exC_ok)
  have CBa := Lib.hid (fun wx (bx : Below wz.heap.size wz wx) (ld : Laid wx) => right_chain (p := p) (d := f) (h := { exC with p := 1 :: List.replicate 31 0 }) wx ld (EP.out wx) (show 2 ≤ 1000000 by decide) (by have := hcf.out; omega) ((HC5.out.later bx).left (k := 2) (by omega)) okD.out)
  have e2 : [exA, exB, exC].take 2 = [exA, exB] := rfl
  rw [e2, HRi.out] at CRi
  rw [e2, HBa.out] at CBa
  obtain ⟨X, hX⟩ : ∃ X : Hd, exC = X := ⟨_, rfl⟩
  obtain ⟨Y, hY⟩ : ∃ Y : Hd, ({ exC with p := 1 :: List.replicate 31 0 } : Hd) = Y := ⟨_, rfl⟩
  rw [hY] at eSp CBa okD
  rw [hX] at RG lC okC eSp CRi
  clear e2 hX hY HRi HBa HC5 HMed HCh HB3 HB4 HMay
  have lX := hcf.out
  have RG1 : Hid (wz.rangeAt cb (co + 136) (hdV X)) := Lib.hid RG.out
  have z0 := zeroHd
  clear RG
  go_wp2_with (first | (refine wpList_load_part rfl (.tmp 44) rfl rfl rowHd RG1.out lC.out ?_) | (refine wpList_store_ro rfl (.tmp 4) (.tmp 45) rfl rfl rfl rowHd (Ro.new wz 27 (hdV zeroH)) rfl lC.out (hdV_one _) ?_))
  intro w6 R6 g6
  have b6 := Lib.hid (box_store g6)
  have HA6 := Lib.hid (HA5.out.trans (b6.out.mono HA5.out.size))
  have HR6 := Lib.hid (HR5.out.later b6.out)
  have HX6 := Lib.hid R6
  clear R6 g6 HA5 HR5 RG1
  generalize wz.heap.size = b4 at HX6 ⊢
  go_wp2_with (first | (refine wpList_load_ro rfl (.tmp 4) rfl rfl rowHd HX6.out lC.out ?_) | (refine wpList_store_ro rfl (.tmp 6) (.tmp 51) rfl rfl rfl rowHd (Ro.new w6 27 (hdV zeroH)) rfl lC.out (hdV_one _) ?_))
  intro w7 R7 g7
  have b7 := Lib.hid (box_store g7)
  have HA7 := Lib.hid (HA6.out.trans (b7.out.mono HA6.out.size))
  have HR7 := Lib.hid (HR6.out.later b7.out)
  have HX7 := Lib.hid (HX6.out.later b7.out)
  have HY7 := Lib.hid R7
  have hne : Hid (b4 ≠ w6.heap.size) := Lib.hid (by have := HX6.out.lt; omega)
  have hnp : Hid (b1 ≠ w6.heap.size) := Lib.hid (by have := HR6.out.lt; omega)
  have hw6 : Hid (w.heap.size ≤ w6.heap.size) := Lib.hid HA6.out.size
  clear R7 g7 HA6 HR6 HX6 z0
  have hwz : Hid (wz.heap.size ≤ w6.heap.size) := Lib.hid b6.out.size
  generalize w6.heap.size = b6' at HY7 hne hnp hw6 hwz ⊢
  have lI : Hid ((vals (1 :: List.replicate 31 0)).length = 32) := Lib.hid (by rw [vals_length]; rfl)
  obtain ⟨Q1, hQ1⟩ : ∃ Q1, vals (1 :: List.replicate 31 0) = Q1 := ⟨_, rfl⟩
  have HQ1 := Lib.hid hQ1
  go_wp2_with (refine wpList_store_part rfl (.tmp 53) (.tmp 52) rfl rfl (vs := vals (1 :: List.replicate 31 0)) rfl row26 HY7.out (by rw [lC.out]; decide) lI.out (vals_one _) ?_)
  intro w8 R8 g8
  have R8s : Ro w8 b6' 27 (splice (hdV X) 1 (vals (1 :: List.replicate 31 0))) := R8
  rw [eSp.out] at R8s
  have HY8 := Lib.hid R8s
  clear R8s
  have HA8 := Lib.hid (HA7.out.grown g8 HA7.out.size (fun q e => by injection e with e; subst e; exact hw6.out))
  have HR8 := Lib.hid (HR7.out.far g8 (fun e => by injection e with e; exact hnp.out e))
  have HX8 := Lib.hid (HX7.out.far g8 (fun e => by injection e with e; exact hne.out e))
  have B8 := Lib.hid ((b6.out.trans (b7.out.mono b6.out.size)).grown g8 (Nat.le_trans b6.out.size b7.out.size) (fun q e => by injection e with e; subst e; exact hwz.out))
  have lY := Lib.hid (hdV_len okD.out)
  clear R8 g8 HA7 HR7 HX7 HY7 hQ1
  go_wp2_with (first | (refine wpList_load_ro rfl (.tmp 1) rfl rfl rowPm HR8.out lP.out ?_) | (refine wpList_load_ro rfl (.tmp 4) rfl rfl rowHd HX8.out lC.out ?_))
  refine (CRi.out _ B8.out (HD.out.later HD.out.lt HA8.out)).mono ?_
  rintro e w9 ⟨rfl, hc⟩
  have HA9 := Lib.hid (HA8.out.trans (hc.mono HA8.out.size))
  have HR9 := Lib.hid (HR8.out.later hc)
  have HY9 := Lib.hid (HY8.out.later hc)
  have B9 := Lib.hid (B8.out.trans (hc.mono B8.out.size))
  clear hc HA8 HR8 HY8 B8 HX8 CRi
  go_wp2_with (first | (refine BigFrame.wpList_want (by rfl) fun K hK => wp_load_ro (.tmp 1) rfl rfl rowPm HR9.out lP.out (hK _ _ ?_)) | (refine BigFrame.wpList_want (by rfl) fun K hK => wp_load_ro (.tmp 6) rfl rfl rowHd HY9.out lY.out (hK _ _ ?_)))
  refine (CBa.out _ B9.out (HD.out.later HD.out.lt HA9.out)).mono ?_
  rintro e w10 ⟨rfl, hc⟩
  have HA10 := Lib.hid (HA9.out.trans (hc.mono HA9.out.size))
  clear hc
  go_wp2_with fail
  go_ret
  exact ⟨rfl, HA10.out⟩
end Go.Proofs.YtimjmmiajgfblaaGreatDoor
