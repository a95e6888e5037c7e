/- Targets as four words, and what the package target and the document's answer give of them. No condition but the range of the bits. -/
import Derived.Test.YtimjmmiajgfblaaGreatDoorGbo
import Derived.Test.YtimjmmiajgfblaaGreatDoorGbe
import Derived.Test.YtimjmmiajgfblaaGreatDoorQRWorks

namespace Go.Proofs.YtimjmmiajgfblaaGreatDoor
open Go.RowKit

theorem tgtN_lt (n : Nat) : tgtN n < 115792089237316195423570985008687907853269984665640564039457584007913129639936 := by
  unfold tgtN
  split
  · rename_i h
    exact h.2.2
  · omega
/-- The four words of a target. -/
theorem of_words (n : Nat) (hn : n < 4294967296) : ∃ t0 t1 t2 t3 : Nat, Bg.Words t0 t1 t2 t3 ∧ Bg.val t0 t1 t2 t3 = tgtN n ∧ Bg.TOfIs n t0 t1 t2 t3 (decide (Bg.okOf n)) ∧ Bg.RTOfIs n t0 t1 t2 t3 (decide (Bg.okOf n)) := by
  obtain ⟨t0, t1, t2, t3, w, e⟩ := Bg.words_of (tgtN_lt n)
  exact ⟨t0, t1, t2, t3, w, e, Bg.tofIs hn w _ rfl e, Bg.rtofIs hn w _ rfl e⟩
theorem comp_is {t0 t1 t2 t3 : Nat} (h : Bg.Words t0 t1 t2 t3) : Bg.CompIs t0 t1 t2 t3 (compN (Bg.val t0 t1 t2 t3)) := Bg.compIs h (bitsN_of _) rfl
theorem rcomp_is {t0 t1 t2 t3 : Nat} (h : Bg.Words t0 t1 t2 t3) : Bg.RCompIs t0 t1 t2 t3 (compN (Bg.val t0 t1 t2 t3)) := Bg.rcompIs h (bitsN_of _) rfl
theorem compN_lt {v : Nat} (h : v < 115792089237316195423570985008687907853269984665640564039457584007913129639936) : compN v < 4294967296 := by
  have e256 : (2 : Nat) ^ 256 = 115792089237316195423570985008687907853269984665640564039457584007913129639936 := by decide
  have n256 := (bitsN_of v).le (m := 256) (by rw [e256]; exact h)
  have pl := Bg.partOf_lt (bitsN_of v)
  unfold compN Bg.compOf
  split <;> omega
def bigV (t0 t1 t2 t3 : Nat) : List Value := [.int .u64 (t0 : Nat), .int .u64 (t1 : Nat), .int .u64 (t2 : Nat), .int .u64 (t3 : Nat)]
/-- A box of four words. -/
structure BigB (w : World) (b : Nat) (t0 t1 t2 t3 : Nat) : Prop where
  ro : Ro w b 51 (bigV t0 t1 t2 t3)
section
variable {w w1 : World} {b t0 t1 t2 t3 : Nat}
theorem BigB.later (h : BigB w b t0 t1 t2 t3) (g : Below w.heap.size w w1) : BigB w1 b t0 t1 t2 t3 := ⟨h.ro.later g⟩
theorem BigB.lt (h : BigB w b t0 t1 t2 t3) : b < w.heap.size := h.ro.lt
theorem BigB.c0 (h : BigB w b t0 t1 t2 t3) : w.cell? ⟨b, 0, none⟩ = some (.int .u64 (t0 : Nat)) := h.ro.cell (k := 0) rfl
theorem BigB.c1 (h : BigB w b t0 t1 t2 t3) : w.cell? ⟨b, 1, none⟩ = some (.int .u64 (t1 : Nat)) := h.ro.cell (k := 1) rfl
theorem BigB.c2 (h : BigB w b t0 t1 t2 t3) : w.cell? ⟨b, 2, none⟩ = some (.int .u64 (t2 : Nat)) := h.ro.cell (k := 2) rfl
theorem BigB.c3 (h : BigB w b t0 t1 t2 t3) : w.cell? ⟨b, 3, none⟩ = some (.int .u64 (t3 : Nat)) := h.ro.cell (k := 3) rfl
end
theorem rowBig : IsRow 51 4 := ⟨.inr ⟨_, _, Tryz.underlying51⟩, by kernel_rfl⟩
theorem zeroBig (w : World) : (zeroValue 51).run Tryz.prog w = .ok (.agg (bigV 0 0 0 0).toArray) w := by kernel_rfl
theorem bigV_one (t0 t1 t2 t3 : Nat) : ∀ u ∈ bigV t0 t1 t2 t3, u.oneCell' = true := by
  intro u hu
  simp only [bigV, List.mem_cons, List.not_mem_nil, or_false] at hu
  rcases hu with rfl | rfl | rfl | rfl <;> rfl
end Go.Proofs.YtimjmmiajgfblaaGreatDoor

/- May of the package rules: may the parameters be? No condition but the points' number and that the tables lie as laid. -/
namespace Go.Proofs.YtimjmmiajgfblaaGreatDoor
open Go.RowKit

set_option maxRecDepth 100000 in
set_option maxHeartbeats 4000000 in
theorem may_any {p : Pm} {A : Option Addr} {n c : Nat} (w : World) (hLd : Laid w) (hP : PmR w p A n c) : Calls Tryz.prog 10 #[.agg (pmV p A n c).toArray] w fun e w' => e = .returned (.bool (mayS p)) ∧ Below w.heap.size w w' := by
  have HD := Lib.hid hLd
  have B0 := Lib.hid (PmB.new hP)
  have HB0 := Lib.hid ((Below.refl w.heap.size w).alloc (Nat.le_refl _) (.cells (pmV p A n c).toArray 29))
  have hlim := hP.ok.limit
  have hsp := hP.ok.sp
  have hiv := hP.ok.iv
  have c0 := B0.out.limit
  clear hLd hP
  obtain ⟨t0, t1, t2, t3, wt, et, CT, _⟩ := of_words p.limit hlim
  have CC := Lib.hid (comp_is wt)
  rw [et] at CC
  have HCT := Lib.hid CT
  clear CT wt et
  go_enter Tryz.func10, Tryz.ntmps10
  go_wp2_with fail
  refine (HCT.out _).mono ?_
  rintro e w1 ⟨rfl, h1⟩
  have L1 := Lib.hid (HB0.out.trans (h1.mono HB0.out.size))
  have B1 := Lib.hid (B0.out.later h1)
  clear h1 B0 HB0 c0 HCT
  go_wp2_with fail
  have b2 := (Below.refl w1.heap.size w1).alloc (Nat.le_refl _) (.cells #[.int .u64 (t0 : Nat), .int .u64 (t1 : Nat), .int .u64 (t2 : Nat), .int .u64 (t3 : Nat)] 51)
  have Bt : BigB (w1.alloc (.cells #[.int .u64 (t0 : Nat), .int .u64 (t1 : Nat), .int .u64 (t2 : Nat), .int .u64 (t3 : Nat)] 51)) w1.heap.size t0 t1 t2 t3 := ⟨Ro.new _ _ _⟩
  have L2 := Lib.hid (L1.out.trans (b2.mono L1.out.size))
  have B2 := Lib.hid (B1.out.later b2)
  generalize (w1.alloc (.cells #[.int .u64 (t0 : Nat), .int .u64 (t1 : Nat), .int .u64 (t2 : Nat), .int .u64 (t3 : Nat)] 51)) = w2 at Bt L2 B2 ⊢
  have HBt := Lib.hid Bt
  clear b2 Bt L1 B1
  generalize w1.heap.size = s2 at HBt ⊢
  generalize w.heap.size = s1 at B2 ⊢
  have u0 : ∀ u : After w2, u.w.cell? ⟨s2, 0, none⟩ = some (.int .u64 (t0 : Nat)) := fun u => (HBt.out.later u.below).c0
  have u1 : ∀ u : After w2, u.w.cell? ⟨s2, 1, none⟩ = some (.int .u64 (t1 : Nat)) := fun u => (HBt.out.later u.below).c1
  have u2 : ∀ u : After w2, u.w.cell? ⟨s2, 2, none⟩ = some (.int .u64 (t2 : Nat)) := fun u => (HBt.out.later u.below).c2
  have u3 : ∀ u : After w2, u.w.cell? ⟨s2, 3, none⟩ = some (.int .u64 (t3 : Nat)) := fun u => (HBt.out.later u.below).c3
  have ul : ∀ u : After w2, u.w.cell? ⟨s1, 0, none⟩ = some (.int .u32 (p.limit : Nat)) := fun u => (B2.out.later u.below).limit
  obtain ⟨k, hk⟩ : ∃ k, compN (tgtN p.limit) = k := ⟨_, rfl⟩
  obtain ⟨lim, hl⟩ : ∃ lim, p.limit = lim := ⟨_, rfl⟩
  rw [hk] at CC
  rw [hl] at ul hlim
  by_cases ok : Bg.okOf p.limit
  · rw [decide_eq_true ok, hl]
    have HK := Lib.hid hk
    have HLm := Lib.hid hl
    have OK := Lib.hid ok
    clear ok hk hl
    by_cases e : k = lim
    · subst e
      go_wp2_with fail
      refine wp_region_after (by kernel_rfl) (by kernel_rfl) ?_
      repeat (go_big_quiet_step ((go_at_call 30; exact after_call (CC.out _))))
      refine wpQuiet_nil ?_
      rintro _ ⟨u, rfl⟩
      have L3 := Lib.hid (L2.out.trans (u.below.mono L2.out.size))
      have B3 := Lib.hid (B2.out.later u.below)
      clear u0 u1 u2 u3 ul CC
      have hS : Hid (limS p = true) := Lib.hid (decide_eq_true ⟨OK.out, HK.out.trans HLm.out.symm⟩)
      have ci := B3.out.iv
      have cs := B3.out.sp
      obtain ⟨iv, hi⟩ : ∃ iv, p.iv = iv := ⟨_, rfl⟩
      obtain ⟨sp, hs⟩ : ∃ sp, p.sp = sp := ⟨_, rfl⟩
      rw [hi] at ci hiv
      rw [hs] at cs hsp
      have NS : Hid (numS p = decide (2 ≤ iv ∧ iv ≤ 2016 ∧ 1 ≤ sp ∧ sp ≤ 3600)) := Lib.hid (by rw [numS, hi, hs])
      clear hi hs
      by_cases d : iv < 2
      · have D1 := Lib.hid d
        have q : decide (iv < 2) = true := decide_eq_true (by omega)
        clear d
        go_wp2_with fail
        go_ret
        exact ⟨by rw [mayS, hS.out, NS.out, decide_eq_false (fun q => by have := D1.out; omega)]; rfl, L3.out⟩
      · have D1 := Lib.hid d
        have qD1 : decide (iv < 2) = false := decide_eq_false (by omega)
        clear d
        by_cases d : 2016 < iv
        · have D2 := Lib.hid d
          have q : decide (2016 < iv) = true := decide_eq_true (by omega)
          clear d
          go_wp2_with fail
          go_ret
          exact ⟨by rw [mayS, hS.out, NS.out, decide_eq_false (fun q => by have := D2.out; omega)]; rfl, L3.out⟩
        · have D2 := Lib.hid d
          have qD2 : decide (2016 < iv) = false := decide_eq_false (by omega)
          clear d
          by_cases d : sp < 1
          · have D3 := Lib.hid d
            have q : decide ((sp : Int) < 1) = true := decide_eq_true (by omega)
            clear d
            go_wp2_with fail
            go_ret
            exact ⟨by rw [mayS, hS.out, NS.out, decide_eq_false (fun q => by have := D3.out; omega)]; rfl, L3.out⟩
          · have D3 := Lib.hid d
            have qD3 : decide ((sp : Int) < 1) = false := decide_eq_false (by omega)
            clear d
            by_cases d : 3600 < sp
            · have D4 := Lib.hid d
              have q : decide (3600 < (sp : Int)) = true := decide_eq_true (by omega)
              clear d
              go_wp2_with fail
              go_ret
              exact ⟨by rw [mayS, hS.out, NS.out, decide_eq_false (fun q => by have := D4.out; omega)]; rfl, L3.out⟩
            · have D4 := Lib.hid d
              have qD4 : decide (3600 < (sp : Int)) = false := decide_eq_false (by omega)
              clear d
              have hN : Hid (numS p = true) := Lib.hid (by rw [NS.out, decide_eq_true]; have := D1.out; have := D2.out; have := D3.out; have := D4.out; omega)
              have cb := B3.out.bits
              have cl := B3.out.limit
              rw [HLm.out] at cl
              obtain ⟨fb, hf⟩ : ∃ fb, p.first.b = fb := ⟨_, rfl⟩
              rw [hf] at cb
              have HF := Lib.hid hf
              clear hf
              have lP := Lib.hid (pmV_len B3.out.r.ok.first A n c)
              by_cases d : fb = k
              · have q5 : ((fb : Int) == (k : Int)) = true := by simp [d]
                have D5 := Lib.hid d
                clear d
                go_wp2_with (refine BigFrame.wpList_want (by rfl) fun K hK => wp_load_ro (.tmp 1) rfl rfl rowPm B3.out.ro lP.out (hK _ _ ?_))
                refine (mayPoints_any u.w (HD.out.later HD.out.lt L3.out) B3.out.r).mono ?_
                rintro e w4 ⟨rfl, h4⟩
                have L4 := Lib.hid (L3.out.trans (h4.mono L3.out.size))
                clear h4
                go_wp2_with fail
                go_ret
                exact ⟨by rw [mayS, hS.out, hN.out, HF.out, HLm.out, decide_eq_true D5.out, Bool.and_self, Bool.and_self, Bool.true_and]; rfl, L4.out⟩
              · have q5 : ((fb : Int) == (k : Int)) = false := by simp; omega
                have D5 := Lib.hid d
                clear d
                go_wp2_with fail
                go_ret
                exact ⟨by rw [mayS, hS.out, hN.out, HF.out, HLm.out, decide_eq_false D5.out]; rfl, L3.out⟩
    · have E := Lib.hid e
      have qe : (((k : Nat) : Int) != (lim : Int)) = true := by simp; omega
      clear e
      go_wp2_with fail
      refine wp_region_after (by kernel_rfl) (by kernel_rfl) ?_
      repeat (go_big_quiet_step ((go_at_call 30; exact after_call (CC.out _))))
      refine wpQuiet_nil ?_
      rintro _ ⟨u, rfl⟩
      have L3 := Lib.hid (L2.out.trans (u.below.mono L2.out.size))
      have B3 := Lib.hid (B2.out.later u.below)
      clear u0 u1 u2 u3 ul CC
      go_wp2_with fail
      go_ret
      exact ⟨by rw [mayS, limS, decide_eq_false (fun q => E.out (HK.out.symm.trans (q.2.trans HLm.out)))]; rfl, L3.out⟩
  · rw [decide_eq_false ok, hl]
    have OK := Lib.hid ok
    clear ok hk hl
    go_wp2_with fail
    refine wp_region_after (by kernel_rfl) (by kernel_rfl) ?_
    repeat (go_big_quiet_step (fail))
    refine wpQuiet_nil ?_
    rintro _ ⟨u, rfl⟩
    have L3 := Lib.hid (L2.out.trans (u.below.mono L2.out.size))
    go_wp2_with fail
    go_ret
    exact ⟨by rw [mayS, limS, decide_eq_false (fun q => OK.out q.1)]; rfl, L3.out⟩
end Go.Proofs.YtimjmmiajgfblaaGreatDoor

/- May of the document's answer of layer 13: may the parameters be? No condition but the points' number and that the tables lie as laid. -/
namespace Go.Proofs.YtimjmmiajgfblaaGreatDoor
open Go.RowKit

set_option maxRecDepth 100000 in
set_option maxHeartbeats 4000000 in
theorem rmay_any {p : Pm} {A : Option Addr} {n c : Nat} (w : World) (hP : PmR w p A n c) : Calls Tryz.prog 11 #[.agg (pmV p A n c).toArray] w fun e w' => e = .returned (.bool (mayS p)) ∧ Below w.heap.size w w' := by
  have B0 := Lib.hid (PmB.new hP)
  have HB0 := Lib.hid ((Below.refl w.heap.size w).alloc (Nat.le_refl _) (.cells (pmV p A n c).toArray 29))
  have hlim := hP.ok.limit
  have hsp := hP.ok.sp
  have hiv := hP.ok.iv
  have c0 := B0.out.limit
  have HL := Lib.hid hP.pts.len
  have hn := hP.le
  clear hP
  obtain ⟨t0, t1, t2, t3, wt, et, _, CT⟩ := of_words p.limit hlim
  have CC := Lib.hid (rcomp_is wt)
  rw [et] at CC
  have HCT := Lib.hid CT
  clear CT wt et
  go_enter Tryz.func11, Tryz.ntmps11
  go_wp2_with fail
  refine (HCT.out _).mono ?_
  rintro e w1 ⟨rfl, h1⟩
  have L1 := Lib.hid (HB0.out.trans (h1.mono HB0.out.size))
  have B1 := Lib.hid (B0.out.later h1)
  clear h1 B0 HB0 c0 HCT
  go_wp2_with fail
  have b2 := (Below.refl w1.heap.size w1).alloc (Nat.le_refl _) (.cells #[.int .u64 (t0 : Nat), .int .u64 (t1 : Nat), .int .u64 (t2 : Nat), .int .u64 (t3 : Nat)] 51)
  have Bt : BigB (w1.alloc (.cells #[.int .u64 (t0 : Nat), .int .u64 (t1 : Nat), .int .u64 (t2 : Nat), .int .u64 (t3 : Nat)] 51)) w1.heap.size t0 t1 t2 t3 := ⟨Ro.new _ _ _⟩
  have L2 := Lib.hid (L1.out.trans (b2.mono L1.out.size))
  have B2 := Lib.hid (B1.out.later b2)
  generalize (w1.alloc (.cells #[.int .u64 (t0 : Nat), .int .u64 (t1 : Nat), .int .u64 (t2 : Nat), .int .u64 (t3 : Nat)] 51)) = w2 at Bt L2 B2 ⊢
  have HBt := Lib.hid Bt
  clear b2 Bt L1 B1
  generalize w1.heap.size = s2 at HBt ⊢
  generalize w.heap.size = s1 at B2 ⊢
  have u0 : ∀ u : After w2, u.w.cell? ⟨s2, 0, none⟩ = some (.int .u64 (t0 : Nat)) := fun u => (HBt.out.later u.below).c0
  have u1 : ∀ u : After w2, u.w.cell? ⟨s2, 1, none⟩ = some (.int .u64 (t1 : Nat)) := fun u => (HBt.out.later u.below).c1
  have u2 : ∀ u : After w2, u.w.cell? ⟨s2, 2, none⟩ = some (.int .u64 (t2 : Nat)) := fun u => (HBt.out.later u.below).c2
  have u3 : ∀ u : After w2, u.w.cell? ⟨s2, 3, none⟩ = some (.int .u64 (t3 : Nat)) := fun u => (HBt.out.later u.below).c3
  have ul : ∀ u : After w2, u.w.cell? ⟨s1, 0, none⟩ = some (.int .u32 (p.limit : Nat)) := fun u => (B2.out.later u.below).limit
  have ui : ∀ u : After w2, u.w.cell? ⟨s1, 1, none⟩ = some (.int .i64 p.iv) := fun u => (B2.out.later u.below).iv
  have us : ∀ u : After w2, u.w.cell? ⟨s1, 2, none⟩ = some (.int .u32 (p.sp : Nat)) := fun u => (B2.out.later u.below).sp
  have ub : ∀ u : After w2, u.w.cell? ⟨s1, 70, none⟩ = some (.int .u32 (p.first.b : Nat)) := fun u => (B2.out.later u.below).bits
  obtain ⟨k, hk⟩ : ∃ k, compN (tgtN p.limit) = k := ⟨_, rfl⟩
  obtain ⟨lim, hl⟩ : ∃ lim, p.limit = lim := ⟨_, rfl⟩
  obtain ⟨iv, hi⟩ : ∃ iv, p.iv = iv := ⟨_, rfl⟩
  obtain ⟨sp, hs⟩ : ∃ sp, p.sp = sp := ⟨_, rfl⟩
  obtain ⟨fb, hf⟩ : ∃ fb, p.first.b = fb := ⟨_, rfl⟩
  rw [hk] at CC
  rw [hl] at ul hlim
  rw [hi] at ui hiv
  rw [hs] at us hsp
  rw [hf] at ub
  have HK := Lib.hid hk
  have HLm := Lib.hid hl
  have HF := Lib.hid hf
  have NS : Hid (numS p = decide (2 ≤ iv ∧ iv ≤ 2016 ∧ 1 ≤ sp ∧ sp ≤ 3600)) := Lib.hid (by rw [numS, hi, hs])
  clear hk hi hs hf
  by_cases ok : Bg.okOf p.limit
  · rw [decide_eq_true ok, hl]
    have OK := Lib.hid ok
    clear ok hl
    by_cases e : k = lim
    · subst e
      have hS : Hid (limS p = true) := Lib.hid (decide_eq_true ⟨OK.out, HK.out.trans HLm.out.symm⟩)
      by_cases d : iv < 2
      · have D1 := Lib.hid d
        have q : decide (iv < 2) = true := decide_eq_true d
        clear d
        go_wp2_with fail
        refine wp_region_after (by kernel_rfl) (by kernel_rfl) ?_
        repeat (go_big_quiet_step ((go_at_call 24; exact after_call (CC.out _))))
        refine wpQuiet_nil ?_
        rintro _ ⟨u, rfl⟩
        have L3 := Lib.hid (L2.out.trans (u.below.mono L2.out.size))
        have B3 := Lib.hid (B2.out.later u.below)
        clear u0 u1 u2 u3 ul ui us ub CC
        go_wp2_with fail
        go_ret
        exact ⟨by rw [mayS, hS.out, NS.out, decide_eq_false (fun q => by have := D1.out; omega)]; rfl, L3.out⟩
      · have D1 := Lib.hid d
        have qD1 : decide (iv < 2) = false := decide_eq_false d
        clear d
        by_cases d : 2016 < iv
        · have D2 := Lib.hid d
          have q : decide (2016 < iv) = true := decide_eq_true d
          clear d
          go_wp2_with fail
          refine wp_region_after (by kernel_rfl) (by kernel_rfl) ?_
          repeat (go_big_quiet_step ((go_at_call 24; exact after_call (CC.out _))))
          refine wpQuiet_nil ?_
          rintro _ ⟨u, rfl⟩
          have L3 := Lib.hid (L2.out.trans (u.below.mono L2.out.size))
          have B3 := Lib.hid (B2.out.later u.below)
          clear u0 u1 u2 u3 ul ui us ub CC
          go_wp2_with fail
          go_ret
          exact ⟨by rw [mayS, hS.out, NS.out, decide_eq_false (fun q => by have := D2.out; omega)]; rfl, L3.out⟩
        · have D2 := Lib.hid d
          have qD2 : decide (2016 < iv) = false := decide_eq_false d
          clear d
          by_cases d : (sp : Int) < 1
          · have D3 := Lib.hid d
            have q : decide ((sp : Int) < 1) = true := decide_eq_true d
            clear d
            go_wp2_with fail
            refine wp_region_after (by kernel_rfl) (by kernel_rfl) ?_
            repeat (go_big_quiet_step ((go_at_call 24; exact after_call (CC.out _))))
            refine wpQuiet_nil ?_
            rintro _ ⟨u, rfl⟩
            have L3 := Lib.hid (L2.out.trans (u.below.mono L2.out.size))
            have B3 := Lib.hid (B2.out.later u.below)
            clear u0 u1 u2 u3 ul ui us ub CC
            go_wp2_with fail
            go_ret
            exact ⟨by rw [mayS, hS.out, NS.out, decide_eq_false (fun q => by have := D3.out; omega)]; rfl, L3.out⟩
          · have D3 := Lib.hid d
            have qD3 : decide ((sp : Int) < 1) = false := decide_eq_false d
            clear d
            by_cases d : 3600 < (sp : Int)
            · have D4 := Lib.hid d
              have q : decide (3600 < (sp : Int)) = true := decide_eq_true d
              clear d
              go_wp2_with fail
              refine wp_region_after (by kernel_rfl) (by kernel_rfl) ?_
              repeat (go_big_quiet_step ((go_at_call 24; exact after_call (CC.out _))))
              refine wpQuiet_nil ?_
              rintro _ ⟨u, rfl⟩
              have L3 := Lib.hid (L2.out.trans (u.below.mono L2.out.size))
              have B3 := Lib.hid (B2.out.later u.below)
              clear u0 u1 u2 u3 ul ui us ub CC
              go_wp2_with fail
              go_ret
              exact ⟨by rw [mayS, hS.out, NS.out, decide_eq_false (fun q => by have := D4.out; omega)]; rfl, L3.out⟩
            · have D4 := Lib.hid d
              have qD4 : decide (3600 < (sp : Int)) = false := decide_eq_false d
              clear d
              have hN : Hid (numS p = true) := Lib.hid (by rw [NS.out, decide_eq_true]; have := D1.out; have := D2.out; have := D3.out; have := D4.out; omega)
              by_cases d : fb = k
              · have D5 := Lib.hid d
                have q5 : ((fb : Int) != (k : Int)) = false := by simp [d]
                clear d
                go_wp2_with fail
                refine wp_region_after (by kernel_rfl) (by kernel_rfl) ?_
                repeat (go_big_quiet_step ((go_at_call 24; exact after_call (CC.out _))))
                refine wpQuiet_nil ?_
                rintro _ ⟨u, rfl⟩
                have L3 := Lib.hid (L2.out.trans (u.below.mono L2.out.size))
                have B3 := Lib.hid (B2.out.later u.below)
                clear u0 u1 u2 u3 ul ui us ub CC
                have hM : Hid (mayS p = ptsS (idS p.first) (-1) p.pts) := Lib.hid (by rw [mayS, hS.out, hN.out, HF.out, HLm.out, decide_eq_true D5.out, Bool.and_self, Bool.and_self, Bool.true_and])
                go_wp2_with fail
                clear HBt
                go_loopw [5] (fun i wr => ∃ (k : Nat) (y : Int), k ≤ n ∧ i = .int .i64 (k : Nat) ∧ Hid ((k = 0 ∧ y = -1) ∨ (0 < k ∧ 0 ≤ y ∧ y = (nthP p.pts (k - 1)).1)) ∧ Hid (ptsS (idS p.first) (-1) p.pts = ptsS (idS p.first) y (p.pts.drop k)) ∧ PmB wr s1 p A n c ∧ Below w.heap.size w wr) (fun i _ => n - (intOf i).toNat)
                case atStart => exact ⟨0, -1, Nat.zero_le _, rfl, Lib.hid (.inl ⟨rfl, rfl⟩), Lib.hid (by rw [List.drop_zero]), B3.out, L3.out⟩
                case round =>
                  obtain ⟨k, y, hk, rfl, Y, E, B, bel⟩ := hrel
                  have HB := Lib.hid B
                  have HL2 := Lib.hid bel
                  have c3 := HB.out.sl
                  clear B3 L3 B bel
                  by_cases hlt : k < n
                  · obtain ⟨b, o, rfl, hb, _⟩ := HB.out.r.pts.cel (by omega)
                    have ad := add_at b o
                    have RG := Lib.hid ((HB.out.r.pts.at_ hlt).2)
                    have okp := Lib.hid (HB.out.r.pts.nth hlt)
                    have ll := Lib.hid (ptV_len okp.out)
                    rw [ptsS_step (idS p.first) y (l := p.pts) (k := k) (by rw [HL]; exact hlt)] at E
                    obtain ⟨x, hx⟩ : ∃ x, nthP p.pts k = x := ⟨_, rfl⟩
                    rw [hx] at RG okp ll E
                    have HX := Lib.hid hx
                    clear hx
                    have z0 := zeroPt
                    go_wp2_with (first | (refine wpList_load_part rfl (.tmp 60) rfl rfl rowPt RG.out ll.out ?_) | (refine wpList_store_ro rfl (.tmp 6) (.tmp 61) rfl rfl rfl rowPt (Ro.new wr 63 (ptV zeroP)) rfl ll.out (ptV_one _) ?_))
                    intro w4 R4 g4
                    obtain ⟨h, H⟩ := x
                    have b4 := Lib.hid (box_store g4)
                    have B4 := Lib.hid (HB.out.later b4.out)
                    have L4 := Lib.hid (HL2.out.trans (b4.out.mono HL2.out.size))
                    have lH : Hid (H.length = 32) := Lib.hid okp.out.len
                    have RH := Lib.hid (pt_hash (rangeOf R4))
                    have RF := Lib.hid B4.out.first
                    have R4' := Lib.hid R4
                    have u0 : ∀ u : After w4, u.w.cell? ⟨wr.heap.size, 0, none⟩ = some (.int .i64 h) := fun u => by
                      have := pt_height (rangeOf R4'.out)
                      rw [← this]
                      exact u.below.cell R4'.out.lt
                    have us : ∀ u : After w4, u.w.cell? ⟨s1, 3, none⟩ = some (.slice (some ⟨b, o, none⟩) n c) := fun u => (B4.out.later u.below).sl
                    have lF := Lib.hid (hdV_len B4.out.r.ok.first)
                    have HCI : Hid (∀ u : After w4, Calls Tryz.prog 22 #[.agg (hdV p.first).toArray] u.w fun e w' => e = .returned (.agg (vals (idS p.first)).toArray) ∧ Below u.w.heap.size u.w w') := Lib.hid (fun u => refId_any B4.out.r.ok.first u.w)
                    have EQ := eqV lH.out (idS_len p.first)
                    obtain ⟨I, hI⟩ : ∃ I, idS p.first = I := ⟨_, rfl⟩
                    obtain ⟨F, hF⟩ : ∃ F, p.first = F := ⟨_, rfl⟩
                    rw [hF] at hI HCI RF lF EQ E hM
                    rw [hI] at HCI E EQ hM
                    have HI := Lib.hid hI
                    have HF2 := Lib.hid hF
                    clear hI hF R4 g4 z0 ll RG HB HL2
                    by_cases d0 : h < 0
                    · have D0 := Lib.hid d0
                      have q0 : decide (h < 0) = true := decide_eq_true d0
                      clear d0 EQ
                      go_wp2_with fail
                      refine wp_region_after (by kernel_rfl) (by kernel_rfl) ?_
                      repeat (go_big_quiet_step (fail))
                      refine wpQuiet_nil ?_
                      rintro _ ⟨u, rfl⟩
                      have L5 := Lib.hid (L4.out.trans (u.below.mono L4.out.size))
                      have B5 := Lib.hid (B4.out.later u.below)
                      clear u0 us
                      go_wp2_with fail
                      go_ret
                      exact ⟨by rw [hM.out, E.out, if_pos (.inl (by have := D0.out; rcases Y.out with ⟨_, e⟩ | ⟨_, e, _⟩ <;> omega))]; rfl, L5.out⟩
                    · have D0 : Hid (0 ≤ h) := Lib.hid (by omega)
                      have q0 : decide (h < 0) = false := decide_eq_false d0
                      clear d0
                      by_cases d1 : k = 0
                      · subst d1
                        have YM : Hid (y = -1) := Lib.hid (by rcases Y.out with ⟨_, e⟩ | ⟨e, _, _⟩ <;> omega)
                        by_cases d2 : h = 0
                        · subst d2
                          by_cases d3 : H = I
                          · have D3 := Lib.hid d3
                            rw [eqB_yes d3] at EQ
                            clear d3
                            go_wp2_with fail
                            refine wp_region_after (by kernel_rfl) (by kernel_rfl) ?_
                            repeat (go_big_quiet_step (fail))
                            go_big_quiet_want
                            refine quiet_load_part (.tmp 86) rfl rfl row32 (fun w9 h9 => by obtain ⟨u, rfl⟩ := h9; exact range_later RH.out R4'.out.lt u.below) (by rw [vals_length]; exact lH.out) ?_
                            simp only [Act.put, List.setIfInBounds_toArray, List.set_cons_succ, List.set_cons_zero]
                            go_big_quiet_on
                            repeat (go_big_quiet_step (fail))
                            go_big_quiet_want
                            refine quiet_load_part (.tmp 88) rfl rfl rowHd (fun w9 h9 => by obtain ⟨u, rfl⟩ := h9; exact range_later RF.out B4.out.ro.lt u.below) lF.out ?_
                            simp only [Act.put, List.setIfInBounds_toArray, List.set_cons_succ, List.set_cons_zero]
                            go_big_quiet_on
                            go_big_quiet_step (exact after_call (HCI.out _))
                            repeat (go_big_quiet_step (fail))
                            refine wpQuiet_nil ?_
                            rintro _ ⟨u, rfl⟩
                            have L5 := Lib.hid (L4.out.trans (u.below.mono L4.out.size))
                            have B5 := Lib.hid (B4.out.later u.below)
                            clear u0 us
                            go_wp2_with fail
                            exact ⟨⟨0 + 1, 0, by omega, by go_num, Lib.hid (.inr ⟨by omega, by omega, by rw [Nat.add_sub_cancel, HX.out]⟩), Lib.hid (by rw [HF2.out, HI.out, E.out, if_neg (fun q => q.elim (fun q => absurd q (by have := YM.out; omega)) (fun q => q.2 D3.out))]), B5.out, L5.out⟩, by simp [intOf]; omega⟩
                          · have D3 := Lib.hid d3
                            rw [eqB_no d3] at EQ
                            clear d3
                            go_wp2_with fail
                            refine wp_region_after (by kernel_rfl) (by kernel_rfl) ?_
                            repeat (go_big_quiet_step (fail))
                            go_big_quiet_want
                            refine quiet_load_part (.tmp 86) rfl rfl row32 (fun w9 h9 => by obtain ⟨u, rfl⟩ := h9; exact range_later RH.out R4'.out.lt u.below) (by rw [vals_length]; exact lH.out) ?_
                            simp only [Act.put, List.setIfInBounds_toArray, List.set_cons_succ, List.set_cons_zero]
                            go_big_quiet_on
                            repeat (go_big_quiet_step (fail))
                            go_big_quiet_want
                            refine quiet_load_part (.tmp 88) rfl rfl rowHd (fun w9 h9 => by obtain ⟨u, rfl⟩ := h9; exact range_later RF.out B4.out.ro.lt u.below) lF.out ?_
                            simp only [Act.put, List.setIfInBounds_toArray, List.set_cons_succ, List.set_cons_zero]
                            go_big_quiet_on
                            go_big_quiet_step (exact after_call (HCI.out _))
                            repeat (go_big_quiet_step (fail))
                            refine wpQuiet_nil ?_
                            rintro _ ⟨u, rfl⟩
                            have L5 := Lib.hid (L4.out.trans (u.below.mono L4.out.size))
                            have B5 := Lib.hid (B4.out.later u.below)
                            clear u0 us
                            go_wp2_with fail
                            go_ret
                            exact ⟨by rw [hM.out, E.out, if_pos (.inr ⟨by simp, fun e => D3.out e⟩)]; rfl, L5.out⟩
                        · have D2 := Lib.hid d2
                          have q2 : (h == 0) = false := by simpa using d2
                          clear d2 EQ
                          go_wp2_with fail
                          refine wp_region_after (by kernel_rfl) (by kernel_rfl) ?_
                          repeat (go_big_quiet_step (fail))
                          refine wpQuiet_nil ?_
                          rintro _ ⟨u, rfl⟩
                          have L5 := Lib.hid (L4.out.trans (u.below.mono L4.out.size))
                          have B5 := Lib.hid (B4.out.later u.below)
                          clear u0 us
                          go_wp2_with fail
                          exact ⟨⟨0 + 1, h, by omega, by go_num, Lib.hid (.inr ⟨by omega, by have := D0.out; omega, by rw [Nat.add_sub_cancel, HX.out]⟩), Lib.hid (by rw [HF2.out, HI.out, E.out, if_neg (fun q => q.elim (fun q => absurd q (by have := YM.out; have := D0.out; omega)) (fun q => D2.out q.1))]), B5.out, L5.out⟩, by simp [intOf]; omega⟩
                      · obtain ⟨q, rfl⟩ : ∃ q, k = q + 1 := ⟨k - 1, by omega⟩
                        have YM : Hid (0 ≤ y ∧ y = (nthP p.pts q).1) := Lib.hid (by rcases Y.out with ⟨e, _⟩ | ⟨_, e1, e2⟩; omega; exact ⟨e1, e2⟩)
                        have RQ := Lib.hid ((B4.out.r.pts.at_ (k := q) (by omega)).2)
                        have hb4 : Hid (b < w4.heap.size) := Lib.hid (B4.out.r.pts.at_ (k := q) (by omega)).1
                        have uq : ∀ u : After w4, u.w.cell? ⟨b, o + q * 33, none⟩ = some (.int .i64 y) := fun u => by rw [YM.out.2, ← pt_height RQ.out]; exact u.below.cell hb4.out
                        by_cases d2 : h ≤ y
                        · have D2 := Lib.hid d2
                          have q2 : decide (h ≤ y) = true := decide_eq_true d2
                          clear d2 EQ
                          go_wp2_with fail
                          refine wp_region_after (by kernel_rfl) (by kernel_rfl) ?_
                          repeat (go_big_quiet_step (fail))
                          refine wpQuiet_nil ?_
                          rintro _ ⟨u, rfl⟩
                          have L5 := Lib.hid (L4.out.trans (u.below.mono L4.out.size))
                          have B5 := Lib.hid (B4.out.later u.below)
                          clear u0 us
                          go_wp2_with fail
                          go_ret
                          exact ⟨by rw [hM.out, E.out, if_pos (.inl D2.out)]; rfl, L5.out⟩
                        · have D2 := Lib.hid d2
                          have q2 : decide (h ≤ y) = false := decide_eq_false d2
                          have q3 : (h == 0) = false := by have := YM.out.1; simp; omega
                          clear d2 EQ
                          go_wp2_with fail
                          refine wp_region_after (by kernel_rfl) (by kernel_rfl) ?_
                          repeat (go_big_quiet_step (fail))
                          refine wpQuiet_nil ?_
                          rintro _ ⟨u, rfl⟩
                          have L5 := Lib.hid (L4.out.trans (u.below.mono L4.out.size))
                          have B5 := Lib.hid (B4.out.later u.below)
                          clear u0 us
                          go_wp2_with fail
                          exact ⟨⟨q + 1 + 1, h, by omega, by go_num, Lib.hid (.inr ⟨by omega, by have := D0.out; omega, by rw [Nat.add_sub_cancel, HX.out]⟩), Lib.hid (by rw [HF2.out, HI.out, E.out, if_neg (fun q => q.elim (fun q => absurd q (by have := D2.out; omega)) (fun q => absurd q.1 (by have := D2.out; have := YM.out.1; omega)))]), B5.out, L5.out⟩, by simp [intOf]; omega⟩
                  · obtain rfl : k = n := by omega
                    go_wp2_with fail
                    go_ret
                    refine ⟨?_, HL2.out⟩
                    rw [hM.out, E.out, List.drop_of_length_le (by rw [HL]; omega)]
                    rfl
              · have D5 := Lib.hid d
                have q5 : ((fb : Int) != (k : Int)) = true := by simp; omega
                clear d
                go_wp2_with fail
                refine wp_region_after (by kernel_rfl) (by kernel_rfl) ?_
                repeat (go_big_quiet_step ((go_at_call 24; exact after_call (CC.out _))))
                refine wpQuiet_nil ?_
                rintro _ ⟨u, rfl⟩
                have L3 := Lib.hid (L2.out.trans (u.below.mono L2.out.size))
                have B3 := Lib.hid (B2.out.later u.below)
                clear u0 u1 u2 u3 ul ui us ub CC
                go_wp2_with fail
                go_ret
                exact ⟨by rw [mayS, hS.out, hN.out, HF.out, HLm.out, decide_eq_false D5.out]; rfl, L3.out⟩
    · have E := Lib.hid e
      have qe : (((k : Nat) : Int) != (lim : Int)) = true := by simp; omega
      clear e
      go_wp2_with fail
      refine wp_region_after (by kernel_rfl) (by kernel_rfl) ?_
      repeat (go_big_quiet_step ((go_at_call 24; exact after_call (CC.out _))))
      refine wpQuiet_nil ?_
      rintro _ ⟨u, rfl⟩
      have L3 := Lib.hid (L2.out.trans (u.below.mono L2.out.size))
      have B3 := Lib.hid (B2.out.later u.below)
      clear u0 u1 u2 u3 ul ui us ub CC
      go_wp2_with fail
      go_ret
      exact ⟨by rw [mayS, limS, decide_eq_false (fun q => E.out (HK.out.symm.trans (q.2.trans HLm.out)))]; rfl, L3.out⟩
  · rw [decide_eq_false ok, hl]
    have OK := Lib.hid ok
    clear ok hl
    go_wp2_with fail
    refine wp_region_after (by kernel_rfl) (by kernel_rfl) ?_
    repeat (go_big_quiet_step ((go_at_call 24; exact after_call (CC.out _))))
    refine wpQuiet_nil ?_
    rintro _ ⟨u, rfl⟩
    have L3 := Lib.hid (L2.out.trans (u.below.mono L2.out.size))
    have B3 := Lib.hid (B2.out.later u.below)
    clear u0 u1 u2 u3 ul ui us ub CC
    go_wp2_with fail
    go_ret
    exact ⟨by rw [mayS, limS, decide_eq_false (fun q => OK.out q.1)]; rfl, L3.out⟩
end Go.Proofs.YtimjmmiajgfblaaGreatDoor
