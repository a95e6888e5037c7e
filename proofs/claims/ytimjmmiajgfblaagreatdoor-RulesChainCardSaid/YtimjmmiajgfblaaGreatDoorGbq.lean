/- The target behind a whole number of intervals, as the package rules has it. No condition but that the parameters may be, that there are enough headers, and that the tables lie as laid. -/
import Derived.Test.YtimjmmiajgfblaaGreatDoorGbp
import Derived.Test.YtimjmmiajgfblaaGreatDoorGaa
import Derived.Test.YtimjmmiajgfblaaGreatDoorQMul
import Derived.Test.YtimjmmiajgfblaaGreatDoorGah
import Derived.Test.YtimjmmiajgfblaaGreatDoorGag
import Derived.Test.YtimjmmiajgfblaaGreatDoorQRefMul
import Derived.Test.YtimjmmiajgfblaaGreatDoorQRefDiv

namespace Go.Proofs.YtimjmmiajgfblaaGreatDoor
open Go.RowKit

theorem div_lit {t0 t1 t2 t3 n q0 q1 q2 q3 r : Nat} (h : Bg.DivIs t0 t1 t2 t3 n 0 0 0 q0 q1 q2 q3 r 0 0 0) (w : World) : Calls Tryz.prog 60 #[.agg #[.int .u64 (t0 : Nat), .int .u64 (t1 : Nat), .int .u64 (t2 : Nat), .int .u64 (t3 : Nat)], .agg #[.int .u64 (n : Nat), .int .u64 0, .int .u64 0, .int .u64 0]] w fun e w' => e = .returned (.tuple #[.agg #[.int .u64 (q0 : Nat), .int .u64 (q1 : Nat), .int .u64 (q2 : Nat), .int .u64 (q3 : Nat)], .agg #[.int .u64 (r : Nat), .int .u64 0, .int .u64 0, .int .u64 0], .int .i64 0]) ∧ Below w.heap.size w w' := h w
theorem add_lit {p0 p1 p2 p3 n z0 z1 z2 z3 : Nat} {o : Bool} (h : Bg.AddIs p0 p1 p2 p3 n 0 0 0 z0 z1 z2 z3 o) (w : World) : Calls Tryz.prog 62 #[.agg #[.int .u64 (p0 : Nat), .int .u64 (p1 : Nat), .int .u64 (p2 : Nat), .int .u64 (p3 : Nat)], .agg #[.int .u64 (n : Nat), .int .u64 0, .int .u64 0, .int .u64 0]] w fun e w' => e = .returned (.tuple #[.agg #[.int .u64 (z0 : Nat), .int .u64 (z1 : Nat), .int .u64 (z2 : Nat), .int .u64 (z3 : Nat)], .bool o]) ∧ Below w.heap.size w w' := h w
theorem val_word (n : Nat) : Bg.val n 0 0 0 = n := by unfold Bg.val; omega
theorem words_word {n : Nat} (h : n < 18446744073709551616) : Bg.Words n 0 0 0 := ⟨h, by omega, by omega, by omega⟩

theorem step_wp {P : Program} {w : World} {o : Oper} {ops : Array Oper} {a : Act} {Q : Exit → Act → World → Prop} {K : Act → World → Prop} {E : Prop} (hg : o.guard = none) (h : Oper.wp P o a w K Q) : if Region.wanted o (yielded ops a.tmps) = true then Oper.wp P o a w K Q else E := by
  have hw : Region.wanted o (yielded ops a.tmps) = true := by simp [Region.wanted, hg]
  rw [if_pos hw]
  exact h
/-- The boxes that count behind the sum: the limit, the result, the target. -/
structure NxA (w : World) (sm sr st m0 m1 m2 m3 x0 x1 x2 x3 : Nat) (wr : World) : Prop where
  a : Below w.heap.size w wr
  m : BigB wr sm m0 m1 m2 m3
  z : BigB wr sr 0 0 0 0
  t : BigB wr st x0 x1 x2 x3
  hst : w.heap.size ≤ st
  hsr : w.heap.size ≤ sr
  hmt : sm < st
  hzt : sr < st
section
variable {w wr w1 : World} {sm sr st m0 m1 m2 m3 x0 x1 x2 x3 z0 z1 z2 z3 : Nat}
theorem NxA.later (h : NxA w sm sr st m0 m1 m2 m3 x0 x1 x2 x3 wr) (g : Below wr.heap.size wr w1) : NxA w sm sr st m0 m1 m2 m3 x0 x1 x2 x3 w1 :=
  ⟨h.a.trans (g.mono h.a.size), h.m.later g, h.z.later g, h.t.later g, h.hst, h.hsr, h.hmt, h.hzt⟩
theorem NxA.put (h : NxA w sm sr st m0 m1 m2 m3 x0 x1 x2 x3 wr) (r : Ro w1 st 51 (bigV z0 z1 z2 z3)) (g : wr.grownBy w1 (some st)) : NxA w sm sr st m0 m1 m2 m3 z0 z1 z2 z3 w1 :=
  ⟨h.a.grown g h.a.size (fun q e => by injection e with e; subst e; exact h.hst), ⟨h.m.ro.far g (fun e => by injection e with e; have := h.hmt; omega)⟩, ⟨h.z.ro.far g (fun e => by injection e with e; have := h.hzt; omega)⟩, ⟨r⟩, h.hst, h.hsr, h.hmt, h.hzt⟩
end

set_option maxRecDepth 100000 in
set_option maxHeartbeats 8000000 in
theorem next_any {p : Pm} {A B : Option Addr} {n c m d : Nat} {l : List Hd} (w : World) (hP : PmR w p A n c) (hm : m ≤ 1000000) (hd : m ≤ d) (hL : Hs w B m l) (hM : mayS p = true) (hi : p.iv.toNat ≤ m) :
    Calls Tryz.prog 32 #[.agg (pmV p A n c).toArray, .slice B m d] w fun e w' => (∃ s0 s1 s2 s3 : Nat, Bg.Words s0 s1 s2 s3 ∧ Bg.val s0 s1 s2 s3 = nextT p l ∧ e = .returned (.agg (bigV s0 s1 s2 s3).toArray)) ∧ Below w.heap.size w w' := by
  have hN : numS p = true ∧ limS p = true := by
    unfold mayS at hM
    simp only [Bool.and_eq_true] at hM
    exact ⟨hM.1.1.2, hM.1.1.1⟩
  have hn := of_decide_eq_true hN.1
  have hl := of_decide_eq_true hN.2
  obtain ⟨v, hv⟩ : ∃ v : Nat, p.iv = (v : Int) := ⟨p.iv.toNat, by omega⟩
  have hv' : p.iv.toNat = v := by omega
  have hlen := hL.len
  have ok1 := Lib.hid (nthH_ok hL.ok (m - 1))
  obtain ⟨b, o, rfl, _, _⟩ := hL.cel (by omega)
  have ad := add_at b o
  have HL := Lib.hid hL
  have B0 := Lib.hid (PmB.new hP)
  have HB0 := Lib.hid ((Below.refl w.heap.size w).alloc (Nat.le_refl _) (.cells (pmV p A n c).toArray 29))
  have hpl := hP.ok.limit
  obtain ⟨m0, m1, m2, m3, wM, eM, CM, _⟩ := of_words p.limit hpl
  obtain ⟨t0, t1, t2, t3, wT, eT, CT, _⟩ := of_words (nthH l (m - 1)).b ok1.out.b
  have hv1 : 2 ≤ v ∧ v ≤ 2016 := by omega
  obtain ⟨sp, hsp⟩ : ∃ sp, p.sp = sp := ⟨_, rfl⟩
  have hs1 : 1 ≤ sp ∧ sp ≤ 3600 := by omega
  have hw1 : v * sp ≤ 2016 * 3600 := Nat.mul_le_mul hv1.2 hs1.2
  have hw0 : 1 ≤ v * sp := Nat.mul_le_mul (show 1 ≤ v by omega) hs1.1
  obtain ⟨g, hg⟩ : ∃ g, v * sp = g := ⟨_, rfl⟩
  rw [hg] at hw1 hw0
  have yw : IntKind.i64.wrap ((v : Int) * (sp : Int)) = (g : Int) := by
    rw [← hg, Int.natCast_mul]
    exact IntWalk.i64_in _ (by rw [← Int.natCast_mul, hg]; omega)
  obtain ⟨k1, hk1⟩ : ∃ k1, m - v = k1 := ⟨_, rfl⟩
  have km : k1 < m := by omega
  have ym : IntKind.i64.wrap ((m : Int) - (v : Int)) = (k1 : Int) := by rw [IntWalk.i64_in _ (by omega)]; omega
  have k0 : Hid (m - 1 < m) := Lib.hid (by omega)
  have y1 : IntKind.i64.wrap ((m : Int) - 1) = ((m - 1 : Nat) : Int) := by rw [IntWalk.i64_in _ (by omega)]; omega
  have ok2 := Lib.hid (nthH_ok hL.ok k1)
  have eN : Hid (nextT p l = nextN (tgtN (nthH l (m - 1)).b) (min (max (((nthH l (m - 1)).t : Int) - ((nthH l k1).t : Int)) ((g : Int) / 4)) ((g : Int) * 4)).toNat g (tgtN p.limit)) := Lib.hid (by
    unfold nextT spanS lastH
    rw [hlen, hv', hk1, hv, hsp, ← Int.natCast_mul, hg]
    rfl)
  have hMp : Hid (0 < tgtN p.limit) := Lib.hid (by
    unfold tgtN
    rw [if_pos hl.1]
    exact Nat.mul_pos (Nat.pos_of_ne_zero hl.1.1) (Nat.two_pow_pos _))
  obtain ⟨j1, hj1⟩ : ∃ j1, m - 1 = j1 := ⟨_, rfl⟩
  rw [hj1] at ok1 k0 y1 eN eT CT
  obtain ⟨h1, eh1⟩ : ∃ h1, nthH l j1 = h1 := ⟨_, rfl⟩
  obtain ⟨h2, eh2⟩ : ∃ h2, nthH l k1 = h2 := ⟨_, rfl⟩
  rw [eh1] at ok1 eN eT CT
  rw [eh2] at ok2 eN
  have RG1 := Lib.hid ((hL.at_ (k := j1) k0.out).2)
  have RG2 := Lib.hid ((hL.at_ (k := k1) km).2)
  rw [eh1] at RG1
  rw [eh2] at RG2
  have hb := Lib.hid (hL.at_ (k := k1) km).1
  have ll := Lib.hid (hdV_len ok1.out)
  obtain ⟨x1, ex1⟩ : ∃ x, h1.t = x := ⟨_, rfl⟩
  obtain ⟨x2, ex2⟩ : ∃ x, h2.t = x := ⟨_, rfl⟩
  have hx1 := ok1.out.t
  have hx2 := ok2.out.t
  rw [ex1] at hx1 eN
  rw [ex2] at hx2 eN
  obtain ⟨bt, ebt⟩ : ∃ x, h1.b = x := ⟨_, rfl⟩
  rw [ebt] at eN eT CT
  have c65 : Hid ((hdV h1)[65]? = some (.int .u32 (x1 : Nat))) := Lib.hid (by rw [← ex1]; exact hdV_no ok1.out (k := 1) (by decide))
  have c66 : Hid ((hdV h1)[66]? = some (.int .u32 (bt : Nat))) := Lib.hid (by rw [← ebt]; exact hdV_no ok1.out (k := 2) (by decide))
  have d65 : Hid ((hdV h2)[65]? = some (.int .u32 (x2 : Nat))) := Lib.hid (by rw [← ex2]; exact hdV_no ok2.out (k := 1) (by decide))
  have HCM := Lib.hid CM
  have HCT := Lib.hid CT
  have HwM := Lib.hid wM
  have HwT := Lib.hid wT
  have HeM := Lib.hid eM
  have HeT := Lib.hid eT
  obtain ⟨lim, hlim⟩ : ∃ x, p.limit = x := ⟨_, rfl⟩
  rw [hlim] at HCM eN HeM hMp hpl
  have HLM := Lib.hid hlim
  have HV := Lib.hid hv
  have HSP := Lib.hid hsp
  clear hP hL hM hi hN hn hl hv hv' hlen hg hk1 eh1 eh2 ex1 ex2 ebt CM CT wM wT eM eT hlim hsp hj1
  have z0 := zeroHd
  have A0 := (Below.refl w.heap.size w).alloc (Nat.le_refl _) (.cells (pmV p A n c).toArray 29)
  have A1 := Lib.hid (A0.alloc A0.size (.cells #[.int .u64 0, .int .u64 0, .int .u64 0, .int .u64 0] 51))
  have P1 := Lib.hid (B0.out.later ((Below.refl _ _).alloc (Nat.le_refl _) (.cells #[.int .u64 0, .int .u64 0, .int .u64 0, .int .u64 0] 51)))
  have Z1 : BigB ((w.alloc (.cells (pmV p A n c).toArray 29)).alloc (.cells #[.int .u64 0, .int .u64 0, .int .u64 0, .int .u64 0] 51)) (w.alloc (.cells (pmV p A n c).toArray 29)).heap.size 0 0 0 0 := ⟨Ro.new _ _ _⟩
  rw [World.size_alloc] at Z1
  have HZ1 := Lib.hid Z1
  have RG3 := Lib.hid (range_later RG1.out hb.out A1.out)
  have R0 := Ro.new ((w.alloc (.cells (pmV p A n c).toArray 29)).alloc (.cells #[.int .u64 0, .int .u64 0, .int .u64 0, .int .u64 0] 51)) 27 (hdV zeroH)
  rw [World.size_alloc, World.size_alloc] at R0
  have HR0 := Lib.hid R0
  clear A0 Z1 B0 HB0 R0
  go_enter Tryz.func32, Tryz.ntmps32
  go_wp2_with (first | (refine wpList_load_part rfl (.tmp 23) rfl rfl rowHd RG3.out ll.out ?_) | (refine wpList_store_ro rfl (.tmp 5) (.tmp 24) rfl rfl rfl rowHd HR0.out rfl ll.out (hdV_one _) ?_))
  intro w4 R4 g4
  have s1 : (((w.alloc (.cells (pmV p A n c).toArray 29)).alloc (.cells #[.int .u64 0, .int .u64 0, .int .u64 0, .int .u64 0] 51))).heap.size = w.heap.size + 1 + 1 := by rw [World.size_alloc, World.size_alloc]
  rw [← s1] at g4
  have A4 := Lib.hid (A1.out.trans ((box_store g4).mono A1.out.size))
  clear s1
  have P4 := Lib.hid (P1.out.later (box_store g4))
  have Z4 := Lib.hid (HZ1.out.later (box_store g4))
  have R4' := Lib.hid R4
  clear R4 g4 A1 P1 HZ1 RG3 z0 HR0
  generalize w.heap.size + 1 + 1 = sh at R4' ⊢
  have hsr : w.heap.size ≤ w.heap.size + 1 := by omega
  generalize w.heap.size + 1 = sr at Z4 hsr ⊢
  have HSR := Lib.hid hsr
  clear hsr
  obtain ⟨s0, hs0⟩ : ∃ s0, w.heap.size = s0 := ⟨_, rfl⟩
  rw [hs0] at P4 ⊢
  have HS0 := Lib.hid hs0
  clear hs0
  have ci := P4.out.iv
  have cs := P4.out.sp
  rw [HV.out] at ci
  rw [HSP.out] at cs
  have u1 : ∀ u : After w4, u.w.cell? ⟨s0, 1, none⟩ = some (.int .i64 (v : Int)) := fun u => by rw [← HV.out]; exact (P4.out.later u.below).iv
  have u2 : ∀ u : After w4, u.w.cell? ⟨sh, 65, none⟩ = some (.int .u32 (x1 : Nat)) := fun u => (R4'.out.later u.below).cell c65.out
  have u3 : ∀ u : After w4, u.w.cell? ⟨b, o + k1 * 68 + 65, none⟩ = some (.int .u32 (x2 : Nat)) := fun u => range_later (RG2.out) hb.out (A4.out.trans (u.below.mono A4.out.size)) 65 _ d65.out
  have ys : IntKind.i64.wrap ((x1 : Int) - (x2 : Int)) = (x1 : Int) - (x2 : Int) := IntWalk.i64_in _ (by omega)
  go_wp2_with fail
  refine wp_region_after (by kernel_rfl) (by kernel_rfl) ?_
  repeat (go_big_quiet_step (fail))
  refine wpQuiet_nil ?_
  rintro _ ⟨u, rfl⟩
  have A5 := Lib.hid (A4.out.trans (u.below.mono A4.out.size))
  have P5 := Lib.hid (P4.out.later u.below)
  have Z5 := Lib.hid (Z4.out.later u.below)
  have R5 := Lib.hid (R4'.out.later u.below)
  clear u1 u2 u3 ys ci cs A4 P4 Z4 R4'
  generalize u.w = w5 at *
  obtain ⟨dx, hdx⟩ : ∃ dx, (x1 : Int) - (x2 : Int) = dx := ⟨_, rfl⟩
  rw [hdx] at eN ⊢
  have hg0 : (0 : Int) ≤ (g : Int) := by omega
  have hS := clampN (span := dx) hg0
  obtain ⟨S, hS1⟩ : ∃ S : Nat, min (max dx ((g : Int) / 4)) ((g : Int) * 4) = (S : Int) := ⟨(min (max dx ((g : Int) / 4)) ((g : Int) * 4)).toNat, by omega⟩
  rw [hS1] at eN hS
  have hS4 : S ≤ 4 * g := by omega
  rw [Int.toNat_natCast] at eN
  have cl := P5.out.limit
  rw [HLM.out] at cl
  clear hS hdx
  go_wp2_with fail
  clear cl
  refine (HCM.out _).mono ?_
  rintro e w6 ⟨rfl, h6⟩
  have A6 := Lib.hid (A5.out.trans (h6.mono A5.out.size))
  have P6 := Lib.hid (P5.out.later h6)
  have Z6 := Lib.hid (Z5.out.later h6)
  have R6 := Lib.hid (R5.out.later h6)
  clear h6 A5 P5 Z5 R5
  have d66 := (R6.out.later ((Below.refl _ _).alloc (Nat.le_refl _) (.cells #[.int .u64 (m0 : Nat), .int .u64 (m1 : Nat), .int .u64 (m2 : Nat), .int .u64 (m3 : Nat)] 51))).cell c66.out
  go_wp2_with fail
  clear d66
  refine (HCT.out _).mono ?_
  rintro e w8 ⟨rfl, h8⟩
  have b7 := (Below.refl w6.heap.size w6).alloc (Nat.le_refl _) (.cells #[.int .u64 (m0 : Nat), .int .u64 (m1 : Nat), .int .u64 (m2 : Nat), .int .u64 (m3 : Nat)] 51)
  have M7 : BigB (w6.alloc (.cells #[.int .u64 (m0 : Nat), .int .u64 (m1 : Nat), .int .u64 (m2 : Nat), .int .u64 (m3 : Nat)] 51)) w6.heap.size m0 m1 m2 m3 := ⟨Ro.new _ _ _⟩
  have A8 := Lib.hid ((A6.out.trans (b7.mono A6.out.size)).trans (h8.mono (Nat.le_trans A6.out.size b7.size)))
  have P8 := Lib.hid ((P6.out.later b7).later h8)
  have Z8 := Lib.hid ((Z6.out.later b7).later h8)
  have M8 := Lib.hid (M7.later h8)
  clear h8 b7 M7 A6 P6 Z6 R6
  generalize w6.heap.size = sm at M8 ⊢
  go_wp2_with fail
  have b9 := (Below.refl w8.heap.size w8).alloc (Nat.le_refl _) (.cells #[.int .u64 (t0 : Nat), .int .u64 (t1 : Nat), .int .u64 (t2 : Nat), .int .u64 (t3 : Nat)] 51)
  have T9 : BigB (w8.alloc (.cells #[.int .u64 (t0 : Nat), .int .u64 (t1 : Nat), .int .u64 (t2 : Nat), .int .u64 (t3 : Nat)] 51)) w8.heap.size t0 t1 t2 t3 := ⟨Ro.new _ _ _⟩
  have A9 := Lib.hid (A8.out.trans (b9.mono A8.out.size))
  have Z9 := Lib.hid (Z8.out.later b9)
  have M9 := Lib.hid (M8.out.later b9)
  have hst := Lib.hid A8.out.size
  have hmt := Lib.hid M8.out.lt
  have hzt := Lib.hid Z8.out.lt
  generalize (w8.alloc (.cells #[.int .u64 (t0 : Nat), .int .u64 (t1 : Nat), .int .u64 (t2 : Nat), .int .u64 (t3 : Nat)] 51)) = w9 at T9 A9 Z9 M9 ⊢
  have T9' := Lib.hid T9
  clear b9 T9 A8 P8 Z8 M8
  generalize w8.heap.size = st at T9' hst hmt hzt ⊢
  obtain ⟨T, hT⟩ : ∃ T, tgtN bt = T := ⟨_, rfl⟩
  obtain ⟨M, hMM⟩ : ∃ M, tgtN lim = M := ⟨_, rfl⟩
  have hTl := tgtN_lt bt
  have hMl := tgtN_lt lim
  rw [hT] at eN HeT hTl
  rw [hMM] at eN HeM hMp hMl
  have hgp : 0 < g := hw0
  have hr : T % g < g := Nat.mod_lt _ hgp
  obtain ⟨q0, q1, q2, q3, wq, eq⟩ := Bg.words_of (x := T / g) (Nat.lt_of_le_of_lt (Nat.div_le_self _ _) hTl)
  obtain ⟨r, hrr⟩ : ∃ r, T % g = r := ⟨_, rfl⟩
  rw [hrr] at hr
  have CD := Lib.hid (div_lit (Bg.divIs HwT.out (words_word (n := g) (by omega)) wq (words_word (n := r) (by omega)) (by rw [val_word]; exact hgp) (by rw [HeT.out, val_word]; exact eq) (by rw [HeT.out, val_word, val_word]; exact hrr.symm)))
  have CO := Lib.hid (Bg.ofIs g)
  obtain ⟨p0, p1, p2, p3, x, wp, hx, ep, CMu⟩ := Bg.mul_any (n := S) wq (by omega)
  rw [eq] at ep
  have HCMu := Lib.hid CMu
  have Hep := Lib.hid ep
  have Hwp := Lib.hid wp
  have HR := Lib.hid hrr
  have HTl := Lib.hid hTl
  have HMl := Lib.hid hMl
  clear hT hMM hTl hMl wq eq hrr CMu ep wp HwT HeT
  have PB := A9.out
  have xt : Bg.Box w9 st t0 t1 t2 t3 := ⟨T9'.out.c0, T9'.out.c1, T9'.out.c2, T9'.out.c3⟩
  have T9 := T9'.out
  replace M9 := M9.out
  replace Z9 := Z9.out
  clear A9 T9'
  have HPB := Lib.hid PB
  clear PB
  refine wp_region_grow 9 (by kernel_rfl) (Nat.le_of_ble_eq_true (by kernel_rfl)) (by kernel_rfl) (by kernel_rfl) (fun _ _ _ _ _ h => h) ?_
  apply Exists.intro
  refine ⟨?_, ?_⟩
  · intro wg hg
    simp only [List.take_succ_cons, List.take_zero]
    have ct := xt.later hg
    obtain ⟨ct0, ct1, ct2, ct3⟩ := ct
    have ut0 : ∀ u : After wg, u.w.cell? ⟨st, 0, none⟩ = some (.int .u64 (t0 : Nat)) := fun u => u.cell ct0
    have ut1 : ∀ u : After wg, u.w.cell? ⟨st, 1, none⟩ = some (.int .u64 (t1 : Nat)) := fun u => u.cell ct1
    have ut2 : ∀ u : After wg, u.w.cell? ⟨st, 2, none⟩ = some (.int .u64 (t2 : Nat)) := fun u => u.cell ct2
    have ut3 : ∀ u : After wg, u.w.cell? ⟨st, 3, none⟩ = some (.int .u64 (t3 : Nat)) := fun u => u.cell ct3
    repeat (go_big_quiet_step ((first | (go_at_call 57; exact after_call (CO.out _)) | (go_at_call 60; exact after_call (CD.out _)))))
    refine wpQuiet_nil ?_
    exact rfl
  intro wg hg
  show wpK _ _ _ _ _ 5 _ _ _
  refine wpK_box2 (f := 3) (i := 9) (k := 10) (c := #[.int .u64 0, .int .u64 0, .int .u64 0, .int .u64 0]) (c2 := #[.int .u64 0, .int .u64 0, .int .u64 0, .int .u64 0]) (T := 51) (T2 := 51) (by kernel_rfl) (by kernel_rfl) (by kernel_rfl) (by decide) rfl rfl rfl rfl rfl rfl (by decide) (fun a w => by go_simp) (fun a w => by go_simp) hg ?_
  intro Bq Br wh gh lq lr ne Hq Hr
  replace lq := Nat.le_trans hg.size lq
  replace lr := Nat.le_trans hg.size lr
  have ge := hg.trans gh
  clear hg gh
  refine wpK_one (f := 2) (i := 11) (by kernel_rfl) rfl rfl ?_
  intro wc gc K hK
  replace ge := ge.trans gc
  replace Hq := Hq.later gc
  replace Hr := Hr.later gc
  have ic0 : wc.cell? ⟨Bq, 0, none⟩ = some (.int .u64 0) := Hq.cell 0
  have iz0 : wc.frozen? ⟨Bq, 0, none⟩ = false := Hq.free 0
  have ic1 : wc.cell? ⟨Bq, 1, none⟩ = some (.int .u64 0) := Hq.cell 1
  have iz1 : wc.frozen? ⟨Bq, 1, none⟩ = false := Hq.free 1
  have ic2 : wc.cell? ⟨Bq, 2, none⟩ = some (.int .u64 0) := Hq.cell 2
  have iz2 : wc.frozen? ⟨Bq, 2, none⟩ = false := Hq.free 2
  have ic3 : wc.cell? ⟨Bq, 3, none⟩ = some (.int .u64 0) := Hq.cell 3
  have iz3 : wc.frozen? ⟨Bq, 3, none⟩ = false := Hq.free 3
  have HGE := Lib.hid ge
  clear ge gc
  go_simp
  have ge : Grows w9 ((((wc.setCell ⟨Bq, 0, none⟩ (.int .u64 (q0 : Nat))).setCell ⟨Bq, 1, none⟩ (.int .u64 (q1 : Nat))).setCell ⟨Bq, 2, none⟩ (.int .u64 (q2 : Nat))).setCell ⟨Bq, 3, none⟩ (.int .u64 (q3 : Nat))) := (((HGE.out.setCell lq _).setCell lq _).setCell lq _).setCell lq _
  replace Hq : Holds ((((wc.setCell ⟨Bq, 0, none⟩ (.int .u64 (q0 : Nat))).setCell ⟨Bq, 1, none⟩ (.int .u64 (q1 : Nat))).setCell ⟨Bq, 2, none⟩ (.int .u64 (q2 : Nat))).setCell ⟨Bq, 3, none⟩ (.int .u64 (q3 : Nat))) Bq #[.int .u64 (q0 : Nat), .int .u64 (q1 : Nat), .int .u64 (q2 : Nat), .int .u64 (q3 : Nat)] 51 := (((Hq.set _).set _).set _).set _
  replace Hr := (((Hr.other (q := 0) ne (.int .u64 (q0 : Nat))).other (q := 1) ne (.int .u64 (q1 : Nat))).other (q := 2) ne (.int .u64 (q2 : Nat))).other (q := 3) ne (.int .u64 (q3 : Nat))
  clear ic0 ic1 ic2 ic3 iz0 iz1 iz2 iz3 HGE
  refine hK _ _ ge ?_
  clear hK K
  generalize (((wc.setCell ⟨Bq, 0, none⟩ (.int .u64 (q0 : Nat))).setCell ⟨Bq, 1, none⟩ (.int .u64 (q1 : Nat))).setCell ⟨Bq, 2, none⟩ (.int .u64 (q2 : Nat))).setCell ⟨Bq, 3, none⟩ (.int .u64 (q3 : Nat)) = wd at *
  clear wc
  refine wpK_one (f := 1) (i := 12) (by kernel_rfl) rfl rfl ?_
  intro wc gc K hK
  replace ge := ge.trans gc
  replace Hq := Hq.later gc
  replace Hr := Hr.later gc
  have ic0 : wc.cell? ⟨Br, 0, none⟩ = some (.int .u64 0) := Hr.cell 0
  have iz0 : wc.frozen? ⟨Br, 0, none⟩ = false := Hr.free 0
  have ic1 : wc.cell? ⟨Br, 1, none⟩ = some (.int .u64 0) := Hr.cell 1
  have iz1 : wc.frozen? ⟨Br, 1, none⟩ = false := Hr.free 1
  have ic2 : wc.cell? ⟨Br, 2, none⟩ = some (.int .u64 0) := Hr.cell 2
  have iz2 : wc.frozen? ⟨Br, 2, none⟩ = false := Hr.free 2
  have ic3 : wc.cell? ⟨Br, 3, none⟩ = some (.int .u64 0) := Hr.cell 3
  have iz3 : wc.frozen? ⟨Br, 3, none⟩ = false := Hr.free 3
  have HGE := Lib.hid ge
  clear ge gc
  go_simp
  have ge : Grows w9 ((((wc.setCell ⟨Br, 0, none⟩ (.int .u64 (r : Nat))).setCell ⟨Br, 1, none⟩ (.int .u64 0)).setCell ⟨Br, 2, none⟩ (.int .u64 0)).setCell ⟨Br, 3, none⟩ (.int .u64 0)) := (((HGE.out.setCell lr _).setCell lr _).setCell lr _).setCell lr _
  replace Hr : Holds ((((wc.setCell ⟨Br, 0, none⟩ (.int .u64 (r : Nat))).setCell ⟨Br, 1, none⟩ (.int .u64 0)).setCell ⟨Br, 2, none⟩ (.int .u64 0)).setCell ⟨Br, 3, none⟩ (.int .u64 0)) Br #[.int .u64 (r : Nat), .int .u64 0, .int .u64 0, .int .u64 0] 51 := (((Hr.set _).set _).set _).set _
  replace Hq := (((Hq.other (q := 0) (Ne.symm ne) (.int .u64 (r : Nat))).other (q := 1) (Ne.symm ne) (.int .u64 0)).other (q := 2) (Ne.symm ne) (.int .u64 0)).other (q := 3) (Ne.symm ne) (.int .u64 0)
  clear ic0 ic1 ic2 ic3 iz0 iz1 iz2 iz3 HGE
  refine hK _ _ ge ?_
  clear hK K
  generalize (((wc.setCell ⟨Br, 0, none⟩ (.int .u64 (r : Nat))).setCell ⟨Br, 1, none⟩ (.int .u64 0)).setCell ⟨Br, 2, none⟩ (.int .u64 0)).setCell ⟨Br, 3, none⟩ (.int .u64 0) = wd at *
  clear wc
  refine wpK_one (f := 0) (i := 13) (by kernel_rfl) rfl rfl ?_
  intro wc gc K hK
  go_simp
  replace Hq := Hq.later gc
  replace Hr := Hr.later gc
  replace ge := ge.trans gc
  refine hK _ _ ge ?_
  clear hK K gc
  refine wpK_end (by kernel_rfl) ?_
  intro W1 gf
  replace Hq := Hq.later gf
  replace Hr := Hr.later gf
  replace ge := ge.trans gf
  clear gf
  replace xt := xt.later ge
  replace M9 := M9.later ge
  replace Z9 := Z9.later ge
  replace T9 := T9.later ge
  have PB := Bg.below_step HPB.out ge
  clear ge HPB
  have xq : Bg.Box W1 Bq (q0 : Nat) (q1 : Nat) (q2 : Nat) (q3 : Nat) := ⟨Hq.cell 0, Hq.cell 1, Hq.cell 2, Hq.cell 3⟩
  clear Hq
  have xr : Bg.Box W1 Br (r : Nat) 0 0 0 := ⟨Hr.cell 0, Hr.cell 1, Hr.cell 2, Hr.cell 3⟩
  clear Hr
  clear lq
  clear lr
  clear ne
  obtain ⟨xq0, xq1, xq2, xq3⟩ := xq
  have HPB := Lib.hid PB
  clear PB
  go_wp2_with fail
  clear xq0 xq1 xq2 xq3
  refine (HCMu.out _).mono ?_
  rintro e w2 ⟨rfl, h2⟩
  have b3 := (Below.refl w2.heap.size w2).alloc (Nat.le_refl _) (.cells #[.int .u64 (p0 : Nat), .int .u64 (p1 : Nat), .int .u64 (p2 : Nat), .int .u64 (p3 : Nat)] 51)
  have Q3 : BigB (w2.alloc (.cells #[.int .u64 (p0 : Nat), .int .u64 (p1 : Nat), .int .u64 (p2 : Nat), .int .u64 (p3 : Nat)] 51)) w2.heap.size p0 p1 p2 p3 := ⟨Ro.new _ _ _⟩
  have A3 := Lib.hid ((HPB.out.trans (h2.mono HPB.out.size)).trans (b3.mono (Nat.le_trans HPB.out.size h2.size)))
  have M3 := Lib.hid ((M9.later h2).later b3)
  have Z3 := Lib.hid ((Z9.later h2).later b3)
  have T3 := Lib.hid ((T9.later h2).later b3)
  clear T9
  have xr3 := (xr.later h2).later b3
  have hrs : r * S < 18446744073709551616 := Nat.lt_of_le_of_lt (Nat.mul_le_mul (show r ≤ 7257600 by omega) (show S ≤ 29030400 by omega)) (by decide)
  obtain ⟨rs, hrs1⟩ : ∃ rs, r * S = rs := ⟨_, rfl⟩
  rw [hrs1] at hrs
  have yrs : IntKind.u64.wrap ((r : Int) * (S : Int)) = (rs : Int) := by
    rw [← Int.natCast_mul, hrs1]
    exact IntWalk.u64_in _ (by omega)
  obtain ⟨l0, hl0⟩ : ∃ l0, rs / g = l0 := ⟨_, rfl⟩
  have yl0 : (rs : Int) / (g : Int) = (l0 : Int) := by rw [← hl0]; rfl
  have hl1 : l0 < 18446744073709551616 := Nat.lt_of_le_of_lt (by rw [← hl0]; exact Nat.div_le_self _ _) hrs
  obtain ⟨xr0, xr1, xr2, xr3'⟩ := xr3
  clear HPB M9 Z9 xt xr h2 b3
  have HRS := Lib.hid hrs1
  have HL0 := Lib.hid hl0
  clear hrs1 hl0
  go_wp2_with fail
  clear xr0 xr1 xr2 xr3' yrs yl0
  have HQ3 := Lib.hid Q3
  clear Q3
  generalize (w2.alloc (.cells #[.int .u64 (p0 : Nat), .int .u64 (p1 : Nat), .int .u64 (p2 : Nat), .int .u64 (p3 : Nat)] 51)) = w3 at HQ3 A3 M3 Z3 T3 ⊢
  generalize w2.heap.size = sq at HQ3 ⊢
  obtain ⟨z0, z1, z2, z3, wz, ez⟩ := Bg.words_of (x := (Bg.val p0 p1 p2 p3 + l0) % 115792089237316195423570985008687907853269984665640564039457584007913129639936) (Nat.mod_lt _ (by omega))
  obtain ⟨o1, ho1⟩ : ∃ o1, decide (115792089237316195423570985008687907853269984665640564039457584007913129639936 ≤ Bg.val p0 p1 p2 p3 + l0) = o1 := ⟨_, rfl⟩
  have CA := Lib.hid (add_lit (Bg.addIs Hwp.out (words_word hl1) wz o1 (by rw [val_word]; exact ez) (by rw [val_word]; exact ho1.symm)))
  have COl := Lib.hid (Bg.ofIs l0)
  have Hwz := Lib.hid wz
  have Hez := Lib.hid ez
  have HO1 := Lib.hid ho1
  clear wz ez ho1
  have NA := Lib.hid (NxA.mk A3.out M3.out Z3.out T3.out hst.out HSR.out hmt.out hzt.out)
  clear A3 M3 Z3 T3 hst hmt hzt
  refine wp_region_lastA (W := w3) 5 (by kernel_rfl) (Nat.le_of_ble_eq_true (by kernel_rfl)) (by kernel_rfl) (by kernel_rfl) (by kernel_rfl) (fun _ _ _ _ _ h => h) ?_
  apply Exists.intro
  refine ⟨?_, ?_⟩
  · intro wg hg
    simp only [List.take_succ_cons, List.take_zero]
    have uq0 : ∀ u : After wg, u.w.cell? ⟨sq, 0, none⟩ = some (.int .u64 (p0 : Nat)) := fun u => ((HQ3.out.later hg).later u.below).c0
    have uq1 : ∀ u : After wg, u.w.cell? ⟨sq, 1, none⟩ = some (.int .u64 (p1 : Nat)) := fun u => ((HQ3.out.later hg).later u.below).c1
    have uq2 : ∀ u : After wg, u.w.cell? ⟨sq, 2, none⟩ = some (.int .u64 (p2 : Nat)) := fun u => ((HQ3.out.later hg).later u.below).c2
    have uq3 : ∀ u : After wg, u.w.cell? ⟨sq, 3, none⟩ = some (.int .u64 (p3 : Nat)) := fun u => ((HQ3.out.later hg).later u.below).c3
    repeat (go_big_quiet_step ((first | (go_at_call 57; exact after_call (COl.out _)) | (go_at_call 62; exact after_call (CA.out _)))))
    refine wpQuiet_nil ?_
    exact rfl
  intro wg hg
  have NB := Lib.hid (NA.out.later hg)
  clear NA hg HQ3 COl CA
  show wpAny _ _ _ _ 4 _ _ _
  refine wpAny_take (i := 5) (v := ?_) rfl (by kernel_rfl) (by kernel_rfl) (by kernel_rfl) (fun _ _ _ h => h) (Or.inl ⟨by rfl, ?_⟩) ?_
  rotate_left
  · intro w
    go_simp
    with_reducible rfl
  show wpAny _ _ _ _ _ _ (Act.put _ (some 93) _) _
  simp only [Act.put, List.setIfInBounds_toArray, List.set_cons_succ, List.set_cons_zero]
  refine wpAny_take (i := 6) (v := ?_) rfl (by kernel_rfl) (by kernel_rfl) (by kernel_rfl) (fun _ _ _ h => h) (Or.inl ⟨by rfl, ?_⟩) ?_
  rotate_left
  · intro w
    go_simp
    with_reducible rfl
  show wpAny _ _ _ _ _ _ (Act.put _ (some 94) _) _
  simp only [Act.put, List.setIfInBounds_toArray, List.set_cons_succ, List.set_cons_zero]
  refine wpAny_ready (rs := [7]) (by kernel_rfl) (by simp) ?_
  refine AllReady.cons rfl (fun K hK => ?_) AllReady.nil
  refine step_wp rfl (wp_store_ro (.tmp 10) (.tmp 93) rfl rfl (vs := bigV z0 z1 z2 z3) rfl rowBig NB.out.t.ro rfl rfl (bigV_one _ _ _ _) ?_)
  intro w11 R11 g11
  have N1 := Lib.hid (NB.out.put R11 g11)
  clear NB R11 g11
  show K (Act.put _ none _) _
  refine hK _ _ ?_
  clear hK K
  refine wpAny_ready (rs := [8]) (by kernel_rfl) (by simp) ?_
  refine AllReady.cons rfl (fun K hK => ?_) AllReady.nil
  go_simp
  refine hK _ _ ?_
  clear hK K
  refine wpAny_done (by kernel_rfl) ?_ _
  have E0 : Hid (nextT p l = if partN T S g M = 0 then 1 else partN T S g M) := Lib.hid (eN.out.trans (nextN_part hMp.out))
  have EL : Hid (l0 = r * S / g) := Lib.hid (by rw [HRS.out, HL0.out])
  clear eN
  by_cases hx0 : x = 0
  · have qx : ((x : Int) != 0) = false := by simp [hx0]
    have EP : Hid (Bg.val p0 p1 p2 p3 = T / g * S) := Lib.hid (by have := Hep.out; rw [hx0, Nat.mul_zero, Nat.add_zero] at this; exact this)
    clear hx0
    by_cases ho : 115792089237316195423570985008687907853269984665640564039457584007913129639936 ≤ Bg.val p0 p1 p2 p3 + l0
    · have HO := Lib.hid ho
      have ho2 : o1 = true := by rw [← HO1.out]; exact decide_eq_true ho
      clear ho
      subst ho2
      go_wp2_with (first | (refine wpList_load_ro rfl (.tmp 8) rfl rfl rowBig N1.out.m.ro rfl ?_) | (refine wpList_store_ro rfl (.tmp 4) (.tmp 106) rfl rfl (vs := bigV m0 m1 m2 m3) rfl rowBig N1.out.z.ro rfl rfl (bigV_one _ _ _ _) ?_))
      intro w12 R12 g12
      go_wp2_with (exact bodyPost_ret (results_ro Tryz.results32 _ rfl rowBig R12 rfl) rfl ⟨⟨_, _, _, _, HwM.out, by rw [HeM.out, E0.out, part_carry hgp HMl.out rfl HR.out.symm EP.out EL.out HO.out, if_neg (Nat.ne_of_gt hMp.out)], rfl⟩, N1.out.a.grown g12 N1.out.a.size (fun q e => by injection e with e; subst e; exact N1.out.hsr)⟩)
    · have HO := Lib.hid ho
      have ho2 : o1 = false := by rw [← HO1.out]; exact decide_eq_false ho
      have EZ : Hid (Bg.val z0 z1 z2 z3 = Bg.val p0 p1 p2 p3 + l0) := Lib.hid (by rw [Hez.out, Nat.mod_eq_of_lt (by omega)])
      clear ho
      subst ho2
      have PS := Lib.hid (part_sum (M := M) hgp rfl HR.out.symm EP.out EL.out)
      rw [← EZ.out] at PS
      have CLs := Lib.hid (Bg.lessIs HwM.out Hwz.out (decide (Bg.val m0 m1 m2 m3 < Bg.val z0 z1 z2 z3)) rfl)
      rw [HeM.out] at CLs
      by_cases hlt : M < Bg.val z0 z1 z2 z3
      · have HLT := Lib.hid hlt
        rw [decide_eq_true hlt] at CLs
        clear hlt
        go_wp2_with (first | (refine BigFrame.wpList_want (by rfl) fun K hK => wp_load_ro (.tmp 8) rfl rfl rowBig N1.out.m.ro rfl (hK _ _ ?_)) | (refine BigFrame.wpList_want (by rfl) fun K hK => wp_load_ro (.tmp 10) rfl rfl rowBig N1.out.t.ro rfl (hK _ _ ?_)))
        refine (CLs.out _).mono ?_
        rintro e w13 ⟨rfl, h13⟩
        have N2 := Lib.hid (N1.out.later h13)
        clear h13 N1
        go_wp2_with (first | (refine wpList_load_ro rfl (.tmp 8) rfl rfl rowBig N2.out.m.ro rfl ?_) | (refine wpList_store_ro rfl (.tmp 4) (.tmp 106) rfl rfl (vs := bigV m0 m1 m2 m3) rfl rowBig N2.out.z.ro rfl rfl (bigV_one _ _ _ _) ?_))
        intro w12 R12 g12
        go_wp2_with (exact bodyPost_ret (results_ro Tryz.results32 _ rfl rowBig R12 rfl) rfl ⟨⟨_, _, _, _, HwM.out, by rw [HeM.out, E0.out, PS.out, if_pos HLT.out, if_neg (Nat.ne_of_gt hMp.out)], rfl⟩, N2.out.a.grown g12 N2.out.a.size (fun q e => by injection e with e; subst e; exact N2.out.hsr)⟩)
      · have HLT := Lib.hid hlt
        rw [decide_eq_false hlt] at CLs
        clear hlt
        go_wp2_with (first | (refine BigFrame.wpList_want (by rfl) fun K hK => wp_load_ro (.tmp 8) rfl rfl rowBig N1.out.m.ro rfl (hK _ _ ?_)) | (refine BigFrame.wpList_want (by rfl) fun K hK => wp_load_ro (.tmp 10) rfl rfl rowBig N1.out.t.ro rfl (hK _ _ ?_)))
        refine (CLs.out _).mono ?_
        rintro e w13 ⟨rfl, h13⟩
        have N2 := Lib.hid (N1.out.later h13)
        clear h13 N1
        have CZ := Lib.hid (Bg.ofIs 0)
        have u0 : ∀ u : After w13, u.w.cell? ⟨st, 0, none⟩ = some (.int .u64 (z0 : Nat)) := fun u => (N2.out.t.later u.below).c0
        have u1 : ∀ u : After w13, u.w.cell? ⟨st, 1, none⟩ = some (.int .u64 (z1 : Nat)) := fun u => (N2.out.t.later u.below).c1
        have u2 : ∀ u : After w13, u.w.cell? ⟨st, 2, none⟩ = some (.int .u64 (z2 : Nat)) := fun u => (N2.out.t.later u.below).c2
        have u3 : ∀ u : After w13, u.w.cell? ⟨st, 3, none⟩ = some (.int .u64 (z3 : Nat)) := fun u => (N2.out.t.later u.below).c3
        have PZ : Hid (partN T S g M = Bg.val z0 z1 z2 z3) := Lib.hid (by rw [PS.out, if_neg (by have := HLT.out; omega)])
        have EQ := Bg.eqZ Hwz.out (decide (Bg.val z0 z1 z2 z3 = 0)) rfl
        unfold Bg.EqZ at EQ
        by_cases hz : Bg.val z0 z1 z2 z3 = 0
        · rw [decide_eq_true hz] at EQ
          have HZ := Lib.hid hz
          clear hz
          go_wp2_with fail
          refine wp_region_after (by kernel_rfl) (by kernel_rfl) ?_
          repeat (go_big_quiet_step ((go_at_call 57; exact after_call (CZ.out _))))
          refine wpQuiet_nil ?_
          rintro _ ⟨u, rfl⟩
          have N3 := Lib.hid (N2.out.later u.below)
          clear u0 u1 u2 u3 N2 EQ
          go_wp2_with fail
          refine (Bg.ofIs 1 _).mono ?_
          rintro e w14 ⟨rfl, h14⟩
          have N4 := Lib.hid (N3.out.later h14)
          clear h14 N3
          go_wp2_with (refine wpList_store_ro rfl (.tmp 4) (.tmp 111) rfl rfl (vs := bigV 1 0 0 0) rfl rowBig N4.out.z.ro rfl rfl (bigV_one _ _ _ _) ?_)
          intro w15 R15 g15
          go_wp2_with (exact bodyPost_ret (results_ro Tryz.results32 _ rfl rowBig R15 rfl) rfl ⟨⟨_, _, _, _, words_word (by omega), by rw [E0.out, PZ.out, HZ.out, val_word]; rfl, rfl⟩, N4.out.a.grown g15 N4.out.a.size (fun q e => by injection e with e; subst e; exact N4.out.hsr)⟩)
        · rw [decide_eq_false hz] at EQ
          have HZ := Lib.hid hz
          clear hz
          go_wp2_with fail
          refine wp_region_after (by kernel_rfl) (by kernel_rfl) ?_
          repeat (go_big_quiet_step ((go_at_call 57; exact after_call (CZ.out _))))
          refine wpQuiet_nil ?_
          rintro _ ⟨u, rfl⟩
          have N3 := Lib.hid (N2.out.later u.below)
          clear u0 u1 u2 u3 N2 EQ
          go_wp2_with (first | (refine wpList_load_ro rfl (.tmp 10) rfl rfl rowBig N3.out.t.ro rfl ?_) | (refine wpList_store_ro rfl (.tmp 4) (.tmp 112) rfl rfl (vs := bigV z0 z1 z2 z3) rfl rowBig N3.out.z.ro rfl rfl (bigV_one _ _ _ _) ?_))
          intro w15 R15 g15
          go_wp2_with (exact bodyPost_ret (results_ro Tryz.results32 _ rfl rowBig R15 rfl) rfl ⟨⟨_, _, _, _, Hwz.out, by rw [E0.out, PZ.out, if_neg HZ.out], rfl⟩, N3.out.a.grown g15 N3.out.a.size (fun q e => by injection e with e; subst e; exact N3.out.hsr)⟩)
  · have qx : ((x : Int) != 0) = true := by simp; omega
    have HX0 := Lib.hid hx0
    clear hx0
    go_wp2_with (first | (refine wpList_load_ro rfl (.tmp 8) rfl rfl rowBig N1.out.m.ro rfl ?_) | (refine wpList_store_ro rfl (.tmp 4) (.tmp 106) rfl rfl (vs := bigV m0 m1 m2 m3) rfl rowBig N1.out.z.ro rfl rfl (bigV_one _ _ _ _) ?_))
    intro w12 R12 g12
    go_wp2_with (exact bodyPost_ret (results_ro Tryz.results32 _ rfl rowBig R12 rfl) rfl ⟨⟨_, _, _, _, HwM.out, by rw [HeM.out, E0.out, part_over hgp HMl.out rfl Hep.out HX0.out, if_neg (Nat.ne_of_gt hMp.out)], rfl⟩, N1.out.a.grown g12 N1.out.a.size (fun q e => by injection e with e; subst e; exact N1.out.hsr)⟩)
end Go.Proofs.YtimjmmiajgfblaaGreatDoor

/- The work that the next header must ask for, as the package rules has it. No condition but the numbers of headers and points, and that the tables lie as laid. -/
namespace Go.Proofs.YtimjmmiajgfblaaGreatDoor
open Go.RowKit

theorem next_lit {p : Pm} {A B : Option Addr} {n c m d : Nat} {l : List Hd} (w : World) (hP : PmR w p A n c) (hm : m ≤ 1000000) (hd : m ≤ d) (hL : Hs w B m l) (hM : mayS p = true) (hi : p.iv.toNat ≤ m) :
    Calls Tryz.prog 32 #[.agg (pmV p A n c).toArray, .slice B m d] w fun e w' => (∃ s0 s1 s2 s3 : Nat, Bg.Words s0 s1 s2 s3 ∧ Bg.val s0 s1 s2 s3 = nextT p l ∧ e = .returned (.agg #[.int .u64 (s0 : Nat), .int .u64 (s1 : Nat), .int .u64 (s2 : Nat), .int .u64 (s3 : Nat)])) ∧ Below w.heap.size w w' := next_any w hP hm hd hL hM hi

set_option maxRecDepth 100000 in
set_option maxHeartbeats 4000000 in
theorem bits_any {p : Pm} {A B : Option Addr} {n c m d : Nat} {l : List Hd} (w : World) (hLd : Laid w) (hP : PmR w p A n c) (hm : m ≤ 1000000) (hd : m ≤ d) (hL : Hs w B m l) :
    Calls Tryz.prog 12 #[.agg (pmV p A n c).toArray, .slice B m d] w fun e w' => e = .returned (.int .u32 (bitsS p l : Nat)) ∧ Below w.heap.size w w' := by
  have HD := Lib.hid hLd
  have B0 := Lib.hid (PmB.new hP)
  have HB0 := Lib.hid ((Below.refl w.heap.size w).alloc (Nat.le_refl _) (.cells (pmV p A n c).toArray 29))
  have HP := Lib.hid hP
  have HL := Lib.hid hL
  have HN := Lib.hid hL.len
  have lP := Lib.hid (pmV_len hP.ok.first A n c)
  have LD1 := Lib.hid (HD.out.later HD.out.lt HB0.out)
  clear hLd hP hL
  by_cases h0 : m = 0
  · subst h0
    go_enter Tryz.func12, Tryz.ntmps12
    go_wp2_with fail
    go_ret
    exact ⟨by rw [bitsS, if_pos (.inl HN.out)]; rfl, HB0.out⟩
  have q0 : ((m : Int) == 0) = false := by simp; omega
  obtain ⟨b, o, rfl, _, _⟩ := HL.out.cel (by omega)
  have ad := add_at b o
  go_enter Tryz.func12, Tryz.ntmps12
  go_wp2_with (refine BigFrame.wpList_want (by rfl) fun K hK => wp_load_ro (.tmp 2) rfl rfl rowPm B0.out.ro lP.out (hK _ _ ?_))
  refine (may_any _ LD1.out B0.out.r).mono ?_
  rintro e w2 ⟨rfl, h2⟩
  have A2 := Lib.hid (HB0.out.trans (h2.mono HB0.out.size))
  have B2 := Lib.hid (B0.out.later h2)
  clear h2 HB0 B0
  obtain ⟨mb, hmb⟩ : ∃ mb, mayS p = mb := ⟨_, rfl⟩
  rw [hmb]
  have HM := Lib.hid hmb
  clear hmb
  cases mb with
  | false =>
    go_wp2_with fail
    go_ret
    exact ⟨by rw [bitsS, if_pos (.inr HM.out)]; rfl, A2.out⟩
  | true =>
    have hN : numS p = true := by
      have := HM.out
      unfold mayS at this
      simp only [Bool.and_eq_true] at this
      exact this.1.1.2
    have hn := of_decide_eq_true hN
    obtain ⟨v, hv⟩ : ∃ v : Nat, p.iv = (v : Int) := ⟨p.iv.toNat, by omega⟩
    have hv' : Hid (p.iv.toNat = v) := Lib.hid (by omega)
    have ci := B2.out.iv
    rw [hv] at ci
    have hv1 : 2 ≤ v := by omega
    have hv2 : v ≤ 2016 := by omega
    have eB : Hid (bitsS p l = if m % v ≠ 0 then (lastH l).b else compN (nextT p l)) := Lib.hid (by rw [bitsS, if_neg (by rw [HN.out, HM.out]; simp; omega), HN.out, hv'.out])
    clear hn hN hv
    by_cases hr : m % v = 0
    · have qr : (((m : Int) % (v : Int)) != 0) = false := by
        have : ((m : Int) % (v : Int)) = ((m % v : Nat) : Int) := rfl
        rw [this, hr]
        rfl
      have HR := Lib.hid hr
      clear hr
      go_wp2_with (refine wpList_load_ro rfl (.tmp 2) rfl rfl rowPm B2.out.ro lP.out ?_)
      refine (next_lit w2 B2.out.r hm hd (HL.out.later A2.out) HM.out (by rw [hv'.out]; exact Nat.le_of_dvd (by omega) (Nat.dvd_of_mod_eq_zero HR.out))).mono ?_
      rintro e w3 ⟨⟨s0, s1, s2, s3, ws, es, rfl⟩, h3⟩
      have A3 := Lib.hid (A2.out.trans (h3.mono A2.out.size))
      have CC := Lib.hid (comp_is ws)
      rw [es] at CC
      clear h3 ws es A2 B2
      go_wp2_with fail
      refine (CC.out _).mono ?_
      rintro e w4 ⟨rfl, h4⟩
      have A4 := Lib.hid (A3.out.trans (h4.mono A3.out.size))
      clear h4 A3 CC
      go_wp2_with fail
      go_ret
      exact ⟨by rw [eB.out, if_neg (fun e => e HR.out)]; rfl, A4.out⟩
    · have qr : (((m : Int) % (v : Int)) != 0) = true := by
        have : ((m : Int) % (v : Int)) = ((m % v : Nat) : Int) := rfl
        rw [this]
        simp
        omega
      have HR := Lib.hid hr
      clear hr
      have hat := HL.out.at_ (k := m - 1) (by omega)
      have okl := Lib.hid (nthH_ok HL.out.ok (m - 1))
      have eL : Hid ((lastH l).b = (nthH l (m - 1)).b) := Lib.hid (by rw [lastH, HN.out])
      obtain ⟨x, hx⟩ : ∃ x, (nthH l (m - 1)).b = x := ⟨_, rfl⟩
      have cx : w2.cell? ⟨b, o + (m - 1) * 68 + 66, none⟩ = some (.int .u32 (x : Nat)) := by
        rw [← hx]
        exact range_later hat.2 hat.1 A2.out 66 _ (hdV_no okl.out (k := 2) (by decide))
      rw [hx] at eL
      clear hat hx
      go_wp2_with fail
      go_ret
      exact ⟨by rw [eB.out, if_pos HR.out, eL.out]; rfl, A2.out⟩
end Go.Proofs.YtimjmmiajgfblaaGreatDoor

/- The part of a number that the document's answer takes. No condition but the range of the numbers. -/
namespace Go.Proofs.YtimjmmiajgfblaaGreatDoor
open Go.RowKit

set_option maxRecDepth 100000 in
set_option maxHeartbeats 8000000 in
theorem part_any {t0 t1 t2 t3 m0 m1 m2 m3 S g T M : Nat} (w : World) (wT : Bg.Words t0 t1 t2 t3) (wM : Bg.Words m0 m1 m2 m3) (eT : Bg.val t0 t1 t2 t3 = T) (eM : Bg.val m0 m1 m2 m3 = M) (hg : 1 ≤ g) (hg1 : g ≤ 7257600) (hS : S ≤ 29030400) :
    Calls Tryz.prog 33 #[.agg #[.int .u64 (t0 : Nat), .int .u64 (t1 : Nat), .int .u64 (t2 : Nat), .int .u64 (t3 : Nat)], .int .u64 (S : Nat), .int .u64 (g : Nat), .agg #[.int .u64 (m0 : Nat), .int .u64 (m1 : Nat), .int .u64 (m2 : Nat), .int .u64 (m3 : Nat)]] w fun e w' => (∃ s0 s1 s2 s3 : Nat, Bg.Words s0 s1 s2 s3 ∧ Bg.val s0 s1 s2 s3 = partN T S g M ∧ e = .returned (.agg #[.int .u64 (s0 : Nat), .int .u64 (s1 : Nat), .int .u64 (s2 : Nat), .int .u64 (s3 : Nat)])) ∧ Below w.heap.size w w' := by
  have HA := Lib.hid (Below.refl w.heap.size w)
  have HwT := Lib.hid wT
  have HwM := Lib.hid wM
  have HeT := Lib.hid eT
  have HeM := Lib.hid eM
  have hTl := Bg.val_lt wT
  have hMl := Bg.val_lt wM
  rw [eT] at hTl
  rw [eM] at hMl
  have HTl := Lib.hid hTl
  have HMl := Lib.hid hMl
  have HGP : Hid (0 < g) := Lib.hid (by omega)
  have wg := words_word (n := g) (by omega)
  have CD := Lib.hid (fun w => Bg.refdiv_any wT wg (by rw [val_word]; exact HGP.out) (Bg.eqZ wg false (by rw [val_word]; symm; rw [decide_eq_false_iff_not]; have := HGP.out; omega)) w)
  rw [eT, val_word] at CD
  have HWg := Lib.hid wg
  have HS29 := Lib.hid hS
  have HG1 := Lib.hid hg1
  clear wT wM eT eM hTl hMl wg hg hg1 hS
  go_enter Tryz.func33, Tryz.ntmps33
  go_wp2_with fail
  have n0 := (Below.refl w.heap.size w).alloc (Nat.le_refl _) (.cells #[.int .u64 (t0 : Nat), .int .u64 (t1 : Nat), .int .u64 (t2 : Nat), .int .u64 (t3 : Nat)] 51)
  have n1 := n0.alloc n0.size (.cells #[.int .u64 (m0 : Nat), .int .u64 (m1 : Nat), .int .u64 (m2 : Nat), .int .u64 (m3 : Nat)] 51)
  have n2 := n1.alloc n1.size (.cells #[.int .u64 0, .int .u64 0, .int .u64 0, .int .u64 0] 51)
  have n3 := n2.alloc n2.size (.cells #[.int .u64 (g : Nat), .int .u64 0, .int .u64 0, .int .u64 0] 51)
  have Bt : BigB (w.alloc (.cells #[.int .u64 (t0 : Nat), .int .u64 (t1 : Nat), .int .u64 (t2 : Nat), .int .u64 (t3 : Nat)] 51)) w.heap.size t0 t1 t2 t3 := ⟨Ro.new _ _ _⟩
  replace Bt := Bt.later ((Below.refl _ _).alloc (Nat.le_refl _) (.cells #[.int .u64 (m0 : Nat), .int .u64 (m1 : Nat), .int .u64 (m2 : Nat), .int .u64 (m3 : Nat)] 51))
  replace Bt := Bt.later ((Below.refl _ _).alloc (Nat.le_refl _) (.cells #[.int .u64 0, .int .u64 0, .int .u64 0, .int .u64 0] 51))
  replace Bt := Bt.later ((Below.refl _ _).alloc (Nat.le_refl _) (.cells #[.int .u64 (g : Nat), .int .u64 0, .int .u64 0, .int .u64 0] 51))
  have Bm : BigB ((w.alloc (.cells #[.int .u64 (t0 : Nat), .int .u64 (t1 : Nat), .int .u64 (t2 : Nat), .int .u64 (t3 : Nat)] 51)).alloc (.cells #[.int .u64 (m0 : Nat), .int .u64 (m1 : Nat), .int .u64 (m2 : Nat), .int .u64 (m3 : Nat)] 51)) (w.alloc (.cells #[.int .u64 (t0 : Nat), .int .u64 (t1 : Nat), .int .u64 (t2 : Nat), .int .u64 (t3 : Nat)] 51)).heap.size m0 m1 m2 m3 := ⟨Ro.new _ _ _⟩
  replace Bm := Bm.later ((Below.refl _ _).alloc (Nat.le_refl _) (.cells #[.int .u64 0, .int .u64 0, .int .u64 0, .int .u64 0] 51))
  replace Bm := Bm.later ((Below.refl _ _).alloc (Nat.le_refl _) (.cells #[.int .u64 (g : Nat), .int .u64 0, .int .u64 0, .int .u64 0] 51))
  simp only [World.size_alloc] at Bm
  have Bz : BigB (((w.alloc (.cells #[.int .u64 (t0 : Nat), .int .u64 (t1 : Nat), .int .u64 (t2 : Nat), .int .u64 (t3 : Nat)] 51)).alloc (.cells #[.int .u64 (m0 : Nat), .int .u64 (m1 : Nat), .int .u64 (m2 : Nat), .int .u64 (m3 : Nat)] 51)).alloc (.cells #[.int .u64 0, .int .u64 0, .int .u64 0, .int .u64 0] 51)) ((w.alloc (.cells #[.int .u64 (t0 : Nat), .int .u64 (t1 : Nat), .int .u64 (t2 : Nat), .int .u64 (t3 : Nat)] 51)).alloc (.cells #[.int .u64 (m0 : Nat), .int .u64 (m1 : Nat), .int .u64 (m2 : Nat), .int .u64 (m3 : Nat)] 51)).heap.size 0 0 0 0 := ⟨Ro.new _ _ _⟩
  replace Bz := Bz.later ((Below.refl _ _).alloc (Nat.le_refl _) (.cells #[.int .u64 (g : Nat), .int .u64 0, .int .u64 0, .int .u64 0] 51))
  simp only [World.size_alloc] at Bz
  have Bg : BigB ((((w.alloc (.cells #[.int .u64 (t0 : Nat), .int .u64 (t1 : Nat), .int .u64 (t2 : Nat), .int .u64 (t3 : Nat)] 51)).alloc (.cells #[.int .u64 (m0 : Nat), .int .u64 (m1 : Nat), .int .u64 (m2 : Nat), .int .u64 (m3 : Nat)] 51)).alloc (.cells #[.int .u64 0, .int .u64 0, .int .u64 0, .int .u64 0] 51)).alloc (.cells #[.int .u64 (g : Nat), .int .u64 0, .int .u64 0, .int .u64 0] 51)) (((w.alloc (.cells #[.int .u64 (t0 : Nat), .int .u64 (t1 : Nat), .int .u64 (t2 : Nat), .int .u64 (t3 : Nat)] 51)).alloc (.cells #[.int .u64 (m0 : Nat), .int .u64 (m1 : Nat), .int .u64 (m2 : Nat), .int .u64 (m3 : Nat)] 51)).alloc (.cells #[.int .u64 0, .int .u64 0, .int .u64 0, .int .u64 0] 51)).heap.size g 0 0 0 := ⟨Ro.new _ _ _⟩
  simp only [World.size_alloc] at Bg
  have gez : w.heap.size ≤ w.heap.size + 1 + 1 := by omega
  replace HA := Lib.hid (HA.out.trans (n3.mono HA.out.size))
  clear n0 n1 n2 n3
  generalize ((((w.alloc (.cells #[.int .u64 (t0 : Nat), .int .u64 (t1 : Nat), .int .u64 (t2 : Nat), .int .u64 (t3 : Nat)] 51)).alloc (.cells #[.int .u64 (m0 : Nat), .int .u64 (m1 : Nat), .int .u64 (m2 : Nat), .int .u64 (m3 : Nat)] 51)).alloc (.cells #[.int .u64 0, .int .u64 0, .int .u64 0, .int .u64 0] 51)).alloc (.cells #[.int .u64 (g : Nat), .int .u64 0, .int .u64 0, .int .u64 0] 51)) = wv1 at Bt Bm Bz Bg HA   ⊢
  generalize w.heap.size + 1 + 1 + 1 = bg at Bg ⊢
  generalize w.heap.size + 1 + 1 = bz at Bz gez ⊢
  generalize w.heap.size + 1 = bm at Bm ⊢
  generalize w.heap.size = bt at Bt ⊢
  have Ht := Lib.hid Bt
  clear Bt
  have Hm := Lib.hid Bm
  clear Bm
  have Hz := Lib.hid Bz
  clear Bz
  have Gz := Lib.hid gez
  clear gez
  have Hg := Lib.hid Bg
  clear Bg
  go_wp2_with (first | (refine wpList_load_ro rfl (.tmp 4) rfl rfl rowBig Ht.out.ro rfl ?_) | (refine wpList_load_ro rfl (.tmp 9) rfl rfl rowBig Hg.out.ro rfl ?_))
  refine (CD.out _).mono ?_
  rintro e wv2 ⟨q0, q1, q2, q3, r0, r1, r2, r3, rfl, wq, wr, eq, er, hc⟩
  replace Ht := Lib.hid (Ht.out.later hc)
  replace Hm := Lib.hid (Hm.out.later hc)
  replace Hz := Lib.hid (Hz.out.later hc)
  replace Hg := Lib.hid (Hg.out.later hc)
  replace HA := Lib.hid (HA.out.trans (hc.mono HA.out.size))
  clear hc
  have hr : r0 = T % g ∧ r1 = 0 ∧ r2 = 0 ∧ r3 = 0 := by
    have h1 := Nat.mod_lt T HGP.out
    have h2 := HG1.out
    obtain ⟨a0, a1, a2, a3⟩ := wr
    unfold Bg.val at er
    omega
  obtain ⟨e0, rfl, rfl, rfl⟩ := hr
  have ER := Lib.hid e0
  have hr0 : Hid (r0 < g) := Lib.hid (by rw [e0]; exact Nat.mod_lt T HGP.out)
  have WQ := Lib.hid wq
  have EQ := Lib.hid eq
  clear e0 wq wr eq er CD
  go_wp2_with fail
  have n0 := (Below.refl wv2.heap.size wv2).alloc (Nat.le_refl _) (.cells #[.int .u64 (q0 : Nat), .int .u64 (q1 : Nat), .int .u64 (q2 : Nat), .int .u64 (q3 : Nat)] 51)
  have n1 := n0.alloc n0.size (.cells #[.int .u64 (r0 : Nat), .int .u64 0, .int .u64 0, .int .u64 0] 51)
  have Bq : BigB (wv2.alloc (.cells #[.int .u64 (q0 : Nat), .int .u64 (q1 : Nat), .int .u64 (q2 : Nat), .int .u64 (q3 : Nat)] 51)) wv2.heap.size q0 q1 q2 q3 := ⟨Ro.new _ _ _⟩
  replace Bq := Bq.later ((Below.refl _ _).alloc (Nat.le_refl _) (.cells #[.int .u64 (r0 : Nat), .int .u64 0, .int .u64 0, .int .u64 0] 51))
  have Br : BigB ((wv2.alloc (.cells #[.int .u64 (q0 : Nat), .int .u64 (q1 : Nat), .int .u64 (q2 : Nat), .int .u64 (q3 : Nat)] 51)).alloc (.cells #[.int .u64 (r0 : Nat), .int .u64 0, .int .u64 0, .int .u64 0] 51)) (wv2.alloc (.cells #[.int .u64 (q0 : Nat), .int .u64 (q1 : Nat), .int .u64 (q2 : Nat), .int .u64 (q3 : Nat)] 51)).heap.size r0 0 0 0 := ⟨Ro.new _ _ _⟩
  simp only [World.size_alloc] at Br
  replace Ht := Lib.hid (Ht.out.later n1)
  replace Hm := Lib.hid (Hm.out.later n1)
  replace Hz := Lib.hid (Hz.out.later n1)
  replace Hg := Lib.hid (Hg.out.later n1)
  have hlo := HA.out.size
  replace HA := Lib.hid (HA.out.trans (n1.mono HA.out.size))
  clear n0 n1 hlo
  generalize ((wv2.alloc (.cells #[.int .u64 (q0 : Nat), .int .u64 (q1 : Nat), .int .u64 (q2 : Nat), .int .u64 (q3 : Nat)] 51)).alloc (.cells #[.int .u64 (r0 : Nat), .int .u64 0, .int .u64 0, .int .u64 0] 51)) = wv3 at Bq Br HA Ht Hm Hz Hg  ⊢
  generalize wv2.heap.size + 1 = br at Br ⊢
  generalize wv2.heap.size = bq at Bq ⊢
  have Hq := Lib.hid Bq
  clear Bq
  have Hr := Lib.hid Br
  clear Br
  have CM1 := Lib.hid (fun w => Bg.refmul_any (n := S) WQ.out (by have := HS29.out; omega) w)
  rw [EQ.out] at CM1
  go_wp2_with ((refine wpList_load_ro rfl (.tmp 10) rfl rfl rowBig Hq.out.ro rfl ?_))
  refine (CM1.out _).mono ?_
  rintro e wv4 ⟨p0, p1, p2, p3, rfl, wp, ep, hc⟩
  replace Ht := Lib.hid (Ht.out.later hc)
  replace Hm := Lib.hid (Hm.out.later hc)
  replace Hz := Lib.hid (Hz.out.later hc)
  replace Hg := Lib.hid (Hg.out.later hc)
  replace Hq := Lib.hid (Hq.out.later hc)
  replace Hr := Lib.hid (Hr.out.later hc)
  replace HA := Lib.hid (HA.out.trans (hc.mono HA.out.size))
  clear hc
  obtain ⟨x, hx⟩ : ∃ x, T / g * S / 115792089237316195423570985008687907853269984665640564039457584007913129639936 = x := ⟨_, rfl⟩
  rw [hx]
  have HX := Lib.hid hx
  have EP := Lib.hid ep
  have WP := Lib.hid wp
  clear hx ep wp CM1
  by_cases hx0 : x = 0
  · have qx : ((x : Int) != 0) = false := by simp [hx0]
    have EP0 : Hid (Bg.val p0 p1 p2 p3 = T / g * S) := Lib.hid (by have h := HX.out; have e := EP.out; rw [hx0] at h; omega)
    clear hx0
    have n0 := (Below.refl wv4.heap.size wv4).alloc (Nat.le_refl _) (.cells #[.int .u64 (p0 : Nat), .int .u64 (p1 : Nat), .int .u64 (p2 : Nat), .int .u64 (p3 : Nat)] 51)
    have Bp : BigB (wv4.alloc (.cells #[.int .u64 (p0 : Nat), .int .u64 (p1 : Nat), .int .u64 (p2 : Nat), .int .u64 (p3 : Nat)] 51)) wv4.heap.size p0 p1 p2 p3 := ⟨Ro.new _ _ _⟩
    replace Ht := Lib.hid (Ht.out.later n0)
    replace Hm := Lib.hid (Hm.out.later n0)
    replace Hz := Lib.hid (Hz.out.later n0)
    replace Hg := Lib.hid (Hg.out.later n0)
    replace Hq := Lib.hid (Hq.out.later n0)
    replace Hr := Lib.hid (Hr.out.later n0)
    replace HA := Lib.hid (HA.out.trans (n0.mono HA.out.size))
    clear n0
    have Hp := Lib.hid Bp
    clear Bp
    have CM2 := Lib.hid (fun w => Bg.refmul_any (n := S) (words_word (n := r0) (by have := hr0.out; have := HG1.out; omega)) (by have := HS29.out; omega) w)
    rw [val_word] at CM2
    go_wp2_with ((refine wpList_load_ro rfl (.tmp 11) rfl rfl rowBig Hr.out.ro rfl ?_))
    refine (CM2.out _).mono ?_
    rintro e wv5 ⟨y0, y1, y2, y3, rfl, wy, ey, hc⟩
    replace Ht := Lib.hid (Ht.out.later hc)
    replace Hm := Lib.hid (Hm.out.later hc)
    replace Hz := Lib.hid (Hz.out.later hc)
    replace Hg := Lib.hid (Hg.out.later hc)
    replace Hq := Lib.hid (Hq.out.later hc)
    replace Hr := Lib.hid (Hr.out.later hc)
    replace Hp := Lib.hid (Hp.out.later hc)
    replace HA := Lib.hid (HA.out.trans (hc.mono HA.out.size))
    clear hc
    have hrs : r0 * S < 115792089237316195423570985008687907853269984665640564039457584007913129639936 := Nat.lt_of_le_of_lt (Nat.mul_le_mul (show r0 ≤ 7257600 by have := hr0.out; have := HG1.out; omega) HS29.out) (by decide)
    rw [Nat.mod_eq_of_lt hrs] at ey
    obtain ⟨x2, hx2⟩ : ∃ x2, r0 * S / 115792089237316195423570985008687907853269984665640564039457584007913129639936 = x2 := ⟨_, rfl⟩
    rw [hx2]
    clear hx2 hrs CM2
    have WY := Lib.hid wy
    have EY := Lib.hid ey
    clear wy ey
    have n0 := (Below.refl wv5.heap.size wv5).alloc (Nat.le_refl _) (.cells #[.int .u64 (y0 : Nat), .int .u64 (y1 : Nat), .int .u64 (y2 : Nat), .int .u64 (y3 : Nat)] 51)
    have By : BigB (wv5.alloc (.cells #[.int .u64 (y0 : Nat), .int .u64 (y1 : Nat), .int .u64 (y2 : Nat), .int .u64 (y3 : Nat)] 51)) wv5.heap.size y0 y1 y2 y3 := ⟨Ro.new _ _ _⟩
    replace Ht := Lib.hid (Ht.out.later n0)
    replace Hm := Lib.hid (Hm.out.later n0)
    replace Hz := Lib.hid (Hz.out.later n0)
    replace Hg := Lib.hid (Hg.out.later n0)
    replace Hq := Lib.hid (Hq.out.later n0)
    replace Hr := Lib.hid (Hr.out.later n0)
    replace Hp := Lib.hid (Hp.out.later n0)
    replace HA := Lib.hid (HA.out.trans (n0.mono HA.out.size))
    clear n0
    have Hy := Lib.hid By
    clear By
    have CD2 := Lib.hid (fun w => Bg.refdiv_any WY.out HWg.out (by rw [val_word]; exact HGP.out) (Bg.eqZ HWg.out false (by rw [val_word]; symm; rw [decide_eq_false_iff_not]; have := HGP.out; omega)) w)
    rw [EY.out, val_word] at CD2
    go_wp2_with (first | (refine wpList_load_ro rfl (.tmp 15) rfl rfl rowBig Hy.out.ro rfl ?_) | (refine wpList_load_ro rfl (.tmp 9) rfl rfl rowBig Hg.out.ro rfl ?_))
    refine (CD2.out _).mono ?_
    rintro e wv6 ⟨c0, c1, c2, c3, d0, d1, d2, d3, rfl, wc, wd, ec, ed, hc⟩
    replace Ht := Lib.hid (Ht.out.later hc)
    replace Hm := Lib.hid (Hm.out.later hc)
    replace Hz := Lib.hid (Hz.out.later hc)
    replace Hg := Lib.hid (Hg.out.later hc)
    replace Hq := Lib.hid (Hq.out.later hc)
    replace Hr := Lib.hid (Hr.out.later hc)
    replace Hp := Lib.hid (Hp.out.later hc)
    replace Hy := Lib.hid (Hy.out.later hc)
    replace HA := Lib.hid (HA.out.trans (hc.mono HA.out.size))
    clear hc
    have WC := Lib.hid wc
    have EC := Lib.hid ec
    clear wc wd ec ed CD2
    have n0 := (Below.refl wv6.heap.size wv6).alloc (Nat.le_refl _) (.cells #[.int .u64 (c0 : Nat), .int .u64 (c1 : Nat), .int .u64 (c2 : Nat), .int .u64 (c3 : Nat)] 51)
    have n1 := n0.alloc n0.size (.cells #[.int .u64 (d0 : Nat), .int .u64 (d1 : Nat), .int .u64 (d2 : Nat), .int .u64 (d3 : Nat)] 51)
    have Bc : BigB (wv6.alloc (.cells #[.int .u64 (c0 : Nat), .int .u64 (c1 : Nat), .int .u64 (c2 : Nat), .int .u64 (c3 : Nat)] 51)) wv6.heap.size c0 c1 c2 c3 := ⟨Ro.new _ _ _⟩
    replace Bc := Bc.later ((Below.refl _ _).alloc (Nat.le_refl _) (.cells #[.int .u64 (d0 : Nat), .int .u64 (d1 : Nat), .int .u64 (d2 : Nat), .int .u64 (d3 : Nat)] 51))
    have Bd : BigB ((wv6.alloc (.cells #[.int .u64 (c0 : Nat), .int .u64 (c1 : Nat), .int .u64 (c2 : Nat), .int .u64 (c3 : Nat)] 51)).alloc (.cells #[.int .u64 (d0 : Nat), .int .u64 (d1 : Nat), .int .u64 (d2 : Nat), .int .u64 (d3 : Nat)] 51)) (wv6.alloc (.cells #[.int .u64 (c0 : Nat), .int .u64 (c1 : Nat), .int .u64 (c2 : Nat), .int .u64 (c3 : Nat)] 51)).heap.size d0 d1 d2 d3 := ⟨Ro.new _ _ _⟩
    rw [World.size_alloc] at Bd
    replace Ht := Lib.hid (Ht.out.later n1)
    replace Hm := Lib.hid (Hm.out.later n1)
    replace Hz := Lib.hid (Hz.out.later n1)
    replace Hg := Lib.hid (Hg.out.later n1)
    replace Hq := Lib.hid (Hq.out.later n1)
    replace Hr := Lib.hid (Hr.out.later n1)
    replace Hp := Lib.hid (Hp.out.later n1)
    replace Hy := Lib.hid (Hy.out.later n1)
    replace HA := Lib.hid (HA.out.trans (n1.mono HA.out.size))
    clear n0 n1
    have Hc := Lib.hid Bc
    clear Bc
    have Hd := Lib.hid Bd
    clear Bd
    obtain ⟨o1, ho1⟩ : ∃ o1, decide (115792089237316195423570985008687907853269984665640564039457584007913129639936 ≤ Bg.val p0 p1 p2 p3 + Bg.val c0 c1 c2 c3) = o1 := ⟨_, rfl⟩
    have CA := Lib.hid (fun w => Bg.refadd_any WP.out WC.out o1 ho1.symm w)
    rw [EC.out] at ho1
    have HO1 := Lib.hid ho1
    clear ho1
    go_wp2_with (first | (refine wpList_load_ro rfl (.tmp 13) rfl rfl rowBig Hp.out.ro rfl ?_) | (refine wpList_load_ro rfl (.tmp 17) rfl rfl rowBig Hc.out.ro rfl ?_))
    refine (CA.out _).mono ?_
    rintro e wv7 ⟨z0, z1, z2, z3, rfl, wz, ez, hc⟩
    replace Ht := Lib.hid (Ht.out.later hc)
    replace Hm := Lib.hid (Hm.out.later hc)
    replace Hz := Lib.hid (Hz.out.later hc)
    replace Hg := Lib.hid (Hg.out.later hc)
    replace Hq := Lib.hid (Hq.out.later hc)
    replace Hr := Lib.hid (Hr.out.later hc)
    replace Hp := Lib.hid (Hp.out.later hc)
    replace Hy := Lib.hid (Hy.out.later hc)
    replace Hc := Lib.hid (Hc.out.later hc)
    replace Hd := Lib.hid (Hd.out.later hc)
    replace HA := Lib.hid (HA.out.trans (hc.mono HA.out.size))
    clear hc
    rw [EC.out] at ez
    have WZ := Lib.hid wz
    have EZ := Lib.hid ez
    clear wz ez CA
    have n0 := (Below.refl wv7.heap.size wv7).alloc (Nat.le_refl _) (.cells #[.int .u64 (z0 : Nat), .int .u64 (z1 : Nat), .int .u64 (z2 : Nat), .int .u64 (z3 : Nat)] 51)
    have Bs : BigB (wv7.alloc (.cells #[.int .u64 (z0 : Nat), .int .u64 (z1 : Nat), .int .u64 (z2 : Nat), .int .u64 (z3 : Nat)] 51)) wv7.heap.size z0 z1 z2 z3 := ⟨Ro.new _ _ _⟩
    replace Ht := Lib.hid (Ht.out.later n0)
    replace Hm := Lib.hid (Hm.out.later n0)
    replace Hz := Lib.hid (Hz.out.later n0)
    replace Hg := Lib.hid (Hg.out.later n0)
    replace Hq := Lib.hid (Hq.out.later n0)
    replace Hr := Lib.hid (Hr.out.later n0)
    replace Hp := Lib.hid (Hp.out.later n0)
    replace Hy := Lib.hid (Hy.out.later n0)
    replace Hc := Lib.hid (Hc.out.later n0)
    replace Hd := Lib.hid (Hd.out.later n0)
    replace HA := Lib.hid (HA.out.trans (n0.mono HA.out.size))
    clear n0
    have Hs := Lib.hid Bs
    clear Bs
    by_cases ho : 115792089237316195423570985008687907853269984665640564039457584007913129639936 ≤ Bg.val p0 p1 p2 p3 + r0 * S / g
    · have HO := Lib.hid ho
      have ho2 : o1 = true := by rw [← HO1.out]; exact decide_eq_true ho
      clear ho
      subst ho2
      go_wp2_with (first | (refine wpList_load_ro rfl (.tmp 7) rfl rfl rowBig Hm.out.ro rfl ?_) | (refine wpList_store_ro rfl (.tmp 8) (.tmp 65) rfl rfl (vs := bigV m0 m1 m2 m3) rfl rowBig Hz.out.ro rfl rfl (bigV_one _ _ _ _) ?_))
      intro w12 R12 g12
      go_wp2_with (exact bodyPost_ret (results_ro Tryz.results33 _ rfl rowBig R12 rfl) rfl ⟨⟨_, _, _, _, HwM.out, by rw [HeM.out]; exact (part_carry HGP.out HMl.out rfl ER.out EP0.out rfl HO.out).symm, rfl⟩, HA.out.grown g12 HA.out.size (fun q e => by injection e with e; subst e; exact Gz.out)⟩)
    · have HO := Lib.hid ho
      have ho2 : o1 = false := by rw [← HO1.out]; exact decide_eq_false ho
      have EZ2 : Hid (Bg.val z0 z1 z2 z3 = Bg.val p0 p1 p2 p3 + r0 * S / g) := Lib.hid (by rw [EZ.out, Nat.mod_eq_of_lt (by omega)])
      clear ho
      subst ho2
      have PS := Lib.hid (part_sum (M := M) HGP.out rfl ER.out EP0.out rfl)
      rw [← EZ2.out] at PS
      have CLs := Lib.hid (fun w => Bg.refless_any HwM.out WZ.out (decide (Bg.val m0 m1 m2 m3 < Bg.val z0 z1 z2 z3)) rfl w)
      rw [HeM.out] at CLs
      by_cases hlt : M < Bg.val z0 z1 z2 z3
      · have HLT := Lib.hid hlt
        rw [decide_eq_true hlt] at CLs
        clear hlt
        go_wp2_with (first | (refine BigFrame.wpList_want (by rfl) fun K hK => wp_load_ro (.tmp 7) rfl rfl rowBig Hm.out.ro rfl (hK _ _ ?_)) | (refine BigFrame.wpList_want (by rfl) fun K hK => wp_load_ro (.tmp 20) rfl rfl rowBig Hs.out.ro rfl (hK _ _ ?_)))
        refine (CLs.out _).mono ?_
        rintro e wv8 ⟨rfl, hc⟩
        replace Ht := Lib.hid (Ht.out.later hc)
        replace Hm := Lib.hid (Hm.out.later hc)
        replace Hz := Lib.hid (Hz.out.later hc)
        replace Hg := Lib.hid (Hg.out.later hc)
        replace Hq := Lib.hid (Hq.out.later hc)
        replace Hr := Lib.hid (Hr.out.later hc)
        replace Hp := Lib.hid (Hp.out.later hc)
        replace Hy := Lib.hid (Hy.out.later hc)
        replace Hc := Lib.hid (Hc.out.later hc)
        replace Hd := Lib.hid (Hd.out.later hc)
        replace Hs := Lib.hid (Hs.out.later hc)
        replace HA := Lib.hid (HA.out.trans (hc.mono HA.out.size))
        clear hc
        go_wp2_with (first | (refine wpList_load_ro rfl (.tmp 7) rfl rfl rowBig Hm.out.ro rfl ?_) | (refine wpList_store_ro rfl (.tmp 8) (.tmp 65) rfl rfl (vs := bigV m0 m1 m2 m3) rfl rowBig Hz.out.ro rfl rfl (bigV_one _ _ _ _) ?_))
        intro w12 R12 g12
        go_wp2_with (exact bodyPost_ret (results_ro Tryz.results33 _ rfl rowBig R12 rfl) rfl ⟨⟨_, _, _, _, HwM.out, by rw [HeM.out, PS.out, if_pos HLT.out], rfl⟩, HA.out.grown g12 HA.out.size (fun q e => by injection e with e; subst e; exact Gz.out)⟩)
      · have HLT := Lib.hid hlt
        rw [decide_eq_false hlt] at CLs
        clear hlt
        go_wp2_with (first | (refine BigFrame.wpList_want (by rfl) fun K hK => wp_load_ro (.tmp 7) rfl rfl rowBig Hm.out.ro rfl (hK _ _ ?_)) | (refine BigFrame.wpList_want (by rfl) fun K hK => wp_load_ro (.tmp 20) rfl rfl rowBig Hs.out.ro rfl (hK _ _ ?_)))
        refine (CLs.out _).mono ?_
        rintro e wv8 ⟨rfl, hc⟩
        replace Ht := Lib.hid (Ht.out.later hc)
        replace Hm := Lib.hid (Hm.out.later hc)
        replace Hz := Lib.hid (Hz.out.later hc)
        replace Hg := Lib.hid (Hg.out.later hc)
        replace Hq := Lib.hid (Hq.out.later hc)
        replace Hr := Lib.hid (Hr.out.later hc)
        replace Hp := Lib.hid (Hp.out.later hc)
        replace Hy := Lib.hid (Hy.out.later hc)
        replace Hc := Lib.hid (Hc.out.later hc)
        replace Hd := Lib.hid (Hd.out.later hc)
        replace Hs := Lib.hid (Hs.out.later hc)
        replace HA := Lib.hid (HA.out.trans (hc.mono HA.out.size))
        clear hc
        go_wp2_with (first | (refine wpList_load_ro rfl (.tmp 20) rfl rfl rowBig Hs.out.ro rfl ?_) | (refine wpList_store_ro rfl (.tmp 8) (.tmp 66) rfl rfl (vs := bigV z0 z1 z2 z3) rfl rowBig Hz.out.ro rfl rfl (bigV_one _ _ _ _) ?_))
        intro w12 R12 g12
        go_wp2_with (exact bodyPost_ret (results_ro Tryz.results33 _ rfl rowBig R12 rfl) rfl ⟨⟨_, _, _, _, WZ.out, by rw [PS.out, if_neg HLT.out], rfl⟩, HA.out.grown g12 HA.out.size (fun q e => by injection e with e; subst e; exact Gz.out)⟩)
  · have HX0 : Hid (Bg.val p0 p1 p2 p3 + 115792089237316195423570985008687907853269984665640564039457584007913129639936 * x = T / g * S) := Lib.hid (by have h := HX.out; have e := EP.out; omega)
    have qx : ((x : Int) != 0) = true := by simp; omega
    have HXN := Lib.hid hx0
    clear hx0
    have n0 := (Below.refl wv4.heap.size wv4).alloc (Nat.le_refl _) (.cells #[.int .u64 (p0 : Nat), .int .u64 (p1 : Nat), .int .u64 (p2 : Nat), .int .u64 (p3 : Nat)] 51)
    have Bp : BigB (wv4.alloc (.cells #[.int .u64 (p0 : Nat), .int .u64 (p1 : Nat), .int .u64 (p2 : Nat), .int .u64 (p3 : Nat)] 51)) wv4.heap.size p0 p1 p2 p3 := ⟨Ro.new _ _ _⟩
    replace Ht := Lib.hid (Ht.out.later n0)
    replace Hm := Lib.hid (Hm.out.later n0)
    replace Hz := Lib.hid (Hz.out.later n0)
    replace Hg := Lib.hid (Hg.out.later n0)
    replace Hq := Lib.hid (Hq.out.later n0)
    replace Hr := Lib.hid (Hr.out.later n0)
    replace HA := Lib.hid (HA.out.trans (n0.mono HA.out.size))
    clear n0
    have Hp := Lib.hid Bp
    clear Bp
    go_wp2_with (first | (refine wpList_load_ro rfl (.tmp 7) rfl rfl rowBig Hm.out.ro rfl ?_) | (refine wpList_store_ro rfl (.tmp 8) (.tmp 39) rfl rfl (vs := bigV m0 m1 m2 m3) rfl rowBig Hz.out.ro rfl rfl (bigV_one _ _ _ _) ?_))
    intro w12 R12 g12
    go_wp2_with (exact bodyPost_ret (results_ro Tryz.results33 _ rfl rowBig R12 rfl) rfl ⟨⟨_, _, _, _, HwM.out, by rw [HeM.out]; exact (part_over HGP.out HMl.out rfl HX0.out HXN.out).symm, rfl⟩, HA.out.grown g12 HA.out.size (fun q e => by injection e with e; subst e; exact Gz.out)⟩)
end Go.Proofs.YtimjmmiajgfblaaGreatDoor

/- The work that the next header must ask for, as the document's answer has it. No condition but the numbers of headers and points. -/
namespace Go.Proofs.YtimjmmiajgfblaaGreatDoor
open Go.RowKit

set_option maxRecDepth 100000 in
set_option maxHeartbeats 8000000 in
theorem rbits_any {p : Pm} {A B : Option Addr} {n c m d : Nat} {l : List Hd} (w : World) (hP : PmR w p A n c) (hm : m ≤ 1000000) (hd : m ≤ d) (hL : Hs w B m l) :
    Calls Tryz.prog 13 #[.agg (pmV p A n c).toArray, .slice B m d] w fun e w' => e = .returned (.int .u32 (bitsS p l : Nat)) ∧ Below w.heap.size w w' := by
  have B0 := Lib.hid (PmB.new hP)
  have HB0 := Lib.hid ((Below.refl w.heap.size w).alloc (Nat.le_refl _) (.cells (pmV p A n c).toArray 29))
  have HP := Lib.hid hP
  have HL := Lib.hid hL
  have HN := Lib.hid hL.len
  have lP := Lib.hid (pmV_len hP.ok.first A n c)
  clear hP hL
  by_cases h0 : m = 0
  · subst h0
    go_enter Tryz.func13, Tryz.ntmps13
    go_wp2_with fail
    go_ret
    exact ⟨by rw [bitsS, if_pos (.inl HN.out)]; rfl, HB0.out⟩
  have q0 : ((m : Int) == 0) = false := by simp; omega
  obtain ⟨b, o, rfl, _, _⟩ := HL.out.cel (by omega)
  have ad := add_at b o
  go_enter Tryz.func13, Tryz.ntmps13
  go_wp2_with (refine BigFrame.wpList_want (by rfl) fun K hK => wp_load_ro (.tmp 2) rfl rfl rowPm B0.out.ro lP.out (hK _ _ ?_))
  refine (rmay_any _ B0.out.r).mono ?_
  rintro e w2 ⟨rfl, h2⟩
  have A2 := Lib.hid (HB0.out.trans (h2.mono HB0.out.size))
  have B2 := Lib.hid (B0.out.later h2)
  clear h2 HB0 B0
  obtain ⟨mb, hmb⟩ : ∃ mb, mayS p = mb := ⟨_, rfl⟩
  rw [hmb]
  have HM := Lib.hid hmb
  clear hmb
  cases mb with
  | false =>
    go_wp2_with fail
    go_ret
    exact ⟨by rw [bitsS, if_pos (.inr HM.out)]; rfl, A2.out⟩
  | true =>
    have hN : numS p = true := by
      have := HM.out
      unfold mayS at this
      simp only [Bool.and_eq_true] at this
      exact this.1.1.2
    have hn := of_decide_eq_true hN
    obtain ⟨v, hv⟩ : ∃ v : Nat, p.iv = (v : Int) := ⟨p.iv.toNat, by omega⟩
    have hv' : Hid (p.iv.toNat = v) := Lib.hid (by omega)
    have ci := B2.out.iv
    rw [hv] at ci
    have hv1 : 2 ≤ v := by omega
    have hv2 : v ≤ 2016 := by omega
    have eB : Hid (bitsS p l = if m % v ≠ 0 then (lastH l).b else compN (nextT p l)) := Lib.hid (by rw [bitsS, if_neg (by rw [HN.out, HM.out]; simp; omega), HN.out, hv'.out])
    clear hn hN
    obtain ⟨j1, hj1⟩ : ∃ j1, m - 1 = j1 := ⟨_, rfl⟩
    have y1 : IntKind.i64.wrap ((m : Int) - 1) = (j1 : Int) := by rw [IntWalk.i64_in _ (by omega)]; omega
    have hat := HL.out.at_ (k := j1) (by omega)
    have ok1 := Lib.hid (nthH_ok HL.out.ok j1)
    have eL : Hid (lastH l = nthH l j1) := Lib.hid (by rw [lastH, HN.out, hj1])
    have jm : j1 < m := by omega
    obtain ⟨h1, eh1⟩ : ∃ h1, nthH l j1 = h1 := ⟨_, rfl⟩
    rw [eh1] at ok1 eL hat
    have ll := Lib.hid (hdV_len ok1.out)
    have RG := Lib.hid (range_later hat.2 hat.1 A2.out)
    obtain ⟨x1, ex1⟩ : ∃ x, h1.t = x := ⟨_, rfl⟩
    obtain ⟨bt, ebt⟩ : ∃ x, h1.b = x := ⟨_, rfl⟩
    have c65 : Hid ((hdV h1)[65]? = some (.int .u32 (x1 : Nat))) := Lib.hid (by rw [← ex1]; exact hdV_no ok1.out (k := 1) (by decide))
    have c66 : Hid ((hdV h1)[66]? = some (.int .u32 (bt : Nat))) := Lib.hid (by rw [← ebt]; exact hdV_no ok1.out (k := 2) (by decide))
    have hx1 := ok1.out.t
    rw [ex1] at hx1
    have hbt := ok1.out.b
    rw [ebt] at hbt
    have EX1 := Lib.hid ex1
    have EBT := Lib.hid ebt
    have HJ1 := Lib.hid hj1
    have z0 := zeroHd
    have HV := Lib.hid hv
    clear hat eh1 ex1 ebt hj1 hv
    go_wp2_with (first | (refine wpList_load_part rfl (.tmp 26) rfl rfl rowHd RG.out ll.out ?_) | (refine wpList_store_ro rfl (.tmp 6) (.tmp 27) rfl rfl rfl rowHd (Ro.new w2 27 (hdV zeroH)) rfl ll.out (hdV_one _) ?_))
    intro w4 R4 g4
    have A4 := Lib.hid (A2.out.trans ((box_store g4).mono A2.out.size))
    have B4 := Lib.hid (B2.out.later (box_store g4))
    have R4q := Lib.hid R4
    clear R4 g4 A2 B2 RG z0
    generalize w2.heap.size = sh at R4q ⊢
    have cx := R4q.out.cell c66.out
    have ci := B4.out.iv
    rw [HV.out] at ci
    by_cases hr : m % v = 0
    · have qr : (((m : Int) % (v : Int)) != 0) = false := by
        have : ((m : Int) % (v : Int)) = ((m % v : Nat) : Int) := rfl
        rw [this, hr]
        rfl
      have HR := Lib.hid hr
      clear hr
      obtain ⟨sp, hsp⟩ : ∃ sp, p.sp = sp := ⟨_, rfl⟩
      have hMs := HM.out
      have hnl : numS p = true ∧ limS p = true := by
        unfold mayS at hMs
        simp only [Bool.and_eq_true] at hMs
        exact ⟨hMs.1.1.2, hMs.1.1.1⟩
      have hnn := of_decide_eq_true hnl.1
      have hll := of_decide_eq_true hnl.2
      have hs1 : 1 ≤ sp ∧ sp ≤ 3600 := by omega
      have hw1 : v * sp ≤ 2016 * 3600 := Nat.mul_le_mul hv2 hs1.2
      have hw0 : 1 ≤ v * sp := Nat.mul_le_mul (show 1 ≤ v by omega) hs1.1
      obtain ⟨g, hg⟩ : ∃ g, v * sp = g := ⟨_, rfl⟩
      rw [hg] at hw1 hw0
      have yw : IntKind.i64.wrap ((v : Int) * (sp : Int)) = (g : Int) := by
        rw [← hg, Int.natCast_mul]
        exact IntWalk.i64_in _ (by rw [← Int.natCast_mul, hg]; omega)
      have hvm : v ≤ m := Nat.le_of_dvd (by omega) (Nat.dvd_of_mod_eq_zero HR.out)
      obtain ⟨k1, hk1⟩ : ∃ k1, m - v = k1 := ⟨_, rfl⟩
      have km : k1 < m := by omega
      have ym : IntKind.i64.wrap ((m : Int) - (v : Int)) = (k1 : Int) := by rw [IntWalk.i64_in _ (by omega)]; omega
      have ok2 := Lib.hid (nthH_ok HL.out.ok k1)
      have hat2 := HL.out.at_ (k := k1) km
      obtain ⟨h2, eh2⟩ : ∃ h2, nthH l k1 = h2 := ⟨_, rfl⟩
      rw [eh2] at ok2 hat2
      obtain ⟨x2, ex2⟩ : ∃ x, h2.t = x := ⟨_, rfl⟩
      have hx2 := ok2.out.t
      rw [ex2] at hx2
      have d65 : Hid ((hdV h2)[65]? = some (.int .u32 (x2 : Nat))) := Lib.hid (by rw [← ex2]; exact hdV_no ok2.out (k := 1) (by decide))
      have RG2 := Lib.hid (range_later hat2.2 hat2.1 A4.out)
      have hb2 := Lib.hid (Nat.lt_of_lt_of_le hat2.1 A4.out.size)
      obtain ⟨dx, hdx⟩ : ∃ dx, (x1 : Int) - (x2 : Int) = dx := ⟨_, rfl⟩
      have hg0 : (0 : Int) ≤ (g : Int) := by omega
      have hS := clampN (span := dx) hg0
      obtain ⟨S, hS1⟩ : ∃ S : Nat, min (max dx ((g : Int) / 4)) ((g : Int) * 4) = (S : Int) := ⟨(min (max dx ((g : Int) / 4)) ((g : Int) * 4)).toNat, by omega⟩
      have hS2 : min (max dx ((g : Int) / 4)) (4 * (g : Int)) = (S : Int) := by rw [Int.mul_comm]; exact hS1
      rw [hS1] at hS
      have hS4 : S ≤ 29030400 := by omega
      have hMp : Hid (0 < tgtN p.limit) := Lib.hid (by
        unfold tgtN
        rw [if_pos hll.1]
        exact Nat.mul_pos (Nat.pos_of_ne_zero hll.1.1) (Nat.two_pow_pos _))
      have eN : Hid (nextT p l = if partN (tgtN bt) S g (tgtN p.limit) = 0 then 1 else partN (tgtN bt) S g (tgtN p.limit)) := Lib.hid (by
        rw [← nextN_part hMp.out]
        unfold nextT spanS
        rw [eL.out, HN.out, hv'.out, hk1, eh2, HV.out, hsp, ← Int.natCast_mul, hg, EX1.out, ex2, EBT.out, hdx, hS1]
        rfl)
      obtain ⟨m0, m1, m2, m3, wM, eM, _, CM⟩ := of_words p.limit HP.out.ok.limit
      obtain ⟨t0, t1, t2, t3, wT, eT, _, CT⟩ := of_words bt hbt
      have HCM := Lib.hid CM
      have HCT := Lib.hid CT
      have CP := Lib.hid (fun w => part_any (S := S) (g := g) w wT wM eT eM hw0 (by omega) hS4)
      have HSP := Lib.hid hsp
      have cs := B4.out.sp
      rw [hsp] at cs
      have HMs := Lib.hid (trivial : True)
      clear hMs hnl hnn hll hg hk1 eh2 ex2 hat2 wM eM CM wT eT CT hS hS1 hsp
      have u1 : ∀ u : After w4, u.w.cell? ⟨w.heap.size, 1, none⟩ = some (.int .i64 (v : Int)) := fun u => by rw [← HV.out]; exact (B4.out.later u.below).iv
      have u2 : ∀ u : After w4, u.w.cell? ⟨sh, 65, none⟩ = some (.int .u32 (x1 : Nat)) := fun u => (R4q.out.later u.below).cell c65.out
      have u3 : ∀ u : After w4, u.w.cell? ⟨b, o + k1 * 68 + 65, none⟩ = some (.int .u32 (x2 : Nat)) := fun u => range_later (RG2.out) hb2.out u.below 65 _ d65.out
      have ys : IntKind.i64.wrap ((x1 : Int) - (x2 : Int)) = dx := by rw [hdx.symm]; exact IntWalk.i64_in _ (by omega)
      clear cx
      go_wp2_with fail
      refine wp_region_after (by kernel_rfl) (by kernel_rfl) ?_
      repeat (go_big_quiet_step (fail))
      refine wpQuiet_nil ?_
      rintro _ ⟨u, rfl⟩
      have HA := Lib.hid (A4.out.trans (u.below.mono A4.out.size))
      have HB := Lib.hid (B4.out.later u.below)
      have HRo := Lib.hid (R4q.out.later u.below)
      clear u1 u2 u3 ys ci cs A4 B4 R4q
      generalize u.w = w5 at *
      clear u
      have cl := HB.out.limit
      skip
      go_wp2_with fail
      clear cl
      refine (HCM.out _).mono ?_
      rintro e wv1 ⟨rfl, hc⟩
      replace HB := Lib.hid (HB.out.later hc)
      replace HRo := Lib.hid (HRo.out.later hc)
      replace HA := Lib.hid (HA.out.trans (hc.mono HA.out.size))
      clear hc
      have n0 := (Below.refl wv1.heap.size wv1).alloc (Nat.le_refl _) (.cells #[.int .u64 (m0 : Nat), .int .u64 (m1 : Nat), .int .u64 (m2 : Nat), .int .u64 (m3 : Nat)] 51)
      have Bm : BigB (wv1.alloc (.cells #[.int .u64 (m0 : Nat), .int .u64 (m1 : Nat), .int .u64 (m2 : Nat), .int .u64 (m3 : Nat)] 51)) wv1.heap.size m0 m1 m2 m3 := ⟨Ro.new _ _ _⟩
      replace HB := Lib.hid (HB.out.later n0)
      replace HRo := Lib.hid (HRo.out.later n0)
      replace HA := Lib.hid (HA.out.trans (n0.mono HA.out.size))
      clear n0
      have Hm := Lib.hid Bm
      clear Bm
      have cb := HRo.out.cell c66.out
      go_wp2_with fail
      clear cb
      refine (HCT.out _).mono ?_
      rintro e wv2 ⟨rfl, hc⟩
      replace Hm := Lib.hid (Hm.out.later hc)
      replace HB := Lib.hid (HB.out.later hc)
      replace HRo := Lib.hid (HRo.out.later hc)
      replace HA := Lib.hid (HA.out.trans (hc.mono HA.out.size))
      clear hc
      have n0 := (Below.refl wv2.heap.size wv2).alloc (Nat.le_refl _) (.cells #[.int .u64 (t0 : Nat), .int .u64 (t1 : Nat), .int .u64 (t2 : Nat), .int .u64 (t3 : Nat)] 51)
      have Bt : BigB (wv2.alloc (.cells #[.int .u64 (t0 : Nat), .int .u64 (t1 : Nat), .int .u64 (t2 : Nat), .int .u64 (t3 : Nat)] 51)) wv2.heap.size t0 t1 t2 t3 := ⟨Ro.new _ _ _⟩
      replace Hm := Lib.hid (Hm.out.later n0)
      replace HB := Lib.hid (HB.out.later n0)
      replace HRo := Lib.hid (HRo.out.later n0)
      replace HA := Lib.hid (HA.out.trans (n0.mono HA.out.size))
      clear n0
      have Ht := Lib.hid Bt
      clear Bt
      go_wp2_with (first | (refine wpList_load_ro rfl (.tmp 11) rfl rfl rowBig Ht.out.ro rfl ?_) | (refine wpList_load_ro rfl (.tmp 9) rfl rfl rowBig Hm.out.ro rfl ?_))
      refine (CP.out _).mono ?_
      rintro e wv3 ⟨⟨s0, s1, s2, s3, ws, es, rfl⟩, hc⟩
      replace Hm := Lib.hid (Hm.out.later hc)
      replace Ht := Lib.hid (Ht.out.later hc)
      replace HB := Lib.hid (HB.out.later hc)
      replace HRo := Lib.hid (HRo.out.later hc)
      replace HA := Lib.hid (HA.out.trans (hc.mono HA.out.size))
      clear hc
      have WS := Lib.hid ws
      have ES := Lib.hid es
      clear ws es
      have HGE := Lib.hid HA.out.size
      have n0 := (Below.refl wv3.heap.size wv3).alloc (Nat.le_refl _) (.cells #[.int .u64 (s0 : Nat), .int .u64 (s1 : Nat), .int .u64 (s2 : Nat), .int .u64 (s3 : Nat)] 51)
      have Bs : BigB (wv3.alloc (.cells #[.int .u64 (s0 : Nat), .int .u64 (s1 : Nat), .int .u64 (s2 : Nat), .int .u64 (s3 : Nat)] 51)) wv3.heap.size s0 s1 s2 s3 := ⟨Ro.new _ _ _⟩
      replace Hm := Lib.hid (Hm.out.later n0)
      replace Ht := Lib.hid (Ht.out.later n0)
      replace HB := Lib.hid (HB.out.later n0)
      replace HRo := Lib.hid (HRo.out.later n0)
      replace HA := Lib.hid (HA.out.trans (n0.mono HA.out.size))
      clear n0
      have Hs := Lib.hid Bs
      clear Bs
      have EQ := Bg.eqZ WS.out (decide (Bg.val s0 s1 s2 s3 = 0)) rfl
      unfold Bg.EqZ at EQ
      replace EQ : ∀ w : World, (Op.equalIn 10000 51 (.agg (bigV s0 s1 s2 s3).toArray) (.agg #[.int .u64 0, .int .u64 0, .int .u64 0, .int .u64 0])).run Tryz.prog w = .ok (decide (Bg.val s0 s1 s2 s3 = 0)) w := EQ
      by_cases hz : Bg.val s0 s1 s2 s3 = 0
      · rw [decide_eq_true hz] at EQ
        have HZ := Lib.hid hz
        clear hz
        go_wp2_with (first | (refine wpList_load_ro rfl (.tmp 13) rfl rfl rowBig Hs.out.ro rfl ?_) | (refine wpList_store_ro rfl (.tmp 13) (.tmp 83) rfl rfl (vs := bigV 1 0 0 0) rfl rowBig Hs.out.ro rfl rfl (bigV_one _ _ _ _) ?_))
        intro w12 R12 g12
        have hge : w.heap.size ≤ wv3.heap.size := HGE.out
        have HA2 := Lib.hid (HA.out.grown g12 HA.out.size (fun q e => by injection e with e; subst e; exact hge))
        have Rn := Lib.hid R12
        have CC := Lib.hid (rcomp_is (words_word (n := 1) (by omega)))
        rw [val_word] at CC
        clear R12 g12 hge HA EQ
        go_wp2_with (refine wpList_load_ro rfl (.tmp 13) rfl rfl rowBig Rn.out rfl ?_)
        refine (CC.out _).mono ?_
        rintro e w13 ⟨rfl, hc⟩
        have HA3 := Lib.hid (HA2.out.trans (hc.mono HA2.out.size))
        clear hc HA2
        go_wp2_with fail
        go_ret
        exact ⟨by rw [eB.out, if_neg (fun e => e HR.out), eN.out, ← ES.out, if_pos HZ.out]; rfl, HA3.out⟩
      · rw [decide_eq_false hz] at EQ
        have HZ := Lib.hid hz
        clear hz
        have CC := Lib.hid (rcomp_is WS.out)
        go_wp2_with ((refine wpList_load_ro rfl (.tmp 13) rfl rfl rowBig Hs.out.ro rfl ?_))
        refine (CC.out _).mono ?_
        rintro e w13 ⟨rfl, hc⟩
        have HA3 := Lib.hid (HA.out.trans (hc.mono HA.out.size))
        clear hc HA EQ
        go_wp2_with fail
        go_ret
        exact ⟨by rw [eB.out, if_neg (fun e => e HR.out), eN.out, ← ES.out, if_neg HZ.out]; rfl, HA3.out⟩
    · have qr : (((m : Int) % (v : Int)) != 0) = true := by
        have : ((m : Int) % (v : Int)) = ((m % v : Nat) : Int) := rfl
        rw [this]
        simp
        omega
      have HR := Lib.hid hr
      clear hr
      go_wp2_with fail
      go_ret
      exact ⟨by rw [eB.out, if_pos HR.out, eL.out, EBT.out]; rfl, A4.out⟩
end Go.Proofs.YtimjmmiajgfblaaGreatDoor

/- Has a header's hash the work of its bits, and has no point of that height another hash? No condition but the lengths. -/
namespace Go.Proofs.YtimjmmiajgfblaaGreatDoor
open Go.RowKit

section
variable {w : World} {o : Oper} {a : Act} {Q : Exit → Act → World → Prop} {K : Act → World → Prop} {T : TypeId} {n b k : Nat} {vs : List Value} {d : Option Tmp}
theorem wp_load_part (hd : o.dst = d) (x : Operand) (ho : o.op = .load T x) (hx : a.eval x = .pointer (some ⟨b, k, none⟩)) (hT : IsRow T n) (hr : w.rangeAt b k vs) (hl : vs.length = n) (h : K (a.put d (.agg vs.toArray)) w) : o.wp Tryz.prog a w K Q := by
  subst hd
  unfold Oper.wp execOp
  obtain ⟨⟨f, h1⟩ | ⟨j, e, h1⟩, h3⟩ := hT
  · simp only [ho, hx, Instr.loadAt, Instr.sureAddr, Sem.run_bind, Sem.run_pure, Result.andThen_ok, run_loadVar_mid w b k T vs _ hr h1 rfl (by rw [h3]; simp [hl])]
    exact h
  · simp only [ho, hx, Instr.loadAt, Instr.sureAddr, Sem.run_bind, Sem.run_pure, Result.andThen_ok, run_loadVar_mid w b k T vs _ hr h1 rfl (by rw [h3]; simp [hl])]
    exact h
end
theorem vals_row {H : List Nat} (h : H.length = 32) : (vals H).toArray = Bg.rowOf (nth H) := by
  unfold Bg.rowOf vals
  congr 1
  refine List.ext_getElem (by simp [h]) fun k h1 h2 => ?_
  have hk : k < H.length := by simpa using h1
  simp [nth, byteV, hk]
theorem meets_any {H : List Nat} {t0 t1 t2 t3 : Nat} (hl : H.length = 32) (hb : AllB H) (wt : Bg.Words t0 t1 t2 t3) (w : World) :
    Calls Tryz.prog 69 #[.agg (vals H).toArray, .agg (bigV t0 t1 t2 t3).toArray] w fun e w' => e = .returned (.bool (meetsN H (Bg.val t0 t1 t2 t3))) ∧ Below w.heap.size w w' := by
  rw [vals_row hl, Bg.rowOf_lit]
  exact Bg.meetsIs (hb := nth H) (fun k _ => nth_lt hb k) wt _ rfl w
theorem rmeets_any {H : List Nat} {t0 t1 t2 t3 : Nat} (hl : H.length = 32) (hb : AllB H) (wt : Bg.Words t0 t1 t2 t3) (w : World) :
    Calls Tryz.prog 44 #[.agg (vals H).toArray, .agg (bigV t0 t1 t2 t3).toArray] w fun e w' => e = .returned (.bool (meetsN H (Bg.val t0 t1 t2 t3))) ∧ Below w.heap.size w w' := by
  rw [vals_row hl, Bg.rowOf_lit]
  exact Bg.rmeetsIs (hb := nth H) (fun k _ => nth_lt hb k) wt _ rfl w

set_option maxRecDepth 100000 in
set_option maxHeartbeats 4000000 in
theorem wrk_any {H : List Nat} {bt : Nat} (hl : H.length = 32) (hb : AllB H) (hbt : bt < 4294967296) (w : World) : Calls Tryz.prog 40 #[.int .u32 (bt : Nat), .agg (vals H).toArray] w fun e w' => e = .returned (.bool (meetsN H (tgtN bt))) ∧ Below w.heap.size w w' := by
  have HH := Lib.hid hl
  have HB := Lib.hid hb
  obtain ⟨t0, t1, t2, t3, wt, et, CT, _⟩ := of_words bt hbt
  have HCT := Lib.hid CT
  have HWT := Lib.hid wt
  have HET := Lib.hid et
  have ll : Hid ((vals H).length = 32) := Lib.hid (by rw [vals_length, hl])
  have HA := Lib.hid ((Below.refl w.heap.size w).alloc (Nat.le_refl _) (.cells (vals H).toArray 25))
  have R0 := Lib.hid (Ro.new w 25 (vals H))
  clear CT wt et hl hb
  go_enter Tryz.func40, Tryz.ntmps40
  go_wp2_with fail
  refine (HCT.out _).mono ?_
  rintro e w1 ⟨rfl, hc⟩
  have n0 := (Below.refl w1.heap.size w1).alloc (Nat.le_refl _) (.cells #[.int .u64 (t0 : Nat), .int .u64 (t1 : Nat), .int .u64 (t2 : Nat), .int .u64 (t3 : Nat)] 51)
  have Bt : BigB (w1.alloc (.cells #[.int .u64 (t0 : Nat), .int .u64 (t1 : Nat), .int .u64 (t2 : Nat), .int .u64 (t3 : Nat)] 51)) w1.heap.size t0 t1 t2 t3 := ⟨Ro.new _ _ _⟩
  have HBt := Lib.hid Bt
  have A1 := HA.out.trans (hc.mono HA.out.size)
  have HA1 := Lib.hid (A1.trans (n0.mono A1.size))
  have R1 := Lib.hid ((R0.out.later hc).later n0)
  clear hc n0 Bt A1 HA R0
  go_wp2_with (first | (refine wpList_load_ro rfl (.tmp 3) rfl rfl row26 R1.out ll.out ?_) | (refine wpList_load_ro rfl (.tmp 5) rfl rfl rowBig HBt.out.ro rfl ?_))
  refine (meets_any HH.out HB.out HWT.out _).mono ?_
  rintro e w2 ⟨rfl, hc⟩
  have HA2 := Lib.hid (HA1.out.trans (hc.mono HA1.out.size))
  clear hc
  go_wp2_with fail
  go_ret
  exact ⟨by rw [HET.out]; rfl, HA2.out⟩

/-- The point at hand is of that height, and another. -/
def ptOther (x : Int × List Nat) (k : Nat) (id : List Nat) : Bool := decide (x.1 = (k : Int) ∧ x.2 ≠ id)
set_option maxRecDepth 100000 in
set_option maxHeartbeats 4000000 in
theorem meets1_any {x : Int × List Nat} {k b1 b2 : Nat} {I : List Nat} (w : World) (hx : PtOk x) (hI : I.length = 32) (c1 : w.cell? ⟨b1, 0, none⟩ = some (.int .i64 (k : Nat))) (hb1 : b1 < w.heap.size) (R2 : Ro w b2 25 (vals I)) :
    Calls Tryz.prog 71 #[.agg (ptV x).toArray, .pointer (some ⟨b1, 0, none⟩), .pointer (some ⟨b2, 0, none⟩)] w fun e w' => e = .returned (.bool (ptOther x k I)) ∧ Below w.heap.size w w' := by
  obtain ⟨h, H⟩ := x
  have n0 := (Below.refl w.heap.size w).alloc (Nat.le_refl _) (.cells (ptV (h, H)).toArray 63)
  have HA := Lib.hid n0
  have R0 := Ro.new w 63 (ptV (h, H))
  have c0 := pt_height (rangeOf R0)
  have d1 : (w.alloc (.cells (ptV (h, H)).toArray 63)).cell? ⟨b1, 0, none⟩ = some (.int .i64 (k : Nat)) := by rw [← c1]; exact n0.cell hb1
  have RH := Lib.hid (pt_hash (rangeOf R0))
  have RI := Lib.hid (R2.later n0)
  have lH : Hid ((vals H).length = 32) := Lib.hid (by rw [vals_length]; exact hx.len)
  have lI : Hid ((vals I).length = 32) := Lib.hid (by rw [vals_length, hI])
  have EQ := eqV hx.len hI
  clear n0 R0 c1 R2 hx hI
  simp only at c0 RH
  by_cases e1 : h = (k : Int)
  · subst e1
    by_cases e2 : H = I
    · have E2 := Lib.hid e2
      rw [eqB_yes e2] at EQ
      clear e2
      go_enter Tryz.func71, Tryz.ntmps71
      go_wp2_with (first | (refine BigFrame.wpList_want (by rfl) fun K hK => wp_load_part rfl (.tmp 10) rfl rfl row26 RH.out lH.out (hK _ _ ?_)) | (refine BigFrame.wpList_want (by rfl) fun K hK => wp_load_ro (.tmp 2) rfl rfl row26 RI.out lI.out (hK _ _ ?_)))
      go_ret
      exact ⟨by rw [ptOther, decide_eq_false (fun q => q.2 E2.out)]; rfl, HA.out⟩
    · have E2 := Lib.hid e2
      rw [eqB_no e2] at EQ
      clear e2
      go_enter Tryz.func71, Tryz.ntmps71
      go_wp2_with (first | (refine BigFrame.wpList_want (by rfl) fun K hK => wp_load_part rfl (.tmp 10) rfl rfl row26 RH.out lH.out (hK _ _ ?_)) | (refine BigFrame.wpList_want (by rfl) fun K hK => wp_load_ro (.tmp 2) rfl rfl row26 RI.out lI.out (hK _ _ ?_)))
      go_ret
      exact ⟨by rw [ptOther, decide_eq_true ⟨rfl, E2.out⟩]; rfl, HA.out⟩
  · have E1 := Lib.hid e1
    have q1 : (h == (k : Int)) = false := by simpa using e1
    clear e1 EQ
    go_enter Tryz.func71, Tryz.ntmps71
    go_wp2_with fail
    go_ret
    exact ⟨by rw [ptOther, decide_eq_false (fun q => E1.out q.1)]; rfl, HA.out⟩
end Go.Proofs.YtimjmmiajgfblaaGreatDoor

/- Has a point of that height another hash? No condition but the lengths. -/
namespace Go.Proofs.YtimjmmiajgfblaaGreatDoor
open Go.RowKit

theorem any_take {l : List (Int × List Nat)} {f : Int × List Nat → Bool} {j : Nat} (h : j < l.length) (h0 : (l.take j).any f = false) : (l.take (j + 1)).any f = f (nthP l j) := by
  have e : l[j] = nthP l j := by simp [nthP, List.getD, h]
  rw [List.take_add_one, List.getElem?_eq_getElem h, List.any_append, h0, e]
  simp
theorem ptBad_eq (l : List (Int × List Nat)) (k : Nat) (I : List Nat) : ptBad l k I = l.any fun x => ptOther x k I := rfl

set_option maxRecDepth 100000 in
set_option maxHeartbeats 4000000 in
theorem indexFunc_any {A : Option Addr} {n c k b1 b2 : Nat} {l : List (Int × List Nat)} {I : List Nat} (w : World) (hR : Ps w A n l) (hn : n ≤ 1000000) (hI : I.length = 32) (c1 : w.cell? ⟨b1, 0, none⟩ = some (.int .i64 (k : Nat))) (hb1 : b1 < w.heap.size) (R2 : Ro w b2 25 (vals I)) :
    Calls Tryz.prog 93 #[.slice A n c, .func (.func 71) #[] #[.pointer (some ⟨b1, 0, none⟩), .pointer (some ⟨b2, 0, none⟩)]] w fun e w' => (∃ z : Int, e = .returned (.int .i64 z) ∧ decide (0 ≤ z) = ptBad l k I) ∧ Below w.heap.size w w' := by
  have HR := Lib.hid hR
  have HN := Lib.hid hR.len
  have HR2 := Lib.hid R2
  have HC := Lib.hid c1
  clear hR R2 c1
  go_enter Tryz.func93, Tryz.ntmps93
  go_wp2_with fail
  go_loopw [8] (fun i wr => ∃ j : Nat, j ≤ n ∧ i = .int .i64 (j : Nat) ∧ Below w.heap.size w wr ∧ Hid ((l.take j).any (fun x => ptOther x k I) = false)) (fun i _ => n - (intOf i).toNat)
  case atStart => exact ⟨0, Nat.zero_le _, rfl, Below.refl _ _, Lib.hid rfl⟩
  case round =>
    obtain ⟨j, hj, rfl, bel, h0⟩ := hrel
    have HB := Lib.hid bel
    clear bel
    by_cases hjn : j < n
    · obtain ⟨b, o, rfl, _, _⟩ := HR.out.cel (by omega)
      have ad := add_at b o
      have RG := Lib.hid (((HR.out.later HB.out).at_ hjn).2)
      have okp := Lib.hid (HR.out.nth hjn)
      have ll := Lib.hid (ptV_len okp.out)
      have hnx := Lib.hid (any_take (l := l) (by rw [HN.out]; exact hjn) h0.out)
      obtain ⟨x, hx⟩ : ∃ x, nthP l j = x := ⟨_, rfl⟩
      rw [hx] at RG okp ll hnx
      have HX := Lib.hid hx
      clear hx
      have CM := Lib.hid (meets1_any (k := k) wr okp.out hI (by rw [← HC.out]; exact HB.out.cell hb1) (Nat.lt_of_lt_of_le hb1 HB.out.size) (HR2.out.later HB.out))
      obtain ⟨r, hr⟩ : ∃ r, ptOther x k I = r := ⟨_, rfl⟩
      rw [hr] at CM hnx
      have HRr := Lib.hid hr
      clear hr
      go_wp2_with (refine wpList_load_part rfl (.tmp 14) rfl rfl rowPt RG.out ll.out ?_)
      refine (CM.out).mono ?_
      rintro e w2 ⟨rfl, hc⟩
      have HB2 := Lib.hid (HB.out.trans (hc.mono HB.out.size))
      clear hc CM HB
      cases r with
      | true =>
        go_wp2_with fail
        go_ret
        refine ⟨⟨_, rfl, ?_⟩, HB2.out⟩
        have hb : ptBad l k I = true := by
          rw [ptBad_eq, List.any_eq_true]
          exact ⟨x, HX.out ▸ nthP_in (by rw [HN.out]; exact hjn), HRr.out⟩
        rw [hb]
        exact decide_eq_true (by omega)
      | false =>
        go_wp2_with fail
        exact ⟨⟨j + 1, by omega, by go_num, HB2.out, hnx⟩, by simp [intOf]; omega⟩
    · obtain rfl : j = n := by omega
      go_wp2_with fail
      go_ret
      refine ⟨⟨-1, rfl, ?_⟩, HB.out⟩
      have := h0.out
      rw [List.take_of_length_le (by rw [HN.out]; omega)] at this
      rw [ptBad_eq, this]
      rfl
set_option maxRecDepth 100000 in
set_option maxHeartbeats 4000000 in
theorem containsFunc_any {A : Option Addr} {n c k b1 b2 : Nat} {l : List (Int × List Nat)} {I : List Nat} (w : World) (hR : Ps w A n l) (hn : n ≤ 1000000) (hI : I.length = 32) (c1 : w.cell? ⟨b1, 0, none⟩ = some (.int .i64 (k : Nat))) (hb1 : b1 < w.heap.size) (R2 : Ro w b2 25 (vals I)) :
    Calls Tryz.prog 70 #[.slice A n c, .func (.func 71) #[] #[.pointer (some ⟨b1, 0, none⟩), .pointer (some ⟨b2, 0, none⟩)]] w fun e w' => e = .returned (.bool (ptBad l k I)) ∧ Below w.heap.size w w' := by
  have IX := Lib.hid (indexFunc_any (c := c) w hR hn hI c1 hb1 R2)
  clear hR R2 c1
  obtain ⟨b, hb⟩ : ∃ b, ptBad l k I = b := ⟨_, rfl⟩
  rw [hb] at IX ⊢
  clear hb
  go_enter Tryz.func70, Tryz.ntmps70
  go_wp2_with fail
  refine (IX.out).mono ?_
  rintro e w2 ⟨⟨z, rfl, hz⟩, hc⟩
  have HB := Lib.hid hc
  clear hc
  go_wp2_with fail
  go_ret
  exact ⟨rfl, HB.out⟩
set_option maxRecDepth 100000 in
set_option maxHeartbeats 4000000 in
theorem mts_any {A : Option Addr} {n c k : Nat} {l : List (Int × List Nat)} {I : List Nat} (w : World) (hR : Ps w A n l) (hn : n ≤ 1000000) (hI : I.length = 32) :
    Calls Tryz.prog 43 #[.slice A n c, .int .i64 (k : Nat), .agg (vals I).toArray] w fun e w' => e = .returned (.bool (!ptBad l k I)) ∧ Below w.heap.size w w' := by
  have n0 := (Below.refl w.heap.size w).alloc (Nat.le_refl _) (.cells #[.int .i64 (k : Nat)] 3)
  have n1 := n0.alloc n0.size (.cells (vals I).toArray 25)
  have R1 := Ro.new (w.alloc (.cells #[.int .i64 (k : Nat)] 3)) 25 (vals I)
  rw [World.size_alloc] at R1
  have c1 : ((w.alloc (.cells #[.int .i64 (k : Nat)] 3)).alloc (.cells (vals I).toArray 25)).cell? ⟨w.heap.size, 0, none⟩ = some (.int .i64 (k : Nat)) := by
    have R0 := (Ro.new w 3 [.int .i64 (k : Nat)]).alloc (.cells (vals I).toArray 25)
    exact R0.cell (k := 0) rfl
  have CF := Lib.hid (containsFunc_any (c := c) (k := k) _ (hR.later n1) hn hI c1 (by rw [World.size_alloc, World.size_alloc]; omega) R1)
  have HA := Lib.hid n1
  clear n0 n1 R1 c1 hR
  go_enter Tryz.func43, Tryz.ntmps43
  go_wp2_with fail
  refine (CF.out).mono ?_
  rintro e w2 ⟨rfl, hc⟩
  have HA2 := Lib.hid (HA.out.trans (hc.mono HA.out.size))
  clear hc
  go_wp2_with fail
  go_ret
  exact ⟨rfl, HA2.out⟩
end Go.Proofs.YtimjmmiajgfblaaGreatDoor
