/- TargetBits returns true for every compact bits and every target, and each argument reads afterwards as it read before. No condition. -/
import Derived.Test.YtnipajfglmahiaaRows
import Derived.Test.YtnipajfglmahiaaTAnchor
import Derived.Test.YtnipajfglmahiaaRef03c
import Derived.Test.YtnipajfglmahiaaOpen32
namespace Go.Proofs.Ytnipajfglmahiaa
open Go.ChangeShapes Go.WideShapes Go.ChangeAt Go.RowKit

def RCompIs (x0 x1 x2 x3 c : Nat) : Prop := ∀ w : World, Calls Try.prog 11 #[.agg #[.int .u64 (x0 : Nat), .int .u64 (x1 : Nat), .int .u64 (x2 : Nat), .int .u64 (x3 : Nat)]] w fun e w' => e = .returned (.int .u32 (c : Nat)) ∧ Below w.heap.size w w'
theorem rcompIs {a0 a1 a2 a3 nb c : Nat} (ha : Words a0 a1 a2 a3) (hn : BitsOf (val a0 a1 a2 a3) nb) (hc : c = compOf (val a0 a1 a2 a3) nb) : RCompIs a0 a1 a2 a3 c := by
  intro w
  have e256 : (2 : Nat) ^ 256 = 115792089237316195423570985008687907853269984665640564039457584007913129639936 := by decide
  have n256 := hn.le (m := 256) (by rw [e256]; exact val_lt ha)
  have pl := partOf_lt hn
  by_cases z : val a0 a1 a2 a3 = 0
  · have n0 := hn.1 z
    rw [z, n0] at hc
    have c0 : c = 0 := hc.trans (by decide)
    subst c0
    exact rcom_zero a0 a1 a2 a3 w (eqZ ha true (by symm; rw [decide_eq_true_iff]; exact z))
  · have ez := eqZ ha false (by symm; rw [decide_eq_false_iff_not]; exact z)
    have bt := rbitsAt ha hn
    obtain ⟨sz, hsz⟩ : ∃ sz, sz = (nb + 7) / 8 := ⟨_, rfl⟩
    unfold compOf at hc
    rw [← hsz] at hc pl
    obtain ⟨r0, r1, r2, r3, wr, er⟩ := words_of (x := partOf (val a0 a1 a2 a3) sz) (by omega)
    have hr0 : r0 = partOf (val a0 a1 a2 a3) sz := by
      rw [← er] at pl ⊢
      obtain ⟨_, _, _, _⟩ := wr
      unfold val at pl ⊢
      omega
    rw [← hr0] at hc
    have pr : r0 < 16777216 := by omega
    obtain ⟨v0, v1, v2, v3, wv, ev⟩ := words_of (x := partOf (val a0 a1 a2 a3) sz / 256) (by omega)
    have hv0 : v0 = r0 / 256 := by
      have hl : val v0 v1 v2 v3 < 16777216 := by omega
      rw [hr0, ← ev]
      obtain ⟨_, _, _, _⟩ := wv
      unfold val at hl ⊢
      omega
    have c2 : RDownZ r0 r1 r2 r3 8 v0 v1 v2 v3 := rdownZ wr 8 (by omega) wv (by rw [ev, er]; rfl)
    have orb := or_part (sz + 1) v0 (by omega) (by omega)
    have ors := or_part sz r0 (by omega) pr
    by_cases small : sz < 3
    · obtain ⟨u, hu⟩ : ∃ u : Int, u = 8 * (3 - (sz : Int)) := ⟨_, rfl⟩
      have c1 : RUpZ a0 a1 a2 a3 u r0 r1 r2 r3 := rupZ ha u (by omega) wr (by
        have p2 := pl
        rw [er]
        unfold partOf at *
        rw [if_pos small] at p2 ⊢
        rw [show u.toNat = 8 * (3 - sz) by omega, Nat.mod_eq_of_lt (by omega)])
      have h3 : decide ((sz : Int) < 3) = true := decide_eq_true (by omega)
      by_cases big : 8388608 ≤ r0
      · rw [if_pos big] at hc
        exact rcom_s_t a0 a1 a2 a3 r0 r1 r2 r3 v0 v1 v2 v3 nb sz c u w n256 (by omega) (by omega) (by omega) pr (by omega) (by omega) ez bt c1 h3 hu.symm (decide_eq_true (by omega)) c2 (by rw [show ((sz : Int) + 1) * 16777216 = ((sz + 1 : Nat) : Int) * 16777216 by omega, orb, hc, hv0])
      · rw [if_neg big] at hc
        exact rcom_s_f a0 a1 a2 a3 r0 r1 r2 r3 nb sz c u w n256 (by omega) (by omega) (by omega) pr (by omega) ez bt c1 h3 hu.symm (decide_eq_false (by omega)) (by rw [ors, hc])
    · obtain ⟨u, hu⟩ : ∃ u : Int, u = 8 * ((sz : Int) - 3) := ⟨_, rfl⟩
      have c1 : RDownZ a0 a1 a2 a3 u r0 r1 r2 r3 := rdownZ ha u (by omega) wr (by
        rw [er]
        unfold partOf
        rw [if_neg small, show u.toNat = 8 * (sz - 3) by omega])
      have h3 : decide ((sz : Int) < 3) = false := decide_eq_false (by omega)
      by_cases big : 8388608 ≤ r0
      · rw [if_pos big] at hc
        exact rcom_b_t a0 a1 a2 a3 r0 r1 r2 r3 v0 v1 v2 v3 nb sz c u w n256 (by omega) (by omega) (by omega) pr (by omega) (by omega) ez bt c1 h3 hu.symm (decide_eq_true (by omega)) c2 (by rw [show ((sz : Int) + 1) * 16777216 = ((sz + 1 : Nat) : Int) * 16777216 by omega, orb, hc, hv0])
      · rw [if_neg big] at hc
        exact rcom_b_f a0 a1 a2 a3 r0 r1 r2 r3 nb sz c u w n256 (by omega) (by omega) (by omega) pr (by omega) ez bt c1 h3 hu.symm (decide_eq_false (by omega)) (by rw [ors, hc])

set_option maxRecDepth 100000 in
set_option maxHeartbeats 8000000 in
theorem bits_walk (n c a0 a1 a2 a3 s0 s1 s2 s3 : Nat) (o : Bool) (w : World) (_hn : n < 4294967296) (of1 : TOfIs n s0 s1 s2 s3 o) (of2 : RTOfIs n s0 s1 s2 s3 o) (es : EqIs s0 s1 s2 s3 s0 s1 s2 s3 true) (c1 : CompIs a0 a1 a2 a3 c) (c2 : RCompIs a0 a1 a2 a3 c) :
    Calls Try.prog 3 #[.int .u32 (n : Nat), .agg #[.int .u64 (a0 : Nat), .int .u64 (a1 : Nat), .int .u64 (a2 : Nat), .int .u64 (a3 : Nat)]] w fun e w' => e = .returned (.bool true) ∧ Below w.heap.size w w' := by
  have OF1H := Lib.hid of1
  have OF2H := Lib.hid of2
  have C1H := Lib.hid c1
  have C2H := Lib.hid c2
  clear of1 of2 c1 c2
  unfold EqIs at es
  go_enter Try.func3, Try.ntmps3
  go_wp2_with fail
  refine (OF1H.out _).mono ?_
  rintro e w1 ⟨rfl, h1⟩
  have PB : Below w.heap.size w w1 := ((Below.refl _ _).alloc (Nat.le_refl _) _).trans (h1.mono (by simp))
  have xa : Box w1 w.heap.size a0 a1 a2 a3 := (Box.new w (a0 : Nat) (a1 : Nat) (a2 : Nat) (a3 : Nat) 25).later h1
  clear h1
  have HPB := Lib.hid PB
  clear PB
  go_wp2_with fail
  have PB := HPB.out
  clear HPB
  replace xa := xa.alloc (.cells #[.int .u64 (s0 : Nat), .int .u64 (s1 : Nat), .int .u64 (s2 : Nat), .int .u64 (s3 : Nat)] 25)
  have xs := Box.new (w1) (s0 : Nat) (s1 : Nat) (s2 : Nat) (s3 : Nat) 25
  have PC := below_alloc PB (.cells #[.int .u64 (s0 : Nat), .int .u64 (s1 : Nat), .int .u64 (s2 : Nat), .int .u64 (s3 : Nat)] 25)
  clear PB
  have PB := PC
  clear PC
  generalize (w1).alloc (.cells #[.int .u64 (s0 : Nat), .int .u64 (s1 : Nat), .int .u64 (s2 : Nat), .int .u64 (s3 : Nat)] 25) = W1 at *
  generalize w1.heap.size = Bs at *
  refine (OF2H.out _).mono ?_
  rintro e w2 ⟨rfl, hc⟩
  replace xa := xa.later hc
  replace xs := xs.later hc
  have PC := below_step PB hc
  clear PB hc
  have PB := PC
  clear PC
  have HPB := Lib.hid PB
  clear PB
  go_wp2_with fail
  have PB := HPB.out
  clear HPB
  replace xa := xa.alloc (.cells #[.int .u64 (s0 : Nat), .int .u64 (s1 : Nat), .int .u64 (s2 : Nat), .int .u64 (s3 : Nat)] 25)
  replace xs := xs.alloc (.cells #[.int .u64 (s0 : Nat), .int .u64 (s1 : Nat), .int .u64 (s2 : Nat), .int .u64 (s3 : Nat)] 25)
  have xt := Box.new (w2) (s0 : Nat) (s1 : Nat) (s2 : Nat) (s3 : Nat) 25
  have PC := below_alloc PB (.cells #[.int .u64 (s0 : Nat), .int .u64 (s1 : Nat), .int .u64 (s2 : Nat), .int .u64 (s3 : Nat)] 25)
  clear PB
  have PB := PC
  clear PC
  generalize (w2).alloc (.cells #[.int .u64 (s0 : Nat), .int .u64 (s1 : Nat), .int .u64 (s2 : Nat), .int .u64 (s3 : Nat)] 25) = W3 at *
  generalize w2.heap.size = Bt at *
  have ca := xa
  obtain ⟨ca0, ca1, ca2, ca3⟩ := ca
  have la := World.block_lt_of_cell? _ _ ca0
  simp only [] at la
  have cs := xs
  obtain ⟨cs0, cs1, cs2, cs3⟩ := cs
  have ls := World.block_lt_of_cell? _ _ cs0
  simp only [] at ls
  have ct := xt
  obtain ⟨ct0, ct1, ct2, ct3⟩ := ct
  have lt := World.block_lt_of_cell? _ _ ct0
  simp only [] at lt
  have ua0 : ∀ u : After W3, u.w.cell? ⟨w.heap.size, 0, none⟩ = some (.int .u64 (a0 : Nat)) := fun u => u.cell ca0
  have ua1 : ∀ u : After W3, u.w.cell? ⟨w.heap.size, 1, none⟩ = some (.int .u64 (a1 : Nat)) := fun u => u.cell ca1
  have ua2 : ∀ u : After W3, u.w.cell? ⟨w.heap.size, 2, none⟩ = some (.int .u64 (a2 : Nat)) := fun u => u.cell ca2
  have ua3 : ∀ u : After W3, u.w.cell? ⟨w.heap.size, 3, none⟩ = some (.int .u64 (a3 : Nat)) := fun u => u.cell ca3
  have us0 : ∀ u : After W3, u.w.cell? ⟨Bs, 0, none⟩ = some (.int .u64 (s0 : Nat)) := fun u => u.cell cs0
  have us1 : ∀ u : After W3, u.w.cell? ⟨Bs, 1, none⟩ = some (.int .u64 (s1 : Nat)) := fun u => u.cell cs1
  have us2 : ∀ u : After W3, u.w.cell? ⟨Bs, 2, none⟩ = some (.int .u64 (s2 : Nat)) := fun u => u.cell cs2
  have us3 : ∀ u : After W3, u.w.cell? ⟨Bs, 3, none⟩ = some (.int .u64 (s3 : Nat)) := fun u => u.cell cs3
  have ut0 : ∀ u : After W3, u.w.cell? ⟨Bt, 0, none⟩ = some (.int .u64 (s0 : Nat)) := fun u => u.cell ct0
  have ut1 : ∀ u : After W3, u.w.cell? ⟨Bt, 1, none⟩ = some (.int .u64 (s1 : Nat)) := fun u => u.cell ct1
  have ut2 : ∀ u : After W3, u.w.cell? ⟨Bt, 2, none⟩ = some (.int .u64 (s2 : Nat)) := fun u => u.cell ct2
  have ut3 : ∀ u : After W3, u.w.cell? ⟨Bt, 3, none⟩ = some (.int .u64 (s3 : Nat)) := fun u => u.cell ct3
  have HPB := Lib.hid PB
  clear PB
  refine wp_region_after (by kernel_rfl) (by kernel_rfl) ?_
  repeat (go_big_quiet_step ((first | (go_at_call 10; exact after_call (C1H.out _)) | (go_at_call 11; exact after_call (C2H.out _)) | (go_at_call 12; exact after_call (works_any _)))))
  refine wpQuiet_nil ?_
  rintro _ ⟨u, rfl⟩
  clear ca0 ca1 ca2 ca3 cs0 cs1 cs2 cs3 ct0 ct1 ct2 ct3 la ls lt
  clear ua0 ua1 ua2 ua3 us0 us1 us2 us3 ut0 ut1 ut2 ut3
  replace xa := xa.later u.below
  replace xs := xs.later u.below
  replace xt := xt.later u.below
  have PB := below_step HPB.out u.below
  clear HPB
  generalize u.w = W4 at *
  clear u
  have HPB := Lib.hid PB
  clear PB
  go_wp2_with fail
  have PB := HPB.out
  clear HPB
  go_ret
  exact ⟨rfl, PB⟩

theorem tbits_any (n a0 a1 a2 a3 : Nat) (hn : n < 4294967296) (ha : Words a0 a1 a2 a3) (w : World) :
    Calls Try.prog 3 #[.int .u32 (n : Nat), .agg #[.int .u64 (a0 : Nat), .int .u64 (a1 : Nat), .int .u64 (a2 : Nat), .int .u64 (a3 : Nat)]] w fun e w' => e = .returned (.bool true) ∧ Below w.heap.size w w' := by
  obtain ⟨s0, s1, s2, s3, ws, es⟩ := words_of (x := if okOf n then tvOf n * 2 ^ upOf n else 0) (by
    split
    · rename_i h; exact h.2.2
    · decide)
  have na := bits4_of ha
  exact bits_walk n _ a0 a1 a2 a3 s0 s1 s2 s3 _ w hn (tofIs hn ws _ rfl es) (rtofIs hn ws _ rfl es) (eqIs ws ws true (by symm; rw [decide_eq_true_iff])) (compIs ha na rfl) (rcompIs ha na rfl)

set_option maxRecDepth 100000 in
theorem targetBits_lifted (os : Os) (started : os.Started) (H : Type) (enc : TypeId × Value → H) :
    ReturnsInHanded {} Try.checked os 3 .any (Rows.targetBitsSpec.pre6 enc Try.prog Try.f3 Rows.targetBitsRow.domain false) (Rows.targetBitsSpec.post enc Try.prog Try.f3 false true false false) := by
  refine returnsInHanded_of_change (C := Try.checked) Try.own started (by kernel_rfl) Try.func3
    (ChangeSpec.witness6 (enc := enc) (C := Try.checked) false ⟨#[], #[.int .u32 0, .agg #[.int .u64 0, .int .u64 0, .int .u64 0, .int .u64 0]], []⟩ 8 (by kernel_rfl) (by kernel_rfl) (by kernel_rfl) (by kernel_rfl)) ?_
  intro W base args ds gs before hval0 hW hcnd _
  have hval : ∀ (j : Nat) t v, Try.f3.params[j]? = some t → args[j]? = some v → Value.okWide Try.prog W .any base t v := hval0
  have hW' := hW
  obtain ⟨p, q, hA0, hV, rfl, hfz, hnd⟩ := hW
  have hA : DataW.TrodAll enc Try.prog W 0 (fun _ => true) true Try.f3.params.toList args.toList ds p := hA0
  rw [Try.params3] at hA hval
  obtain ⟨v0, vs0, d0, ds0, p0, q0, hargs, rfl, rfl, h0, r0⟩ := trodAll_cons hA
  obtain ⟨v1, vs1, d1, ds1, p1, q1, rfl, rfl, rfl, h1, r1⟩ := trodAll_cons r0
  obtain ⟨rfl, rfl, rfl⟩ := trodAll_nil r1
  obtain rfl : args = #[v0, v1] := by cases args; simp_all
  obtain ⟨rfl, rfl⟩ := trodVars_none hV
  have lt0 : ∀ x ∈ p0, x.block < W.heap.size := by obtain ⟨m, hm⟩ := h0; exact DataW.trod_lt m _ _ _ hm
  have lt1 : ∀ x ∈ p1, x.block < W.heap.size := by obtain ⟨m, hm⟩ := h1; exact DataW.trod_lt m _ _ _ hm
  obtain ⟨a, wa, rfl⟩ := open_u32 (hval 0 22 v0 rfl rfl) h0
  obtain ⟨b0, b1, b2, b3, wb, rfl⟩ := open_big (hval 1 25 v1 rfl rfl) h1
  clear hA0 hval0
  refine (tbits_any a b0 b1 b2 b3 wa wb W).mono fun e W' ⟨he, bel⟩ => ?_
  subst he
  exact ⟨_, rfl, _, _, _, [], _, [], hW', trodAll_mk1 (shut_bool Try.underlying4 _), (trodAll_cons_mk (Below.trod Try.laidOut (by kernel_rfl) (of_decide_eq_true (by kernel_rfl)) h0 bel lt0) (trodAll_cons_mk (Below.trod Try.laidOut (by kernel_rfl) (of_decide_eq_true (by kernel_rfl)) h1 bel lt1) trodAll_mk0)), rfl, bel.frame _, fun h => by cases h⟩

theorem targetBits_holds : Rows.TargetBitsSaid :=
  OpenClaim.holds_of_wide 3 Try.f3 rfl rfl rfl rfl rfl rfl rfl ⟨rfl, rfl, rfl, rfl, rfl⟩ rfl rfl rfl rfl rfl (by kernel_rfl) Try.func3 (by kernel_rfl)
    (of_decide_eq_true (by kernel_rfl)) (by unfold Func.isWrapper; rw [if_neg (of_decide_eq_false (by kernel_rfl))]; exact ⟨rfl, rfl⟩)
    (fun os started H enc _ => targetBits_lifted os started H enc)

end Go.Proofs.Ytnipajfglmahiaa
