/- TargetEasy returns true for every size and every part, and each argument reads afterwards as it read before. No condition. -/
import Derived.Test.YtnipajfglmahiaaRows
import Derived.Test.YtnipajfglmahiaaTAnchor
import Derived.Test.YtnipajfglmahiaaOpen32
namespace Go.Proofs.Ytnipajfglmahiaa
open Go.ChangeShapes Go.WideShapes Go.ChangeAt Go.RowKit

theorem UpZ.word {n s0 s1 s2 s3 : Nat} {d : Int} (h : UpZ n 0 0 0 d s0 s1 s2 s3) (w : World) : Calls Try.prog 26 #[.agg #[.int .u64 (n : Nat), .int .u64 0, .int .u64 0, .int .u64 0], .int .i64 d] w fun e w' => e = .returned (.agg #[.int .u64 (s0 : Nat), .int .u64 (s1 : Nat), .int .u64 (s2 : Nat), .int .u64 (s3 : Nat)]) ∧ Below w.heap.size w w' := h w

set_option maxRecDepth 100000 in
set_option maxHeartbeats 8000000 in
theorem easy_walk (a b n p c m t0 t1 t2 t3 z0 z1 z2 z3 : Nat) (ok : Bool) (u : Int) (w : World) (_ha : a < 256) (_hb : b < 4294967296) (_hn : n ≤ 31) (_hn3 : 3 ≤ n) (_hp : p < 8388608) (_hc : c < 4294967296)
    (hN : (3 : Int) + (a : Int) % 29 = (n : Int)) (hP : (b : Int) % 8388608 = (p : Int)) (hC : bits BinOp.or IntKind.u32 ((n : Int) * 16777216) (p : Int) = (c : Int)) (hM : bits BinOp.or IntKind.u32 (c : Int) 8388608 = (m : Int))
    (of1 : TOfIs c t0 t1 t2 t3 ok) (of2 : TOfIs m z0 z1 z2 z3 false) (hq : ((p : Int) != 0) = ok) (hu : 8 * ((n : Int) - 3) = u) (up : UpZ p 0 0 0 u t0 t1 t2 t3) (et : EqIs t0 t1 t2 t3 t0 t1 t2 t3 true) :
    Calls Try.prog 7 #[.int .u8 (a : Nat), .int .u32 (b : Nat)] w fun e w' => e = .returned (.bool true) ∧ Below w.heap.size w w' := by
  have OF1 := Lib.hid of1
  have OF2 := Lib.hid of2
  have UPH := Lib.hid up
  have HQ := Lib.hid hq
  have HU := Lib.hid hu
  clear of1 of2 up hq hu
  unfold EqIs at et
  go_enter Try.func7, Try.ntmps7
  go_wp2_with fail
  have PB := Below.refl w.heap.size w
  refine (OF1.out _).mono ?_
  rintro e w1 ⟨rfl, hc⟩
  have PC := below_step PB hc
  clear PB hc
  have PB := PC
  clear PC
  have HPB := Lib.hid PB
  clear PB
  go_wp2_with fail
  have PB := HPB.out
  clear HPB
  have xt := Box.new (w1) (t0 : Nat) (t1 : Nat) (t2 : Nat) (t3 : Nat) 25
  have PC := below_alloc PB (.cells #[.int .u64 (t0 : Nat), .int .u64 (t1 : Nat), .int .u64 (t2 : Nat), .int .u64 (t3 : Nat)] 25)
  clear PB
  have PB := PC
  clear PC
  generalize (w1).alloc (.cells #[.int .u64 (t0 : Nat), .int .u64 (t1 : Nat), .int .u64 (t2 : Nat), .int .u64 (t3 : Nat)] 25) = W2 at *
  generalize w1.heap.size = Bt at *
  refine (OF2.out _).mono ?_
  rintro e w3 ⟨rfl, hc⟩
  replace xt := xt.later hc
  have PC := below_step PB hc
  clear PB hc
  have PB := PC
  clear PC
  have HPB := Lib.hid PB
  clear PB
  go_wp2_with fail
  have PB := HPB.out
  clear HPB
  replace xt := xt.alloc (.cells #[.int .u64 (z0 : Nat), .int .u64 (z1 : Nat), .int .u64 (z2 : Nat), .int .u64 (z3 : Nat)] 25)
  have xm := Box.new (w3) (z0 : Nat) (z1 : Nat) (z2 : Nat) (z3 : Nat) 25
  have PC := below_alloc PB (.cells #[.int .u64 (z0 : Nat), .int .u64 (z1 : Nat), .int .u64 (z2 : Nat), .int .u64 (z3 : Nat)] 25)
  clear PB
  have PB := PC
  clear PC
  generalize (w3).alloc (.cells #[.int .u64 (z0 : Nat), .int .u64 (z1 : Nat), .int .u64 (z2 : Nat), .int .u64 (z3 : Nat)] 25) = W4 at *
  generalize w3.heap.size = Bm at *
  have ct := xt
  obtain ⟨ct0, ct1, ct2, ct3⟩ := ct
  have lt := World.block_lt_of_cell? _ _ ct0
  simp only [] at lt
  have ut0 : ∀ u : After W4, u.w.cell? ⟨Bt, 0, none⟩ = some (.int .u64 (t0 : Nat)) := fun u => u.cell ct0
  have ut1 : ∀ u : After W4, u.w.cell? ⟨Bt, 1, none⟩ = some (.int .u64 (t1 : Nat)) := fun u => u.cell ct1
  have ut2 : ∀ u : After W4, u.w.cell? ⟨Bt, 2, none⟩ = some (.int .u64 (t2 : Nat)) := fun u => u.cell ct2
  have ut3 : ∀ u : After W4, u.w.cell? ⟨Bt, 3, none⟩ = some (.int .u64 (t3 : Nat)) := fun u => u.cell ct3
  have hq := HQ.out
  have hu := HU.out
  have HPB := Lib.hid PB
  clear PB
  refine wp_region_after (by kernel_rfl) (by kernel_rfl) ?_
  repeat (go_big_quiet_step ((first | (go_at_call 24; exact after_call (ofIs p _)) | (go_at_call 26; exact after_call (UPH.out.word _)) | (go_at_call 12; exact after_call (works_any _)))))
  refine wpQuiet_nil ?_
  rintro _ ⟨u, rfl⟩
  clear ct0 ct1 ct2 ct3 lt
  clear ut0 ut1 ut2 ut3
  clear hq hu
  replace xt := xt.later u.below
  replace xm := xm.later u.below
  have PB := below_step HPB.out u.below
  clear HPB
  generalize u.w = W5 at *
  clear u
  have HPB := Lib.hid PB
  clear PB
  go_wp2_with fail
  have PB := HPB.out
  clear HPB
  go_ret
  exact ⟨rfl, PB⟩

theorem easy_any (a b : Nat) (ha : a < 256) (hb : b < 4294967296) (w : World) :
    Calls Try.prog 7 #[.int .u8 (a : Nat), .int .u32 (b : Nat)] w fun e w' => e = .returned (.bool true) ∧ Below w.heap.size w w' := by
  obtain ⟨n, hn⟩ : ∃ n, n = 3 + a % 29 := ⟨_, rfl⟩
  obtain ⟨p, hp⟩ : ∃ p, p = b % 8388608 := ⟨_, rfl⟩
  have n3 : 3 ≤ n := by omega
  have n31 : n ≤ 31 := by omega
  have p23 : p < 8388608 := by omega
  have hC := or_part n p (by omega) (by omega)
  obtain ⟨c, hc⟩ : ∃ c, c = n * 16777216 + p := ⟨_, rfl⟩
  rw [← hc] at hC
  have hM : bits BinOp.or IntKind.u32 (c : Int) 8388608 = ((c + 8388608 : Nat) : Int) := by
    have h := bits_or32 c 8388608 (by omega) (by omega)
    have e := Nat.two_pow_add_eq_or_of_lt (i := 24) (b := p) (by rw [show (2 : Nat) ^ 24 = 16777216 by decide]; omega) n
    have e2 := Nat.two_pow_add_eq_or_of_lt (i := 23) (b := p) (by rw [show (2 : Nat) ^ 23 = 8388608 by decide]; omega) 1
    have e3 := Nat.two_pow_add_eq_or_of_lt (i := 24) (b := 8388608 + p) (by rw [show (2 : Nat) ^ 24 = 16777216 by decide]; omega) n
    rw [show (2 : Nat) ^ 24 = 16777216 by decide] at e e3
    rw [show (2 : Nat) ^ 23 = 8388608 by decide, Nat.mul_one] at e2
    have key : c ||| 8388608 = c + 8388608 := by
      rw [show c = 16777216 * n + p by omega, e, Nat.or_assoc, Nat.or_comm p, ← e2, ← e3]
      omega
    rw [key] at h
    exact h
  have hlt : p * 2 ^ (8 * (n - 3)) < 115792089237316195423570985008687907853269984665640564039457584007913129639936 := by
    have h1 : p * 2 ^ (8 * (n - 3)) ≤ 8388608 * 2 ^ (8 * (n - 3)) := Nat.mul_le_mul_right _ (by omega)
    have h2 : 2 ^ (8 * (n - 3)) ≤ 2 ^ 224 := Nat.pow_le_pow_right (by omega) (by omega)
    have e224 : (2 : Nat) ^ 224 = 26959946667150639794667015087019630673637144422540572481103610249216 := by decide
    omega
  have up0 : upOf c = 8 * (n - 3) := by unfold upOf; omega
  have tv0 : tvOf c = p := by unfold tvOf; rw [if_neg (by omega)]; omega
  have okc : okOf c ↔ p ≠ 0 := by
    unfold okOf
    rw [tv0, up0]
    exact ⟨fun h => h.1, fun h => ⟨h, by omega, hlt⟩⟩
  obtain ⟨t0, t1, t2, t3, wt, et⟩ := words_of (x := p * 2 ^ (8 * (n - 3))) hlt
  obtain ⟨z0, z1, z2, z3, wz, ez⟩ := words_of (x := 0) (by decide)
  have of1 := tofIs (n := c) (by omega) wt (decide (okOf c)) rfl (by
    rw [et]
    by_cases h : p = 0
    · rw [if_neg (fun k => (okc.1 k) h), h, Nat.zero_mul]
    · rw [if_pos (okc.2 h), tv0, up0])
  have nok : ¬ okOf (c + 8388608) := fun k => by have := k.2.1; omega
  have of2 := tofIs (n := c + 8388608) (by omega) wz false (decide_eq_false nok).symm (by rw [if_neg nok, ez])
  have wp : Words p 0 0 0 := ⟨by omega, by omega, by omega, by omega⟩
  have vp : val p 0 0 0 = p := by unfold val; omega
  have up := upZ wp (8 * ((n : Int) - 3)) wt (by rw [et, vp, show (8 * ((n : Int) - 3)).toNat = 8 * (n - 3) by omega, Nat.mod_eq_of_lt hlt])
  refine easy_walk a b n p c _ t0 t1 t2 t3 z0 z1 z2 z3 _ _ w ha hb n31 n3 p23 (by omega) (by omega) (by omega) hC hM of1 of2 ?_ rfl up (eqIs wt wt true (by symm; rw [decide_eq_true_iff]))
  rw [Bool.eq_iff_iff, bne_iff_ne, decide_eq_true_iff, okc]
  omega

set_option maxRecDepth 100000 in
theorem targetEasy_lifted (os : Os) (started : os.Started) (H : Type) (enc : TypeId × Value → H) :
    ReturnsInHanded {} Try.checked os 7 .any (Rows.targetEasySpec.pre6 enc Try.prog Try.f7 Rows.targetEasyRow.domain false) (Rows.targetEasySpec.post enc Try.prog Try.f7 false true false false) := by
  refine returnsInHanded_of_change (C := Try.checked) Try.own started (by kernel_rfl) Try.func7
    (ChangeSpec.witness6 (enc := enc) (C := Try.checked) false ⟨#[], #[.int .u8 0, .int .u32 0], []⟩ 8 (by kernel_rfl) (by kernel_rfl) (by kernel_rfl) (by kernel_rfl)) ?_
  intro W base args ds gs before hval0 hW hcnd _
  have hval : ∀ (j : Nat) t v, Try.f7.params[j]? = some t → args[j]? = some v → Value.okWide Try.prog W .any base t v := hval0
  have hW' := hW
  obtain ⟨p, q, hA0, hV, rfl, hfz, hnd⟩ := hW
  have hA : DataW.TrodAll enc Try.prog W 0 (fun _ => true) true Try.f7.params.toList args.toList ds p := hA0
  rw [Try.params7] at hA hval
  obtain ⟨v0, vs0, d0, ds0, p0, q0, hargs, rfl, rfl, h0, r0⟩ := trodAll_cons hA
  obtain ⟨v1, vs1, d1, ds1, p1, q1, rfl, rfl, rfl, h1, r1⟩ := trodAll_cons r0
  obtain ⟨rfl, rfl, rfl⟩ := trodAll_nil r1
  obtain rfl : args = #[v0, v1] := by cases args; simp_all
  obtain ⟨rfl, rfl⟩ := trodVars_none hV
  have lt0 : ∀ x ∈ p0, x.block < W.heap.size := by obtain ⟨m, hm⟩ := h0; exact DataW.trod_lt m _ _ _ hm
  have lt1 : ∀ x ∈ p1, x.block < W.heap.size := by obtain ⟨m, hm⟩ := h1; exact DataW.trod_lt m _ _ _ hm
  obtain ⟨a, wa, rfl⟩ := open_u8 (hval 0 5 v0 rfl rfl) h0
  obtain ⟨b, wb, rfl⟩ := open_u32 (hval 1 22 v1 rfl rfl) h1
  clear hA0 hval0
  refine (easy_any a b wa wb W).mono fun e W' ⟨he, bel⟩ => ?_
  subst he
  exact ⟨_, rfl, _, _, _, [], _, [], hW', trodAll_mk1 (shut_bool Try.underlying4 _), (trodAll_cons_mk (Below.trod Try.laidOut (by kernel_rfl) (of_decide_eq_true (by kernel_rfl)) h0 bel lt0) (trodAll_cons_mk (Below.trod Try.laidOut (by kernel_rfl) (of_decide_eq_true (by kernel_rfl)) h1 bel lt1) trodAll_mk0)), rfl, bel.frame _, fun h => by cases h⟩

theorem targetEasy_holds : Rows.TargetEasySaid :=
  OpenClaim.holds_of_wide 7 Try.f7 rfl rfl rfl rfl rfl rfl rfl ⟨rfl, rfl, rfl, rfl, rfl⟩ rfl rfl rfl rfl rfl (by kernel_rfl) Try.func7 (by kernel_rfl)
    (of_decide_eq_true (by kernel_rfl)) (by unfold Func.isWrapper; rw [if_neg (of_decide_eq_false (by kernel_rfl))]; exact ⟨rfl, rfl⟩)
    (fun os started H enc _ => targetEasy_lifted os started H enc)

end Go.Proofs.Ytnipajfglmahiaa
