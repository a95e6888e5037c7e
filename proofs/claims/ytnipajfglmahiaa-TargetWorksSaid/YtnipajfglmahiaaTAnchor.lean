/- The anchor of the package target's statements is true: it returns true, and nothing that was there has turned. -/
import Derived.Test.YtnipajfglmahiaaTCompact
import Derived.Test.YtnipajfglmahiaaTWork
namespace Go.Proofs.Ytnipajfglmahiaa
open Go.RowKit

theorem lit_of1 (w : World) : Calls Try.prog 8 #[.int .u32 486604799] w fun e w' => e = .returned (.tuple #[.agg #[.int .u64 0, .int .u64 0, .int .u64 0, .int .u64 4294901760], .bool true]) ∧ Below w.heap.size w w' := by
  have h : okOf 486604799 := ⟨by decide, by decide, by decide⟩
  exact tofIs (n := 486604799) (s0 := 0) (s1 := 0) (s2 := 0) (s3 := 4294901760) (by decide) ⟨by omega, by omega, by omega, by omega⟩ true (decide_eq_true h).symm (by rw [if_pos h]; decide) w
theorem lit_of5 (w : World) : Calls Try.prog 8 #[.int .u32 17104896] w fun e w' => e = .returned (.tuple #[.agg #[.int .u64 5, .int .u64 0, .int .u64 0, .int .u64 0], .bool true]) ∧ Below w.heap.size w w' := by
  have h : okOf 17104896 := ⟨by decide, by decide, by decide⟩
  exact tofIs (n := 17104896) (s0 := 5) (s1 := 0) (s2 := 0) (s3 := 0) (by decide) ⟨by omega, by omega, by omega, by omega⟩ true (decide_eq_true h).symm (by rw [if_pos h]; decide) w
theorem lit_of0 (w : World) : Calls Try.prog 8 #[.int .u32 0] w fun e w' => e = .returned (.tuple #[.agg #[.int .u64 0, .int .u64 0, .int .u64 0, .int .u64 0], .bool false]) ∧ Below w.heap.size w w' := by
  have h : ¬ okOf 0 := fun k => absurd k.1 (by decide)
  exact tofIs (n := 0) (s0 := 0) (s1 := 0) (s2 := 0) (s3 := 0) (by decide) ⟨by omega, by omega, by omega, by omega⟩ false (decide_eq_false h).symm (by rw [if_neg h]; decide) w
theorem lit_of_sign (w : World) : Calls Try.prog 8 #[.int .u32 58720261] w fun e w' => e = .returned (.tuple #[.agg #[.int .u64 0, .int .u64 0, .int .u64 0, .int .u64 0], .bool false]) ∧ Below w.heap.size w w' := by
  have h : ¬ okOf 58720261 := fun k => absurd k.2.1 (by decide)
  exact tofIs (n := 58720261) (s0 := 0) (s1 := 0) (s2 := 0) (s3 := 0) (by decide) ⟨by omega, by omega, by omega, by omega⟩ false (decide_eq_false h).symm (by rw [if_neg h]; decide) w
theorem lit_of_far (w : World) : Calls Try.prog 8 #[.int .u32 587202561] w fun e w' => e = .returned (.tuple #[.agg #[.int .u64 0, .int .u64 0, .int .u64 0, .int .u64 0], .bool false]) ∧ Below w.heap.size w w' := by
  have h : ¬ okOf 587202561 := fun k => absurd k.2.2 (by decide)
  exact tofIs (n := 587202561) (s0 := 0) (s1 := 0) (s2 := 0) (s3 := 0) (by decide) ⟨by omega, by omega, by omega, by omega⟩ false (decide_eq_false h).symm (by rw [if_neg h]; decide) w
theorem lit_up (w : World) : Calls Try.prog 30 #[.agg #[.int .u64 65535, .int .u64 0, .int .u64 0, .int .u64 0], .int .i64 208] w fun e w' => e = .returned (.agg #[.int .u64 0, .int .u64 0, .int .u64 0, .int .u64 4294901760]) ∧ Below w.heap.size w w' := by
  have h := refup_any (a0 := 65535) (a1 := 0) (a2 := 0) (a3 := 0) ⟨by omega, by omega, by omega, by omega⟩ 208 (by omega) (by omega) w
  refine h.mono fun e w' ⟨o0, o1, o2, o3, he, wo, vo, hb⟩ => ?_
  have e2 : val 65535 0 0 0 * 2 ^ 208 % 115792089237316195423570985008687907853269984665640564039457584007913129639936 = val 0 0 0 4294901760 := by decide
  obtain ⟨rfl, rfl, rfl, rfl⟩ := val_inj wo (b0 := 0) (b1 := 0) (b2 := 0) (b3 := 4294901760) ⟨by omega, by omega, by omega, by omega⟩ (vo.trans e2)
  exact ⟨he, hb⟩
theorem lit_compT (w : World) : Calls Try.prog 10 #[.agg #[.int .u64 0, .int .u64 0, .int .u64 0, .int .u64 4294901760]] w fun e w' => e = .returned (.int .u32 486604799) ∧ Below w.heap.size w w' :=
  compIs (a0 := 0) (a1 := 0) (a2 := 0) (a3 := 4294901760) (nb := 224) (c := 486604799) ⟨by omega, by omega, by omega, by omega⟩ ⟨fun h => absurd h (by decide), fun _ => ⟨by decide, by decide, by decide⟩⟩ (by decide) w
theorem lit_comp80 (w : World) : Calls Try.prog 10 #[.agg #[.int .u64 128, .int .u64 0, .int .u64 0, .int .u64 0]] w fun e w' => e = .returned (.int .u32 33587200) ∧ Below w.heap.size w w' :=
  compIs (a0 := 128) (a1 := 0) (a2 := 0) (a3 := 0) (nb := 8) (c := 33587200) ⟨by omega, by omega, by omega, by omega⟩ ⟨fun h => absurd h (by decide), fun _ => ⟨by decide, by decide, by decide⟩⟩ (by decide) w
theorem lit_work (w : World) : Calls Try.prog 16 #[.agg #[.int .u64 0, .int .u64 0, .int .u64 0, .int .u64 4294901760]] w fun e w' => e = .returned (.agg #[.int .u64 4295032833, .int .u64 0, .int .u64 0, .int .u64 0]) ∧ Below w.heap.size w w' :=
  workIs (t0 := 0) (t1 := 0) (t2 := 0) (t3 := 4294901760) (k0 := 4295032833) (k1 := 0) (k2 := 0) (k3 := 0) ⟨by omega, by omega, by omega, by omega⟩ ⟨by omega, by omega, by omega, by omega⟩ (by decide) w

set_option maxRecDepth 100000 in
set_option maxHeartbeats 8000000 in
theorem works_any (w : World) : Calls Try.prog 12 #[] w fun e w' => e = .returned (.bool true) ∧ Below w.heap.size w w' := by
  have EQ := eq_big
  go_enter Try.func12, Try.ntmps12
  go_wp2_with fail
  have PB := Below.refl w.heap.size w
  refine (lit_of1 _).mono ?_
  rintro e w1 ⟨rfl, hc⟩
  have PC := below_step PB hc
  clear PB hc
  have PB := PC
  clear PC
  have HPB := Lib.hid PB
  clear PB
  go_wp2_with fail
  have PB := HPB.out
  clear HPB
  have xa := Box.new (w1) 0 0 0 4294901760 25
  have PC := below_alloc PB (.cells #[.int .u64 0, .int .u64 0, .int .u64 0, .int .u64 4294901760] 25)
  clear PB
  have PB := PC
  clear PC
  generalize (w1).alloc (.cells #[.int .u64 0, .int .u64 0, .int .u64 0, .int .u64 4294901760] 25) = W2 at *
  generalize w1.heap.size = Ba at *
  refine (lit_of5 _).mono ?_
  rintro e w3 ⟨rfl, hc⟩
  replace xa := xa.later hc
  have PC := below_step PB hc
  clear PB hc
  have PB := PC
  clear PC
  have HPB := Lib.hid PB
  clear PB
  go_wp2_with fail
  have PB := HPB.out
  clear HPB
  replace xa := xa.alloc (.cells #[.int .u64 5, .int .u64 0, .int .u64 0, .int .u64 0] 25)
  have xb := Box.new (w3) 5 0 0 0 25
  have PC := below_alloc PB (.cells #[.int .u64 5, .int .u64 0, .int .u64 0, .int .u64 0] 25)
  clear PB
  have PB := PC
  clear PC
  generalize (w3).alloc (.cells #[.int .u64 5, .int .u64 0, .int .u64 0, .int .u64 0] 25) = W4 at *
  generalize w3.heap.size = Bb at *
  refine (lit_of0 _).mono ?_
  rintro e w5 ⟨rfl, hc⟩
  replace xa := xa.later hc
  replace xb := xb.later hc
  have PC := below_step PB hc
  clear PB hc
  have PB := PC
  clear PC
  have HPB := Lib.hid PB
  clear PB
  go_wp2_with fail
  have PB := HPB.out
  clear HPB
  replace xa := xa.alloc (.cells #[.int .u64 0, .int .u64 0, .int .u64 0, .int .u64 0] 25)
  replace xb := xb.alloc (.cells #[.int .u64 0, .int .u64 0, .int .u64 0, .int .u64 0] 25)
  have xc := Box.new (w5) 0 0 0 0 25
  have PC := below_alloc PB (.cells #[.int .u64 0, .int .u64 0, .int .u64 0, .int .u64 0] 25)
  clear PB
  have PB := PC
  clear PC
  generalize (w5).alloc (.cells #[.int .u64 0, .int .u64 0, .int .u64 0, .int .u64 0] 25) = W6 at *
  generalize w5.heap.size = Bc at *
  refine (lit_of_sign _).mono ?_
  rintro e w7 ⟨rfl, hc⟩
  replace xa := xa.later hc
  replace xb := xb.later hc
  replace xc := xc.later hc
  have PC := below_step PB hc
  clear PB hc
  have PB := PC
  clear PC
  have HPB := Lib.hid PB
  clear PB
  go_wp2_with fail
  have PB := HPB.out
  clear HPB
  replace xa := xa.alloc (.cells #[.int .u64 0, .int .u64 0, .int .u64 0, .int .u64 0] 25)
  replace xb := xb.alloc (.cells #[.int .u64 0, .int .u64 0, .int .u64 0, .int .u64 0] 25)
  replace xc := xc.alloc (.cells #[.int .u64 0, .int .u64 0, .int .u64 0, .int .u64 0] 25)
  have xd := Box.new (w7) 0 0 0 0 25
  have PC := below_alloc PB (.cells #[.int .u64 0, .int .u64 0, .int .u64 0, .int .u64 0] 25)
  clear PB
  have PB := PC
  clear PC
  generalize (w7).alloc (.cells #[.int .u64 0, .int .u64 0, .int .u64 0, .int .u64 0] 25) = W8 at *
  generalize w7.heap.size = Bd at *
  refine (lit_of_far _).mono ?_
  rintro e w9 ⟨rfl, hc⟩
  replace xa := xa.later hc
  replace xb := xb.later hc
  replace xc := xc.later hc
  replace xd := xd.later hc
  have PC := below_step PB hc
  clear PB hc
  have PB := PC
  clear PC
  have HPB := Lib.hid PB
  clear PB
  go_wp2_with fail
  have PB := HPB.out
  clear HPB
  replace xa := xa.alloc (.cells #[.int .u64 0, .int .u64 0, .int .u64 0, .int .u64 0] 25)
  replace xb := xb.alloc (.cells #[.int .u64 0, .int .u64 0, .int .u64 0, .int .u64 0] 25)
  replace xc := xc.alloc (.cells #[.int .u64 0, .int .u64 0, .int .u64 0, .int .u64 0] 25)
  replace xd := xd.alloc (.cells #[.int .u64 0, .int .u64 0, .int .u64 0, .int .u64 0] 25)
  have xf := Box.new (w9) 0 0 0 0 25
  have PC := below_alloc PB (.cells #[.int .u64 0, .int .u64 0, .int .u64 0, .int .u64 0] 25)
  clear PB
  have PB := PC
  clear PC
  generalize (w9).alloc (.cells #[.int .u64 0, .int .u64 0, .int .u64 0, .int .u64 0] 25) = W10 at *
  generalize w9.heap.size = Bf at *
  have ca := xa
  obtain ⟨ca0, ca1, ca2, ca3⟩ := ca
  have la := World.block_lt_of_cell? _ _ ca0
  simp only [] at la
  have cb := xb
  obtain ⟨cb0, cb1, cb2, cb3⟩ := cb
  have lb := World.block_lt_of_cell? _ _ cb0
  simp only [] at lb
  have ua0 : ∀ u : After W10, u.w.cell? ⟨Ba, 0, none⟩ = some (.int .u64 0) := fun u => u.cell ca0
  have ua1 : ∀ u : After W10, u.w.cell? ⟨Ba, 1, none⟩ = some (.int .u64 0) := fun u => u.cell ca1
  have ua2 : ∀ u : After W10, u.w.cell? ⟨Ba, 2, none⟩ = some (.int .u64 0) := fun u => u.cell ca2
  have ua3 : ∀ u : After W10, u.w.cell? ⟨Ba, 3, none⟩ = some (.int .u64 4294901760) := fun u => u.cell ca3
  have ub0 : ∀ u : After W10, u.w.cell? ⟨Bb, 0, none⟩ = some (.int .u64 5) := fun u => u.cell cb0
  have ub1 : ∀ u : After W10, u.w.cell? ⟨Bb, 1, none⟩ = some (.int .u64 0) := fun u => u.cell cb1
  have ub2 : ∀ u : After W10, u.w.cell? ⟨Bb, 2, none⟩ = some (.int .u64 0) := fun u => u.cell cb2
  have ub3 : ∀ u : After W10, u.w.cell? ⟨Bb, 3, none⟩ = some (.int .u64 0) := fun u => u.cell cb3
  have HPB := Lib.hid PB
  clear PB
  refine wp_region_after (by kernel_rfl) (by kernel_rfl) ?_
  repeat (go_big_quiet_step ((first | (go_at_call 30; exact after_call (lit_up _)) | (go_at_call_of 10 (4294901760 : Int); exact after_call (lit_compT _)) | (go_at_call_of 10 (128 : Int); exact after_call (lit_comp80 _)) | (go_at_call 16; exact after_call (lit_work _)))))
  refine wpQuiet_nil ?_
  rintro _ ⟨u, rfl⟩
  clear ca0 ca1 ca2 ca3 cb0 cb1 cb2 cb3 la lb
  clear ua0 ua1 ua2 ua3 ub0 ub1 ub2 ub3
  replace xa := xa.later u.below
  replace xb := xb.later u.below
  replace xc := xc.later u.below
  replace xd := xd.later u.below
  replace xf := xf.later u.below
  have PB := below_step HPB.out u.below
  clear HPB
  generalize u.w = W11 at *
  clear u
  have HPB := Lib.hid PB
  clear PB
  go_wp2_with fail
  have PB := HPB.out
  clear HPB
  go_ret
  exact ⟨rfl, PB⟩

end Go.Proofs.Ytnipajfglmahiaa
