/- Up, Down and Of of the document's answers of layer 2, as layer 3 calls them. -/
import Derived.Test.YtimjmmiajgfblaaGreatDoorGav
import Derived.Test.YtimjmmiajgfblaaGreatDoorGbb

namespace Go.Proofs.YtimjmmiajgfblaaGreatDoor.Bg
set_option maxRecDepth 100000
open Go.RowKit

set_option maxHeartbeats 1000000 in
theorem refup_low (a0 a1 a2 a3 : Nat) (n : Int) (w : World) (h : n ≤ 0) : Calls Tryz.prog 52 #[.agg #[.int .u64 (a0 : Nat), .int .u64 (a1 : Nat), .int .u64 (a2 : Nat), .int .u64 (a3 : Nat)], .int .i64 n] w fun e w' => e = .returned (.agg #[.int .u64 (a0 : Nat), .int .u64 (a1 : Nat), .int .u64 (a2 : Nat), .int .u64 (a3 : Nat)]) ∧ Below w.heap.size w w' := by
  go_enter Tryz.func52, Tryz.ntmps52
  go_wp2_with fail
  go_returns
  refine ⟨rfl, ?_⟩
  go_grown

set_option maxHeartbeats 1000000 in
theorem refdown_low (a0 a1 a2 a3 : Nat) (n : Int) (w : World) (h : n ≤ 0) : Calls Tryz.prog 51 #[.agg #[.int .u64 (a0 : Nat), .int .u64 (a1 : Nat), .int .u64 (a2 : Nat), .int .u64 (a3 : Nat)], .int .i64 n] w fun e w' => e = .returned (.agg #[.int .u64 (a0 : Nat), .int .u64 (a1 : Nat), .int .u64 (a2 : Nat), .int .u64 (a3 : Nat)]) ∧ Below w.heap.size w w' := by
  go_enter Tryz.func51, Tryz.ntmps51
  go_wp2_with fail
  go_returns
  refine ⟨rfl, ?_⟩
  go_grown

set_option maxHeartbeats 1000000 in
theorem refof (n : Nat) (w : World) : Calls Tryz.prog 50 #[.int .u64 (n : Nat)] w fun e w' => e = .returned (.agg #[.int .u64 (n : Nat), .int .u64 0, .int .u64 0, .int .u64 0]) ∧ Below w.heap.size w w' := by
  go_enter Tryz.func50, Tryz.ntmps50
  go_wp2_with fail
  go_returns
  refine ⟨rfl, ?_⟩
  go_grown

def RUpZ (x0 x1 x2 x3 : Nat) (n : Int) (s0 s1 s2 s3 : Nat) : Prop := ∀ w : World, Calls Tryz.prog 52 #[.agg #[.int .u64 (x0 : Nat), .int .u64 (x1 : Nat), .int .u64 (x2 : Nat), .int .u64 (x3 : Nat)], .int .i64 n] w fun e w' => e = .returned (.agg #[.int .u64 (s0 : Nat), .int .u64 (s1 : Nat), .int .u64 (s2 : Nat), .int .u64 (s3 : Nat)]) ∧ Below w.heap.size w w'
def RDownZ (x0 x1 x2 x3 : Nat) (n : Int) (s0 s1 s2 s3 : Nat) : Prop := ∀ w : World, Calls Tryz.prog 51 #[.agg #[.int .u64 (x0 : Nat), .int .u64 (x1 : Nat), .int .u64 (x2 : Nat), .int .u64 (x3 : Nat)], .int .i64 n] w fun e w' => e = .returned (.agg #[.int .u64 (s0 : Nat), .int .u64 (s1 : Nat), .int .u64 (s2 : Nat), .int .u64 (s3 : Nat)]) ∧ Below w.heap.size w w'
def RBitsIs (x0 x1 x2 x3 n : Nat) : Prop := ∀ w : World, Calls Tryz.prog 53 #[.agg #[.int .u64 (x0 : Nat), .int .u64 (x1 : Nat), .int .u64 (x2 : Nat), .int .u64 (x3 : Nat)]] w fun e w' => e = .returned (.int .i64 (n : Nat)) ∧ Below w.heap.size w w'
theorem rupZ {a0 a1 a2 a3 s0 s1 s2 s3 : Nat} (ha : Words a0 a1 a2 a3) (n : Int) (hn : n ≤ 9223372036854775807) (hs : Words s0 s1 s2 s3) (h : val s0 s1 s2 s3 = val a0 a1 a2 a3 * 2 ^ n.toNat % 115792089237316195423570985008687907853269984665640564039457584007913129639936) : RUpZ a0 a1 a2 a3 n s0 s1 s2 s3 := by
  by_cases h0 : n ≤ 0
  · rw [show n.toNat = 0 by omega, Nat.pow_zero, Nat.mul_one, Nat.mod_eq_of_lt (val_lt ha)] at h
    obtain ⟨rfl, rfl, rfl, rfl⟩ := val_inj hs ha h
    exact fun w => refup_low _ _ _ _ n w h0
  · obtain ⟨k, rfl⟩ : ∃ k : Nat, n = (k : Int) := ⟨n.toNat, by omega⟩
    rw [Int.toNat_natCast] at h
    intro w
    refine (refup_any ha k (by omega) (by omega) w).mono fun e w' ⟨o0, o1, o2, o3, he, wo, vo, hb⟩ => ?_
    obtain ⟨rfl, rfl, rfl, rfl⟩ := val_inj wo hs (vo.trans h.symm)
    exact ⟨he, hb⟩
theorem rdownZ {a0 a1 a2 a3 s0 s1 s2 s3 : Nat} (ha : Words a0 a1 a2 a3) (n : Int) (hn : n ≤ 9223372036854775807) (hs : Words s0 s1 s2 s3) (h : val s0 s1 s2 s3 = val a0 a1 a2 a3 / 2 ^ n.toNat) : RDownZ a0 a1 a2 a3 n s0 s1 s2 s3 := by
  by_cases h0 : n ≤ 0
  · rw [show n.toNat = 0 by omega, Nat.pow_zero, Nat.div_one] at h
    obtain ⟨rfl, rfl, rfl, rfl⟩ := val_inj hs ha h
    exact fun w => refdown_low _ _ _ _ n w h0
  · obtain ⟨k, rfl⟩ : ∃ k : Nat, n = (k : Int) := ⟨n.toNat, by omega⟩
    rw [Int.toNat_natCast] at h
    intro w
    refine (refdown_any ha k (by omega) (by omega) w).mono fun e w' ⟨o0, o1, o2, o3, he, wo, vo, hb⟩ => ?_
    have hl : val a0 a1 a2 a3 / 2 ^ k < 115792089237316195423570985008687907853269984665640564039457584007913129639936 := Nat.lt_of_le_of_lt (Nat.div_le_self _ _) (val_lt ha)
    rw [Nat.mod_eq_of_lt hl] at vo
    obtain ⟨rfl, rfl, rfl, rfl⟩ := val_inj wo hs (vo.trans h.symm)
    exact ⟨he, hb⟩
theorem RUpZ.word {n s0 s1 s2 s3 : Nat} {d : Int} (h : RUpZ n 0 0 0 d s0 s1 s2 s3) (w : World) : Calls Tryz.prog 52 #[.agg #[.int .u64 (n : Nat), .int .u64 0, .int .u64 0, .int .u64 0], .int .i64 d] w fun e w' => e = .returned (.agg #[.int .u64 (s0 : Nat), .int .u64 (s1 : Nat), .int .u64 (s2 : Nat), .int .u64 (s3 : Nat)]) ∧ Below w.heap.size w w' := h w
theorem RDownZ.word {n s0 s1 s2 s3 : Nat} {d : Int} (h : RDownZ n 0 0 0 d s0 s1 s2 s3) (w : World) : Calls Tryz.prog 51 #[.agg #[.int .u64 (n : Nat), .int .u64 0, .int .u64 0, .int .u64 0], .int .i64 d] w fun e w' => e = .returned (.agg #[.int .u64 (s0 : Nat), .int .u64 (s1 : Nat), .int .u64 (s2 : Nat), .int .u64 (s3 : Nat)]) ∧ Below w.heap.size w w' := h w
theorem RBitsIs.word {n b : Nat} (h : RBitsIs n 0 0 0 b) (w : World) : Calls Tryz.prog 53 #[.agg #[.int .u64 (n : Nat), .int .u64 0, .int .u64 0, .int .u64 0]] w fun e w' => e = .returned (.int .i64 (b : Nat)) ∧ Below w.heap.size w w' := h w

end Go.Proofs.YtimjmmiajgfblaaGreatDoor.Bg

/- Of of the document's answers of layer 3, walked: what compact bits mean, given what each call returns. -/
namespace Go.Proofs.YtimjmmiajgfblaaGreatDoor.Bg
set_option maxRecDepth 100000
open Go.RowKit

set_option maxRecDepth 100000 in
set_option maxHeartbeats 8000000 in
theorem rof_s_z (n p sz nb s0 s1 s2 s3 : Nat) (u : Int) (w : World) (_hn : n < 4294967296) (_hp : p < 8388608) (_hsz : sz < 256) (_hnb : nb ≤ 256) (_hu0 : 0 ≤ u) (_hu1 : u ≤ 2016) (hs : (n : Int) / 16777216 = (sz : Int)) (hb : bits BinOp.and IntKind.u32 (n : Int) 8388607 = (p : Int))
    (call1 : RDownZ p 0 0 0 u s0 s1 s2 s3) (h3 : decide ((sz : Int) < 3) = true) (hu : 8 * ((3 : Int) - (sz : Int)) = u) (ez : EqZ s0 s1 s2 s3 true) :
    Calls Tryz.prog 23 #[.int .u32 (n : Nat)] w fun e w' => e = .returned (.tuple #[.agg #[.int .u64 0, .int .u64 0, .int .u64 0, .int .u64 0], .bool false]) ∧ Below w.heap.size w w' := by
  have CALL1 := Lib.hid call1
  clear call1
  unfold EqZ at ez
  go_enter Tryz.func23, Tryz.ntmps23
  go_wp2_with fail
  refine (refof p _).mono ?_
  rintro e w1 ⟨rfl, h1⟩
  have PB : Below w.heap.size w w1 := ((Below.refl _ _).alloc (Nat.le_refl _) _).trans (h1.mono (by simp))
  have HR := (Holds.new w #[.int .u64 0, .int .u64 0, .int .u64 0, .int .u64 0] 51).later h1
  have lR := HR.lt
  clear h1
  have HPB := Lib.hid PB
  clear PB
  go_wp2_with fail
  have PB := (HPB.out.alloc (Nat.le_of_lt lR) (.cells #[.int .u64 (p : Nat), .int .u64 0, .int .u64 0, .int .u64 0] 51)).alloc (by simp; omega) (.cells #[.int .u64 0, .int .u64 0, .int .u64 0, .int .u64 0] 51)
  have HR2 := (HR.later ((Below.refl _ _).alloc (Nat.le_refl _) (.cells #[.int .u64 (p : Nat), .int .u64 0, .int .u64 0, .int .u64 0] 51))).later ((Below.refl _ _).alloc (Nat.le_refl _) (.cells #[.int .u64 0, .int .u64 0, .int .u64 0, .int .u64 0] 51))
  have HP := (Holds.new w1 #[.int .u64 (p : Nat), .int .u64 0, .int .u64 0, .int .u64 0] 51).later ((Below.refl _ _).alloc (Nat.le_refl _) (.cells #[.int .u64 0, .int .u64 0, .int .u64 0, .int .u64 0] 51))
  have HT : Holds ((w1.alloc (.cells #[.int .u64 (p : Nat), .int .u64 0, .int .u64 0, .int .u64 0] 51)).alloc (.cells #[.int .u64 0, .int .u64 0, .int .u64 0, .int .u64 0] 51)) (w1.heap.size + 1) #[.int .u64 0, .int .u64 0, .int .u64 0, .int .u64 0] 51 := by have := Holds.new (w1.alloc (.cells #[.int .u64 (p : Nat), .int .u64 0, .int .u64 0, .int .u64 0] 51)) #[.int .u64 0, .int .u64 0, .int .u64 0, .int .u64 0] 51; simpa using this
  have nRT : w1.heap.size + 1 ≠ w.heap.size := by omega
  have nPT : w1.heap.size + 1 ≠ w1.heap.size := by omega
  have lT : w.heap.size ≤ w1.heap.size + 1 := by omega
  clear HR HPB lR
  generalize (w1.alloc (.cells #[.int .u64 (p : Nat), .int .u64 0, .int .u64 0, .int .u64 0] 51)).alloc (.cells #[.int .u64 0, .int .u64 0, .int .u64 0, .int .u64 0] 51) = W2 at *
  generalize w1.heap.size + 1 = Bt at *
  generalize w1.heap.size = Bp at *
  refine (CALL1.out.word _).mono ?_
  rintro e w3 ⟨rfl, hc⟩
  replace HR2 := HR2.later hc
  replace HP := HP.later hc
  replace HT := HT.later hc
  have PC := below_step PB hc
  clear PB hc
  have HPB := Lib.hid PC
  clear PC
  have tc0 : w3.cell? ⟨Bt, 0, none⟩ = some (.int .u64 0) := HT.cell 0
  have tz0 : w3.frozen? ⟨Bt, 0, none⟩ = false := HT.free 0
  have tc1 : w3.cell? ⟨Bt, 1, none⟩ = some (.int .u64 0) := HT.cell 1
  have tz1 : w3.frozen? ⟨Bt, 1, none⟩ = false := HT.free 1
  have tc2 : w3.cell? ⟨Bt, 2, none⟩ = some (.int .u64 0) := HT.cell 2
  have tz2 : w3.frozen? ⟨Bt, 2, none⟩ = false := HT.free 2
  have tc3 : w3.cell? ⟨Bt, 3, none⟩ = some (.int .u64 0) := HT.cell 3
  have tz3 : w3.frozen? ⟨Bt, 3, none⟩ = false := HT.free 3
  have rc0 : w3.cell? ⟨w.heap.size, 0, none⟩ = some (.int .u64 0) := HR2.cell 0
  have rz0 : w3.frozen? ⟨w.heap.size, 0, none⟩ = false := HR2.free 0
  have rc1 : w3.cell? ⟨w.heap.size, 1, none⟩ = some (.int .u64 0) := HR2.cell 1
  have rz1 : w3.frozen? ⟨w.heap.size, 1, none⟩ = false := HR2.free 1
  have rc2 : w3.cell? ⟨w.heap.size, 2, none⟩ = some (.int .u64 0) := HR2.cell 2
  have rz2 : w3.frozen? ⟨w.heap.size, 2, none⟩ = false := HR2.free 2
  have rc3 : w3.cell? ⟨w.heap.size, 3, none⟩ = some (.int .u64 0) := HR2.cell 3
  have rz3 : w3.frozen? ⟨w.heap.size, 3, none⟩ = false := HR2.free 3
  go_wp2_with fail
  have b := (((((((HPB.out.setCell (p := ⟨Bt, 0, none⟩) lT (.int .u64 (s0 : Nat))).setCell (p := ⟨Bt, 1, none⟩) lT (.int .u64 (s1 : Nat))).setCell (p := ⟨Bt, 2, none⟩) lT (.int .u64 (s2 : Nat))).setCell (p := ⟨Bt, 3, none⟩) lT (.int .u64 (s3 : Nat))).setCell (p := ⟨w.heap.size, 0, none⟩) (Nat.le_refl _) (.int .u64 0)).setCell (p := ⟨w.heap.size, 1, none⟩) (Nat.le_refl _) (.int .u64 0)).setCell (p := ⟨w.heap.size, 2, none⟩) (Nat.le_refl _) (.int .u64 0)).setCell (p := ⟨w.heap.size, 3, none⟩) (Nat.le_refl _) (.int .u64 0)
  have HS : Holds ((((((((w3.setCell ⟨Bt, 0, none⟩ (.int .u64 (s0 : Nat))).setCell ⟨Bt, 1, none⟩ (.int .u64 (s1 : Nat))).setCell ⟨Bt, 2, none⟩ (.int .u64 (s2 : Nat))).setCell ⟨Bt, 3, none⟩ (.int .u64 (s3 : Nat))).setCell ⟨w.heap.size, 0, none⟩ (.int .u64 0)).setCell ⟨w.heap.size, 1, none⟩ (.int .u64 0)).setCell ⟨w.heap.size, 2, none⟩ (.int .u64 0)).setCell ⟨w.heap.size, 3, none⟩ (.int .u64 0)) w.heap.size #[.int .u64 0, .int .u64 0, .int .u64 0, .int .u64 0] 51 := ((((((((HR2.other (q := 0) nRT (.int .u64 (s0 : Nat))).other (q := 1) nRT (.int .u64 (s1 : Nat))).other (q := 2) nRT (.int .u64 (s2 : Nat))).other (q := 3) nRT (.int .u64 (s3 : Nat)))).set _).set _).set _).set _
  have jg0 : ((((((((w3.setCell ⟨Bt, 0, none⟩ (.int .u64 (s0 : Nat))).setCell ⟨Bt, 1, none⟩ (.int .u64 (s1 : Nat))).setCell ⟨Bt, 2, none⟩ (.int .u64 (s2 : Nat))).setCell ⟨Bt, 3, none⟩ (.int .u64 (s3 : Nat))).setCell ⟨w.heap.size, 0, none⟩ (.int .u64 0)).setCell ⟨w.heap.size, 1, none⟩ (.int .u64 0)).setCell ⟨w.heap.size, 2, none⟩ (.int .u64 0)).setCell ⟨w.heap.size, 3, none⟩ (.int .u64 0)).cell? ⟨w.heap.size, 0, none⟩ = some (.int .u64 0) := HS.cell 0
  have jg1 : ((((((((w3.setCell ⟨Bt, 0, none⟩ (.int .u64 (s0 : Nat))).setCell ⟨Bt, 1, none⟩ (.int .u64 (s1 : Nat))).setCell ⟨Bt, 2, none⟩ (.int .u64 (s2 : Nat))).setCell ⟨Bt, 3, none⟩ (.int .u64 (s3 : Nat))).setCell ⟨w.heap.size, 0, none⟩ (.int .u64 0)).setCell ⟨w.heap.size, 1, none⟩ (.int .u64 0)).setCell ⟨w.heap.size, 2, none⟩ (.int .u64 0)).setCell ⟨w.heap.size, 3, none⟩ (.int .u64 0)).cell? ⟨w.heap.size, 1, none⟩ = some (.int .u64 0) := HS.cell 1
  have jg2 : ((((((((w3.setCell ⟨Bt, 0, none⟩ (.int .u64 (s0 : Nat))).setCell ⟨Bt, 1, none⟩ (.int .u64 (s1 : Nat))).setCell ⟨Bt, 2, none⟩ (.int .u64 (s2 : Nat))).setCell ⟨Bt, 3, none⟩ (.int .u64 (s3 : Nat))).setCell ⟨w.heap.size, 0, none⟩ (.int .u64 0)).setCell ⟨w.heap.size, 1, none⟩ (.int .u64 0)).setCell ⟨w.heap.size, 2, none⟩ (.int .u64 0)).setCell ⟨w.heap.size, 3, none⟩ (.int .u64 0)).cell? ⟨w.heap.size, 2, none⟩ = some (.int .u64 0) := HS.cell 2
  have jg3 : ((((((((w3.setCell ⟨Bt, 0, none⟩ (.int .u64 (s0 : Nat))).setCell ⟨Bt, 1, none⟩ (.int .u64 (s1 : Nat))).setCell ⟨Bt, 2, none⟩ (.int .u64 (s2 : Nat))).setCell ⟨Bt, 3, none⟩ (.int .u64 (s3 : Nat))).setCell ⟨w.heap.size, 0, none⟩ (.int .u64 0)).setCell ⟨w.heap.size, 1, none⟩ (.int .u64 0)).setCell ⟨w.heap.size, 2, none⟩ (.int .u64 0)).setCell ⟨w.heap.size, 3, none⟩ (.int .u64 0)).cell? ⟨w.heap.size, 3, none⟩ = some (.int .u64 0) := HS.cell 3
  refine bodyPost_ret (v := .tuple #[.agg #[.int .u64 0, .int .u64 0, .int .u64 0, .int .u64 0], .bool false]) (by simp [results, Tryz.results23, go_sem, jg0, jg1, jg2, jg3]) rfl ⟨rfl, b⟩

set_option maxRecDepth 100000 in
set_option maxHeartbeats 8000000 in
theorem rof_s_g (n p sz nb s0 s1 s2 s3 : Nat) (u : Int) (w : World) (_hn : n < 4294967296) (_hp : p < 8388608) (_hsz : sz < 256) (_hnb : nb ≤ 256) (_hu0 : 0 ≤ u) (_hu1 : u ≤ 2016) (hs : (n : Int) / 16777216 = (sz : Int)) (hb : bits BinOp.and IntKind.u32 (n : Int) 8388607 = (p : Int))
    (call1 : RDownZ p 0 0 0 u s0 s1 s2 s3) (h3 : decide ((sz : Int) < 3) = true) (hu : 8 * ((3 : Int) - (sz : Int)) = u) (ez : EqZ s0 s1 s2 s3 false) (hsg : (bits BinOp.and IntKind.u32 (n : Int) 8388608 != 0) = true) :
    Calls Tryz.prog 23 #[.int .u32 (n : Nat)] w fun e w' => e = .returned (.tuple #[.agg #[.int .u64 0, .int .u64 0, .int .u64 0, .int .u64 0], .bool false]) ∧ Below w.heap.size w w' := by
  have CALL1 := Lib.hid call1
  clear call1
  unfold EqZ at ez
  go_enter Tryz.func23, Tryz.ntmps23
  go_wp2_with fail
  refine (refof p _).mono ?_
  rintro e w1 ⟨rfl, h1⟩
  have PB : Below w.heap.size w w1 := ((Below.refl _ _).alloc (Nat.le_refl _) _).trans (h1.mono (by simp))
  have HR := (Holds.new w #[.int .u64 0, .int .u64 0, .int .u64 0, .int .u64 0] 51).later h1
  have lR := HR.lt
  clear h1
  have HPB := Lib.hid PB
  clear PB
  go_wp2_with fail
  have PB := (HPB.out.alloc (Nat.le_of_lt lR) (.cells #[.int .u64 (p : Nat), .int .u64 0, .int .u64 0, .int .u64 0] 51)).alloc (by simp; omega) (.cells #[.int .u64 0, .int .u64 0, .int .u64 0, .int .u64 0] 51)
  have HR2 := (HR.later ((Below.refl _ _).alloc (Nat.le_refl _) (.cells #[.int .u64 (p : Nat), .int .u64 0, .int .u64 0, .int .u64 0] 51))).later ((Below.refl _ _).alloc (Nat.le_refl _) (.cells #[.int .u64 0, .int .u64 0, .int .u64 0, .int .u64 0] 51))
  have HP := (Holds.new w1 #[.int .u64 (p : Nat), .int .u64 0, .int .u64 0, .int .u64 0] 51).later ((Below.refl _ _).alloc (Nat.le_refl _) (.cells #[.int .u64 0, .int .u64 0, .int .u64 0, .int .u64 0] 51))
  have HT : Holds ((w1.alloc (.cells #[.int .u64 (p : Nat), .int .u64 0, .int .u64 0, .int .u64 0] 51)).alloc (.cells #[.int .u64 0, .int .u64 0, .int .u64 0, .int .u64 0] 51)) (w1.heap.size + 1) #[.int .u64 0, .int .u64 0, .int .u64 0, .int .u64 0] 51 := by have := Holds.new (w1.alloc (.cells #[.int .u64 (p : Nat), .int .u64 0, .int .u64 0, .int .u64 0] 51)) #[.int .u64 0, .int .u64 0, .int .u64 0, .int .u64 0] 51; simpa using this
  have nRT : w1.heap.size + 1 ≠ w.heap.size := by omega
  have nPT : w1.heap.size + 1 ≠ w1.heap.size := by omega
  have lT : w.heap.size ≤ w1.heap.size + 1 := by omega
  clear HR HPB lR
  generalize (w1.alloc (.cells #[.int .u64 (p : Nat), .int .u64 0, .int .u64 0, .int .u64 0] 51)).alloc (.cells #[.int .u64 0, .int .u64 0, .int .u64 0, .int .u64 0] 51) = W2 at *
  generalize w1.heap.size + 1 = Bt at *
  generalize w1.heap.size = Bp at *
  refine (CALL1.out.word _).mono ?_
  rintro e w3 ⟨rfl, hc⟩
  replace HR2 := HR2.later hc
  replace HP := HP.later hc
  replace HT := HT.later hc
  have PC := below_step PB hc
  clear PB hc
  have HPB := Lib.hid PC
  clear PC
  have tc0 : w3.cell? ⟨Bt, 0, none⟩ = some (.int .u64 0) := HT.cell 0
  have tz0 : w3.frozen? ⟨Bt, 0, none⟩ = false := HT.free 0
  have tc1 : w3.cell? ⟨Bt, 1, none⟩ = some (.int .u64 0) := HT.cell 1
  have tz1 : w3.frozen? ⟨Bt, 1, none⟩ = false := HT.free 1
  have tc2 : w3.cell? ⟨Bt, 2, none⟩ = some (.int .u64 0) := HT.cell 2
  have tz2 : w3.frozen? ⟨Bt, 2, none⟩ = false := HT.free 2
  have tc3 : w3.cell? ⟨Bt, 3, none⟩ = some (.int .u64 0) := HT.cell 3
  have tz3 : w3.frozen? ⟨Bt, 3, none⟩ = false := HT.free 3
  have rc0 : w3.cell? ⟨w.heap.size, 0, none⟩ = some (.int .u64 0) := HR2.cell 0
  have rz0 : w3.frozen? ⟨w.heap.size, 0, none⟩ = false := HR2.free 0
  have rc1 : w3.cell? ⟨w.heap.size, 1, none⟩ = some (.int .u64 0) := HR2.cell 1
  have rz1 : w3.frozen? ⟨w.heap.size, 1, none⟩ = false := HR2.free 1
  have rc2 : w3.cell? ⟨w.heap.size, 2, none⟩ = some (.int .u64 0) := HR2.cell 2
  have rz2 : w3.frozen? ⟨w.heap.size, 2, none⟩ = false := HR2.free 2
  have rc3 : w3.cell? ⟨w.heap.size, 3, none⟩ = some (.int .u64 0) := HR2.cell 3
  have rz3 : w3.frozen? ⟨w.heap.size, 3, none⟩ = false := HR2.free 3
  go_wp2_with fail
  have b := (((((((HPB.out.setCell (p := ⟨Bt, 0, none⟩) lT (.int .u64 (s0 : Nat))).setCell (p := ⟨Bt, 1, none⟩) lT (.int .u64 (s1 : Nat))).setCell (p := ⟨Bt, 2, none⟩) lT (.int .u64 (s2 : Nat))).setCell (p := ⟨Bt, 3, none⟩) lT (.int .u64 (s3 : Nat))).setCell (p := ⟨w.heap.size, 0, none⟩) (Nat.le_refl _) (.int .u64 0)).setCell (p := ⟨w.heap.size, 1, none⟩) (Nat.le_refl _) (.int .u64 0)).setCell (p := ⟨w.heap.size, 2, none⟩) (Nat.le_refl _) (.int .u64 0)).setCell (p := ⟨w.heap.size, 3, none⟩) (Nat.le_refl _) (.int .u64 0)
  have HS : Holds ((((((((w3.setCell ⟨Bt, 0, none⟩ (.int .u64 (s0 : Nat))).setCell ⟨Bt, 1, none⟩ (.int .u64 (s1 : Nat))).setCell ⟨Bt, 2, none⟩ (.int .u64 (s2 : Nat))).setCell ⟨Bt, 3, none⟩ (.int .u64 (s3 : Nat))).setCell ⟨w.heap.size, 0, none⟩ (.int .u64 0)).setCell ⟨w.heap.size, 1, none⟩ (.int .u64 0)).setCell ⟨w.heap.size, 2, none⟩ (.int .u64 0)).setCell ⟨w.heap.size, 3, none⟩ (.int .u64 0)) w.heap.size #[.int .u64 0, .int .u64 0, .int .u64 0, .int .u64 0] 51 := ((((((((HR2.other (q := 0) nRT (.int .u64 (s0 : Nat))).other (q := 1) nRT (.int .u64 (s1 : Nat))).other (q := 2) nRT (.int .u64 (s2 : Nat))).other (q := 3) nRT (.int .u64 (s3 : Nat)))).set _).set _).set _).set _
  have jg0 : ((((((((w3.setCell ⟨Bt, 0, none⟩ (.int .u64 (s0 : Nat))).setCell ⟨Bt, 1, none⟩ (.int .u64 (s1 : Nat))).setCell ⟨Bt, 2, none⟩ (.int .u64 (s2 : Nat))).setCell ⟨Bt, 3, none⟩ (.int .u64 (s3 : Nat))).setCell ⟨w.heap.size, 0, none⟩ (.int .u64 0)).setCell ⟨w.heap.size, 1, none⟩ (.int .u64 0)).setCell ⟨w.heap.size, 2, none⟩ (.int .u64 0)).setCell ⟨w.heap.size, 3, none⟩ (.int .u64 0)).cell? ⟨w.heap.size, 0, none⟩ = some (.int .u64 0) := HS.cell 0
  have jg1 : ((((((((w3.setCell ⟨Bt, 0, none⟩ (.int .u64 (s0 : Nat))).setCell ⟨Bt, 1, none⟩ (.int .u64 (s1 : Nat))).setCell ⟨Bt, 2, none⟩ (.int .u64 (s2 : Nat))).setCell ⟨Bt, 3, none⟩ (.int .u64 (s3 : Nat))).setCell ⟨w.heap.size, 0, none⟩ (.int .u64 0)).setCell ⟨w.heap.size, 1, none⟩ (.int .u64 0)).setCell ⟨w.heap.size, 2, none⟩ (.int .u64 0)).setCell ⟨w.heap.size, 3, none⟩ (.int .u64 0)).cell? ⟨w.heap.size, 1, none⟩ = some (.int .u64 0) := HS.cell 1
  have jg2 : ((((((((w3.setCell ⟨Bt, 0, none⟩ (.int .u64 (s0 : Nat))).setCell ⟨Bt, 1, none⟩ (.int .u64 (s1 : Nat))).setCell ⟨Bt, 2, none⟩ (.int .u64 (s2 : Nat))).setCell ⟨Bt, 3, none⟩ (.int .u64 (s3 : Nat))).setCell ⟨w.heap.size, 0, none⟩ (.int .u64 0)).setCell ⟨w.heap.size, 1, none⟩ (.int .u64 0)).setCell ⟨w.heap.size, 2, none⟩ (.int .u64 0)).setCell ⟨w.heap.size, 3, none⟩ (.int .u64 0)).cell? ⟨w.heap.size, 2, none⟩ = some (.int .u64 0) := HS.cell 2
  have jg3 : ((((((((w3.setCell ⟨Bt, 0, none⟩ (.int .u64 (s0 : Nat))).setCell ⟨Bt, 1, none⟩ (.int .u64 (s1 : Nat))).setCell ⟨Bt, 2, none⟩ (.int .u64 (s2 : Nat))).setCell ⟨Bt, 3, none⟩ (.int .u64 (s3 : Nat))).setCell ⟨w.heap.size, 0, none⟩ (.int .u64 0)).setCell ⟨w.heap.size, 1, none⟩ (.int .u64 0)).setCell ⟨w.heap.size, 2, none⟩ (.int .u64 0)).setCell ⟨w.heap.size, 3, none⟩ (.int .u64 0)).cell? ⟨w.heap.size, 3, none⟩ = some (.int .u64 0) := HS.cell 3
  refine bodyPost_ret (v := .tuple #[.agg #[.int .u64 0, .int .u64 0, .int .u64 0, .int .u64 0], .bool false]) (by simp [results, Tryz.results23, go_sem, jg0, jg1, jg2, jg3]) rfl ⟨rfl, b⟩

set_option maxRecDepth 100000 in
set_option maxHeartbeats 8000000 in
theorem rof_s_ok (n p sz nb s0 s1 s2 s3 : Nat) (u : Int) (w : World) (_hn : n < 4294967296) (_hp : p < 8388608) (_hsz : sz < 256) (_hnb : nb ≤ 256) (_hu0 : 0 ≤ u) (_hu1 : u ≤ 2016) (hs : (n : Int) / 16777216 = (sz : Int)) (hb : bits BinOp.and IntKind.u32 (n : Int) 8388607 = (p : Int))
    (call1 : RDownZ p 0 0 0 u s0 s1 s2 s3) (h3 : decide ((sz : Int) < 3) = true) (hu : 8 * ((3 : Int) - (sz : Int)) = u) (ez : EqZ s0 s1 s2 s3 false) (hsg : (bits BinOp.and IntKind.u32 (n : Int) 8388608 != 0) = false) :
    Calls Tryz.prog 23 #[.int .u32 (n : Nat)] w fun e w' => e = .returned (.tuple #[.agg #[.int .u64 (s0 : Nat), .int .u64 (s1 : Nat), .int .u64 (s2 : Nat), .int .u64 (s3 : Nat)], .bool true]) ∧ Below w.heap.size w w' := by
  have CALL1 := Lib.hid call1
  clear call1
  unfold EqZ at ez
  go_enter Tryz.func23, Tryz.ntmps23
  go_wp2_with fail
  refine (refof p _).mono ?_
  rintro e w1 ⟨rfl, h1⟩
  have PB : Below w.heap.size w w1 := ((Below.refl _ _).alloc (Nat.le_refl _) _).trans (h1.mono (by simp))
  have HR := (Holds.new w #[.int .u64 0, .int .u64 0, .int .u64 0, .int .u64 0] 51).later h1
  have lR := HR.lt
  clear h1
  have HPB := Lib.hid PB
  clear PB
  go_wp2_with fail
  have PB := (HPB.out.alloc (Nat.le_of_lt lR) (.cells #[.int .u64 (p : Nat), .int .u64 0, .int .u64 0, .int .u64 0] 51)).alloc (by simp; omega) (.cells #[.int .u64 0, .int .u64 0, .int .u64 0, .int .u64 0] 51)
  have HR2 := (HR.later ((Below.refl _ _).alloc (Nat.le_refl _) (.cells #[.int .u64 (p : Nat), .int .u64 0, .int .u64 0, .int .u64 0] 51))).later ((Below.refl _ _).alloc (Nat.le_refl _) (.cells #[.int .u64 0, .int .u64 0, .int .u64 0, .int .u64 0] 51))
  have HP := (Holds.new w1 #[.int .u64 (p : Nat), .int .u64 0, .int .u64 0, .int .u64 0] 51).later ((Below.refl _ _).alloc (Nat.le_refl _) (.cells #[.int .u64 0, .int .u64 0, .int .u64 0, .int .u64 0] 51))
  have HT : Holds ((w1.alloc (.cells #[.int .u64 (p : Nat), .int .u64 0, .int .u64 0, .int .u64 0] 51)).alloc (.cells #[.int .u64 0, .int .u64 0, .int .u64 0, .int .u64 0] 51)) (w1.heap.size + 1) #[.int .u64 0, .int .u64 0, .int .u64 0, .int .u64 0] 51 := by have := Holds.new (w1.alloc (.cells #[.int .u64 (p : Nat), .int .u64 0, .int .u64 0, .int .u64 0] 51)) #[.int .u64 0, .int .u64 0, .int .u64 0, .int .u64 0] 51; simpa using this
  have nRT : w1.heap.size + 1 ≠ w.heap.size := by omega
  have nPT : w1.heap.size + 1 ≠ w1.heap.size := by omega
  have lT : w.heap.size ≤ w1.heap.size + 1 := by omega
  clear HR HPB lR
  generalize (w1.alloc (.cells #[.int .u64 (p : Nat), .int .u64 0, .int .u64 0, .int .u64 0] 51)).alloc (.cells #[.int .u64 0, .int .u64 0, .int .u64 0, .int .u64 0] 51) = W2 at *
  generalize w1.heap.size + 1 = Bt at *
  generalize w1.heap.size = Bp at *
  refine (CALL1.out.word _).mono ?_
  rintro e w3 ⟨rfl, hc⟩
  replace HR2 := HR2.later hc
  replace HP := HP.later hc
  replace HT := HT.later hc
  have PC := below_step PB hc
  clear PB hc
  have HPB := Lib.hid PC
  clear PC
  have tc0 : w3.cell? ⟨Bt, 0, none⟩ = some (.int .u64 0) := HT.cell 0
  have tz0 : w3.frozen? ⟨Bt, 0, none⟩ = false := HT.free 0
  have tc1 : w3.cell? ⟨Bt, 1, none⟩ = some (.int .u64 0) := HT.cell 1
  have tz1 : w3.frozen? ⟨Bt, 1, none⟩ = false := HT.free 1
  have tc2 : w3.cell? ⟨Bt, 2, none⟩ = some (.int .u64 0) := HT.cell 2
  have tz2 : w3.frozen? ⟨Bt, 2, none⟩ = false := HT.free 2
  have tc3 : w3.cell? ⟨Bt, 3, none⟩ = some (.int .u64 0) := HT.cell 3
  have tz3 : w3.frozen? ⟨Bt, 3, none⟩ = false := HT.free 3
  have rc0 : w3.cell? ⟨w.heap.size, 0, none⟩ = some (.int .u64 0) := HR2.cell 0
  have rz0 : w3.frozen? ⟨w.heap.size, 0, none⟩ = false := HR2.free 0
  have rc1 : w3.cell? ⟨w.heap.size, 1, none⟩ = some (.int .u64 0) := HR2.cell 1
  have rz1 : w3.frozen? ⟨w.heap.size, 1, none⟩ = false := HR2.free 1
  have rc2 : w3.cell? ⟨w.heap.size, 2, none⟩ = some (.int .u64 0) := HR2.cell 2
  have rz2 : w3.frozen? ⟨w.heap.size, 2, none⟩ = false := HR2.free 2
  have rc3 : w3.cell? ⟨w.heap.size, 3, none⟩ = some (.int .u64 0) := HR2.cell 3
  have rz3 : w3.frozen? ⟨w.heap.size, 3, none⟩ = false := HR2.free 3
  go_wp2_with fail
  have b := (((((((HPB.out.setCell (p := ⟨Bt, 0, none⟩) lT (.int .u64 (s0 : Nat))).setCell (p := ⟨Bt, 1, none⟩) lT (.int .u64 (s1 : Nat))).setCell (p := ⟨Bt, 2, none⟩) lT (.int .u64 (s2 : Nat))).setCell (p := ⟨Bt, 3, none⟩) lT (.int .u64 (s3 : Nat))).setCell (p := ⟨w.heap.size, 0, none⟩) (Nat.le_refl _) (.int .u64 (s0 : Nat))).setCell (p := ⟨w.heap.size, 1, none⟩) (Nat.le_refl _) (.int .u64 (s1 : Nat))).setCell (p := ⟨w.heap.size, 2, none⟩) (Nat.le_refl _) (.int .u64 (s2 : Nat))).setCell (p := ⟨w.heap.size, 3, none⟩) (Nat.le_refl _) (.int .u64 (s3 : Nat))
  have HS : Holds ((((((((w3.setCell ⟨Bt, 0, none⟩ (.int .u64 (s0 : Nat))).setCell ⟨Bt, 1, none⟩ (.int .u64 (s1 : Nat))).setCell ⟨Bt, 2, none⟩ (.int .u64 (s2 : Nat))).setCell ⟨Bt, 3, none⟩ (.int .u64 (s3 : Nat))).setCell ⟨w.heap.size, 0, none⟩ (.int .u64 (s0 : Nat))).setCell ⟨w.heap.size, 1, none⟩ (.int .u64 (s1 : Nat))).setCell ⟨w.heap.size, 2, none⟩ (.int .u64 (s2 : Nat))).setCell ⟨w.heap.size, 3, none⟩ (.int .u64 (s3 : Nat))) w.heap.size #[.int .u64 (s0 : Nat), .int .u64 (s1 : Nat), .int .u64 (s2 : Nat), .int .u64 (s3 : Nat)] 51 := ((((((((HR2.other (q := 0) nRT (.int .u64 (s0 : Nat))).other (q := 1) nRT (.int .u64 (s1 : Nat))).other (q := 2) nRT (.int .u64 (s2 : Nat))).other (q := 3) nRT (.int .u64 (s3 : Nat)))).set _).set _).set _).set _
  have jg0 : ((((((((w3.setCell ⟨Bt, 0, none⟩ (.int .u64 (s0 : Nat))).setCell ⟨Bt, 1, none⟩ (.int .u64 (s1 : Nat))).setCell ⟨Bt, 2, none⟩ (.int .u64 (s2 : Nat))).setCell ⟨Bt, 3, none⟩ (.int .u64 (s3 : Nat))).setCell ⟨w.heap.size, 0, none⟩ (.int .u64 (s0 : Nat))).setCell ⟨w.heap.size, 1, none⟩ (.int .u64 (s1 : Nat))).setCell ⟨w.heap.size, 2, none⟩ (.int .u64 (s2 : Nat))).setCell ⟨w.heap.size, 3, none⟩ (.int .u64 (s3 : Nat))).cell? ⟨w.heap.size, 0, none⟩ = some (.int .u64 (s0 : Nat)) := HS.cell 0
  have jg1 : ((((((((w3.setCell ⟨Bt, 0, none⟩ (.int .u64 (s0 : Nat))).setCell ⟨Bt, 1, none⟩ (.int .u64 (s1 : Nat))).setCell ⟨Bt, 2, none⟩ (.int .u64 (s2 : Nat))).setCell ⟨Bt, 3, none⟩ (.int .u64 (s3 : Nat))).setCell ⟨w.heap.size, 0, none⟩ (.int .u64 (s0 : Nat))).setCell ⟨w.heap.size, 1, none⟩ (.int .u64 (s1 : Nat))).setCell ⟨w.heap.size, 2, none⟩ (.int .u64 (s2 : Nat))).setCell ⟨w.heap.size, 3, none⟩ (.int .u64 (s3 : Nat))).cell? ⟨w.heap.size, 1, none⟩ = some (.int .u64 (s1 : Nat)) := HS.cell 1
  have jg2 : ((((((((w3.setCell ⟨Bt, 0, none⟩ (.int .u64 (s0 : Nat))).setCell ⟨Bt, 1, none⟩ (.int .u64 (s1 : Nat))).setCell ⟨Bt, 2, none⟩ (.int .u64 (s2 : Nat))).setCell ⟨Bt, 3, none⟩ (.int .u64 (s3 : Nat))).setCell ⟨w.heap.size, 0, none⟩ (.int .u64 (s0 : Nat))).setCell ⟨w.heap.size, 1, none⟩ (.int .u64 (s1 : Nat))).setCell ⟨w.heap.size, 2, none⟩ (.int .u64 (s2 : Nat))).setCell ⟨w.heap.size, 3, none⟩ (.int .u64 (s3 : Nat))).cell? ⟨w.heap.size, 2, none⟩ = some (.int .u64 (s2 : Nat)) := HS.cell 2
  have jg3 : ((((((((w3.setCell ⟨Bt, 0, none⟩ (.int .u64 (s0 : Nat))).setCell ⟨Bt, 1, none⟩ (.int .u64 (s1 : Nat))).setCell ⟨Bt, 2, none⟩ (.int .u64 (s2 : Nat))).setCell ⟨Bt, 3, none⟩ (.int .u64 (s3 : Nat))).setCell ⟨w.heap.size, 0, none⟩ (.int .u64 (s0 : Nat))).setCell ⟨w.heap.size, 1, none⟩ (.int .u64 (s1 : Nat))).setCell ⟨w.heap.size, 2, none⟩ (.int .u64 (s2 : Nat))).setCell ⟨w.heap.size, 3, none⟩ (.int .u64 (s3 : Nat))).cell? ⟨w.heap.size, 3, none⟩ = some (.int .u64 (s3 : Nat)) := HS.cell 3
  refine bodyPost_ret (v := .tuple #[.agg #[.int .u64 (s0 : Nat), .int .u64 (s1 : Nat), .int .u64 (s2 : Nat), .int .u64 (s3 : Nat)], .bool true]) (by simp [results, Tryz.results23, go_sem, jg0, jg1, jg2, jg3]) rfl ⟨rfl, b⟩

set_option maxRecDepth 100000 in
set_option maxHeartbeats 8000000 in
theorem rof_b_far (n p sz nb s0 s1 s2 s3 : Nat) (u : Int) (w : World) (_hn : n < 4294967296) (_hp : p < 8388608) (_hsz : sz < 256) (_hnb : nb ≤ 256) (_hu0 : 0 ≤ u) (_hu1 : u ≤ 2016) (hs : (n : Int) / 16777216 = (sz : Int)) (hb : bits BinOp.and IntKind.u32 (n : Int) 8388607 = (p : Int))
    (call1 : RUpZ p 0 0 0 u s0 s1 s2 s3) (h3 : decide ((sz : Int) < 3) = false) (hu : 8 * ((sz : Int) - 3) = u) (bt : RBitsIs p 0 0 0 nb) (hfar : decide ((256 : Int) < (nb : Int) + u) = true) (epz : EqZ p 0 0 0 false) :
    Calls Tryz.prog 23 #[.int .u32 (n : Nat)] w fun e w' => e = .returned (.tuple #[.agg #[.int .u64 0, .int .u64 0, .int .u64 0, .int .u64 0], .bool false]) ∧ Below w.heap.size w w' := by
  have CALL1 := Lib.hid call1
  have BT := Lib.hid bt
  have HFAR := Lib.hid hfar
  clear call1 bt hfar
  have epz' : ∀ w : World, (Op.equalIn 10000 51 (.agg #[.int .u64 (p : Nat), .int .u64 0, .int .u64 0, .int .u64 0]) (.agg #[.int .u64 0, .int .u64 0, .int .u64 0, .int .u64 0])).run Tryz.prog w = .ok false w := epz
  clear epz
  go_enter Tryz.func23, Tryz.ntmps23
  go_wp2_with fail
  refine (refof p _).mono ?_
  rintro e w1 ⟨rfl, h1⟩
  have PB : Below w.heap.size w w1 := ((Below.refl _ _).alloc (Nat.le_refl _) _).trans (h1.mono (by simp))
  have HR := (Holds.new w #[.int .u64 0, .int .u64 0, .int .u64 0, .int .u64 0] 51).later h1
  have lR := HR.lt
  clear h1
  have HPB := Lib.hid PB
  clear PB
  go_wp2_with fail
  have PB := (HPB.out.alloc (Nat.le_of_lt lR) (.cells #[.int .u64 (p : Nat), .int .u64 0, .int .u64 0, .int .u64 0] 51)).alloc (by simp; omega) (.cells #[.int .u64 0, .int .u64 0, .int .u64 0, .int .u64 0] 51)
  have HR2 := (HR.later ((Below.refl _ _).alloc (Nat.le_refl _) (.cells #[.int .u64 (p : Nat), .int .u64 0, .int .u64 0, .int .u64 0] 51))).later ((Below.refl _ _).alloc (Nat.le_refl _) (.cells #[.int .u64 0, .int .u64 0, .int .u64 0, .int .u64 0] 51))
  have HP := (Holds.new w1 #[.int .u64 (p : Nat), .int .u64 0, .int .u64 0, .int .u64 0] 51).later ((Below.refl _ _).alloc (Nat.le_refl _) (.cells #[.int .u64 0, .int .u64 0, .int .u64 0, .int .u64 0] 51))
  have HT : Holds ((w1.alloc (.cells #[.int .u64 (p : Nat), .int .u64 0, .int .u64 0, .int .u64 0] 51)).alloc (.cells #[.int .u64 0, .int .u64 0, .int .u64 0, .int .u64 0] 51)) (w1.heap.size + 1) #[.int .u64 0, .int .u64 0, .int .u64 0, .int .u64 0] 51 := by have := Holds.new (w1.alloc (.cells #[.int .u64 (p : Nat), .int .u64 0, .int .u64 0, .int .u64 0] 51)) #[.int .u64 0, .int .u64 0, .int .u64 0, .int .u64 0] 51; simpa using this
  have nRT : w1.heap.size + 1 ≠ w.heap.size := by omega
  have nPT : w1.heap.size + 1 ≠ w1.heap.size := by omega
  have lT : w.heap.size ≤ w1.heap.size + 1 := by omega
  clear HR HPB lR
  generalize (w1.alloc (.cells #[.int .u64 (p : Nat), .int .u64 0, .int .u64 0, .int .u64 0] 51)).alloc (.cells #[.int .u64 0, .int .u64 0, .int .u64 0, .int .u64 0] 51) = W2 at *
  generalize w1.heap.size + 1 = Bt at *
  generalize w1.heap.size = Bp at *
  refine (CALL1.out.word _).mono ?_
  rintro e w3 ⟨rfl, hc⟩
  replace HR2 := HR2.later hc
  replace HP := HP.later hc
  replace HT := HT.later hc
  have PC := below_step PB hc
  clear PB hc
  have HPB := Lib.hid PC
  clear PC
  have tc0 : w3.cell? ⟨Bt, 0, none⟩ = some (.int .u64 0) := HT.cell 0
  have tz0 : w3.frozen? ⟨Bt, 0, none⟩ = false := HT.free 0
  have tc1 : w3.cell? ⟨Bt, 1, none⟩ = some (.int .u64 0) := HT.cell 1
  have tz1 : w3.frozen? ⟨Bt, 1, none⟩ = false := HT.free 1
  have tc2 : w3.cell? ⟨Bt, 2, none⟩ = some (.int .u64 0) := HT.cell 2
  have tz2 : w3.frozen? ⟨Bt, 2, none⟩ = false := HT.free 2
  have tc3 : w3.cell? ⟨Bt, 3, none⟩ = some (.int .u64 0) := HT.cell 3
  have tz3 : w3.frozen? ⟨Bt, 3, none⟩ = false := HT.free 3
  have pc0 : w3.cell? ⟨Bp, 0, none⟩ = some (.int .u64 (p : Nat)) := HP.cell 0
  have pz0 : w3.frozen? ⟨Bp, 0, none⟩ = false := HP.free 0
  have pc1 : w3.cell? ⟨Bp, 1, none⟩ = some (.int .u64 0) := HP.cell 1
  have pz1 : w3.frozen? ⟨Bp, 1, none⟩ = false := HP.free 1
  have pc2 : w3.cell? ⟨Bp, 2, none⟩ = some (.int .u64 0) := HP.cell 2
  have pz2 : w3.frozen? ⟨Bp, 2, none⟩ = false := HP.free 2
  have pc3 : w3.cell? ⟨Bp, 3, none⟩ = some (.int .u64 0) := HP.cell 3
  have pz3 : w3.frozen? ⟨Bp, 3, none⟩ = false := HP.free 3
  go_wp2_with fail
  have PB := (((HPB.out.setCell (p := ⟨Bt, 0, none⟩) lT (.int .u64 (s0 : Nat))).setCell (p := ⟨Bt, 1, none⟩) lT (.int .u64 (s1 : Nat))).setCell (p := ⟨Bt, 2, none⟩) lT (.int .u64 (s2 : Nat))).setCell (p := ⟨Bt, 3, none⟩) lT (.int .u64 (s3 : Nat))
  have HT2 : Holds ((((w3.setCell ⟨Bt, 0, none⟩ (.int .u64 (s0 : Nat))).setCell ⟨Bt, 1, none⟩ (.int .u64 (s1 : Nat))).setCell ⟨Bt, 2, none⟩ (.int .u64 (s2 : Nat))).setCell ⟨Bt, 3, none⟩ (.int .u64 (s3 : Nat))) Bt #[.int .u64 (s0 : Nat), .int .u64 (s1 : Nat), .int .u64 (s2 : Nat), .int .u64 (s3 : Nat)] 51 := (((HT.set _).set _).set _).set _
  have HP2 := ((((HP.other (q := 0) nPT (.int .u64 (s0 : Nat))).other (q := 1) nPT (.int .u64 (s1 : Nat))).other (q := 2) nPT (.int .u64 (s2 : Nat))).other (q := 3) nPT (.int .u64 (s3 : Nat)))
  have HR3 := ((((HR2.other (q := 0) nRT (.int .u64 (s0 : Nat))).other (q := 1) nRT (.int .u64 (s1 : Nat))).other (q := 2) nRT (.int .u64 (s2 : Nat))).other (q := 3) nRT (.int .u64 (s3 : Nat)))
  clear tc0 tz0 tc1 tz1 tc2 tz2 tc3 tz3 pc0 pz0 pc1 pz1 pc2 pz2 pc3 pz3 HT HP HR2 HPB
  generalize (((w3.setCell ⟨Bt, 0, none⟩ (.int .u64 (s0 : Nat))).setCell ⟨Bt, 1, none⟩ (.int .u64 (s1 : Nat))).setCell ⟨Bt, 2, none⟩ (.int .u64 (s2 : Nat))).setCell ⟨Bt, 3, none⟩ (.int .u64 (s3 : Nat)) = W4 at *
  refine (BT.out.word _).mono ?_
  rintro e w5 ⟨rfl, hc⟩
  replace HR3 := HR3.later hc
  replace HP2 := HP2.later hc
  replace HT2 := HT2.later hc
  have PC := below_step PB hc
  clear PB hc
  have HPB := Lib.hid PC
  clear PC
  have hfar := HFAR.out
  have tc0 : w5.cell? ⟨Bt, 0, none⟩ = some (.int .u64 (s0 : Nat)) := HT2.cell 0
  have tz0 : w5.frozen? ⟨Bt, 0, none⟩ = false := HT2.free 0
  have tc1 : w5.cell? ⟨Bt, 1, none⟩ = some (.int .u64 (s1 : Nat)) := HT2.cell 1
  have tz1 : w5.frozen? ⟨Bt, 1, none⟩ = false := HT2.free 1
  have tc2 : w5.cell? ⟨Bt, 2, none⟩ = some (.int .u64 (s2 : Nat)) := HT2.cell 2
  have tz2 : w5.frozen? ⟨Bt, 2, none⟩ = false := HT2.free 2
  have tc3 : w5.cell? ⟨Bt, 3, none⟩ = some (.int .u64 (s3 : Nat)) := HT2.cell 3
  have tz3 : w5.frozen? ⟨Bt, 3, none⟩ = false := HT2.free 3
  have pc0 : w5.cell? ⟨Bp, 0, none⟩ = some (.int .u64 (p : Nat)) := HP2.cell 0
  have pz0 : w5.frozen? ⟨Bp, 0, none⟩ = false := HP2.free 0
  have pc1 : w5.cell? ⟨Bp, 1, none⟩ = some (.int .u64 0) := HP2.cell 1
  have pz1 : w5.frozen? ⟨Bp, 1, none⟩ = false := HP2.free 1
  have pc2 : w5.cell? ⟨Bp, 2, none⟩ = some (.int .u64 0) := HP2.cell 2
  have pz2 : w5.frozen? ⟨Bp, 2, none⟩ = false := HP2.free 2
  have pc3 : w5.cell? ⟨Bp, 3, none⟩ = some (.int .u64 0) := HP2.cell 3
  have pz3 : w5.frozen? ⟨Bp, 3, none⟩ = false := HP2.free 3
  have rc0 : w5.cell? ⟨w.heap.size, 0, none⟩ = some (.int .u64 0) := HR3.cell 0
  have rz0 : w5.frozen? ⟨w.heap.size, 0, none⟩ = false := HR3.free 0
  have rc1 : w5.cell? ⟨w.heap.size, 1, none⟩ = some (.int .u64 0) := HR3.cell 1
  have rz1 : w5.frozen? ⟨w.heap.size, 1, none⟩ = false := HR3.free 1
  have rc2 : w5.cell? ⟨w.heap.size, 2, none⟩ = some (.int .u64 0) := HR3.cell 2
  have rz2 : w5.frozen? ⟨w.heap.size, 2, none⟩ = false := HR3.free 2
  have rc3 : w5.cell? ⟨w.heap.size, 3, none⟩ = some (.int .u64 0) := HR3.cell 3
  have rz3 : w5.frozen? ⟨w.heap.size, 3, none⟩ = false := HR3.free 3
  go_wp2_with fail
  have b := ((((HPB.out).setCell (p := ⟨w.heap.size, 0, none⟩) (Nat.le_refl _) (.int .u64 0)).setCell (p := ⟨w.heap.size, 1, none⟩) (Nat.le_refl _) (.int .u64 0)).setCell (p := ⟨w.heap.size, 2, none⟩) (Nat.le_refl _) (.int .u64 0)).setCell (p := ⟨w.heap.size, 3, none⟩) (Nat.le_refl _) (.int .u64 0)
  have HS : Holds ((((w5.setCell ⟨w.heap.size, 0, none⟩ (.int .u64 0)).setCell ⟨w.heap.size, 1, none⟩ (.int .u64 0)).setCell ⟨w.heap.size, 2, none⟩ (.int .u64 0)).setCell ⟨w.heap.size, 3, none⟩ (.int .u64 0)) w.heap.size #[.int .u64 0, .int .u64 0, .int .u64 0, .int .u64 0] 51 := ((((HR3).set _).set _).set _).set _
  have jg0 : ((((w5.setCell ⟨w.heap.size, 0, none⟩ (.int .u64 0)).setCell ⟨w.heap.size, 1, none⟩ (.int .u64 0)).setCell ⟨w.heap.size, 2, none⟩ (.int .u64 0)).setCell ⟨w.heap.size, 3, none⟩ (.int .u64 0)).cell? ⟨w.heap.size, 0, none⟩ = some (.int .u64 0) := HS.cell 0
  have jg1 : ((((w5.setCell ⟨w.heap.size, 0, none⟩ (.int .u64 0)).setCell ⟨w.heap.size, 1, none⟩ (.int .u64 0)).setCell ⟨w.heap.size, 2, none⟩ (.int .u64 0)).setCell ⟨w.heap.size, 3, none⟩ (.int .u64 0)).cell? ⟨w.heap.size, 1, none⟩ = some (.int .u64 0) := HS.cell 1
  have jg2 : ((((w5.setCell ⟨w.heap.size, 0, none⟩ (.int .u64 0)).setCell ⟨w.heap.size, 1, none⟩ (.int .u64 0)).setCell ⟨w.heap.size, 2, none⟩ (.int .u64 0)).setCell ⟨w.heap.size, 3, none⟩ (.int .u64 0)).cell? ⟨w.heap.size, 2, none⟩ = some (.int .u64 0) := HS.cell 2
  have jg3 : ((((w5.setCell ⟨w.heap.size, 0, none⟩ (.int .u64 0)).setCell ⟨w.heap.size, 1, none⟩ (.int .u64 0)).setCell ⟨w.heap.size, 2, none⟩ (.int .u64 0)).setCell ⟨w.heap.size, 3, none⟩ (.int .u64 0)).cell? ⟨w.heap.size, 3, none⟩ = some (.int .u64 0) := HS.cell 3
  refine bodyPost_ret (v := .tuple #[.agg #[.int .u64 0, .int .u64 0, .int .u64 0, .int .u64 0], .bool false]) (by simp [results, Tryz.results23, go_sem, jg0, jg1, jg2, jg3]) rfl ⟨rfl, b⟩

set_option maxRecDepth 100000 in
set_option maxHeartbeats 8000000 in
theorem rof_b_farz (n p sz nb s0 s1 s2 s3 : Nat) (u : Int) (w : World) (_hn : n < 4294967296) (_hp : p < 8388608) (_hsz : sz < 256) (_hnb : nb ≤ 256) (_hu0 : 0 ≤ u) (_hu1 : u ≤ 2016) (hs : (n : Int) / 16777216 = (sz : Int)) (hb : bits BinOp.and IntKind.u32 (n : Int) 8388607 = (p : Int))
    (call1 : RUpZ p 0 0 0 u s0 s1 s2 s3) (h3 : decide ((sz : Int) < 3) = false) (hu : 8 * ((sz : Int) - 3) = u) (bt : RBitsIs p 0 0 0 nb) (hfar : decide ((256 : Int) < (nb : Int) + u) = true) (epz : EqZ p 0 0 0 true) (ez : EqZ s0 s1 s2 s3 true) :
    Calls Tryz.prog 23 #[.int .u32 (n : Nat)] w fun e w' => e = .returned (.tuple #[.agg #[.int .u64 0, .int .u64 0, .int .u64 0, .int .u64 0], .bool false]) ∧ Below w.heap.size w w' := by
  have CALL1 := Lib.hid call1
  have BT := Lib.hid bt
  have HFAR := Lib.hid hfar
  clear call1 bt hfar
  have epz' : ∀ w : World, (Op.equalIn 10000 51 (.agg #[.int .u64 (p : Nat), .int .u64 0, .int .u64 0, .int .u64 0]) (.agg #[.int .u64 0, .int .u64 0, .int .u64 0, .int .u64 0])).run Tryz.prog w = .ok true w := epz
  clear epz
  unfold EqZ at ez
  go_enter Tryz.func23, Tryz.ntmps23
  go_wp2_with fail
  refine (refof p _).mono ?_
  rintro e w1 ⟨rfl, h1⟩
  have PB : Below w.heap.size w w1 := ((Below.refl _ _).alloc (Nat.le_refl _) _).trans (h1.mono (by simp))
  have HR := (Holds.new w #[.int .u64 0, .int .u64 0, .int .u64 0, .int .u64 0] 51).later h1
  have lR := HR.lt
  clear h1
  have HPB := Lib.hid PB
  clear PB
  go_wp2_with fail
  have PB := (HPB.out.alloc (Nat.le_of_lt lR) (.cells #[.int .u64 (p : Nat), .int .u64 0, .int .u64 0, .int .u64 0] 51)).alloc (by simp; omega) (.cells #[.int .u64 0, .int .u64 0, .int .u64 0, .int .u64 0] 51)
  have HR2 := (HR.later ((Below.refl _ _).alloc (Nat.le_refl _) (.cells #[.int .u64 (p : Nat), .int .u64 0, .int .u64 0, .int .u64 0] 51))).later ((Below.refl _ _).alloc (Nat.le_refl _) (.cells #[.int .u64 0, .int .u64 0, .int .u64 0, .int .u64 0] 51))
  have HP := (Holds.new w1 #[.int .u64 (p : Nat), .int .u64 0, .int .u64 0, .int .u64 0] 51).later ((Below.refl _ _).alloc (Nat.le_refl _) (.cells #[.int .u64 0, .int .u64 0, .int .u64 0, .int .u64 0] 51))
  have HT : Holds ((w1.alloc (.cells #[.int .u64 (p : Nat), .int .u64 0, .int .u64 0, .int .u64 0] 51)).alloc (.cells #[.int .u64 0, .int .u64 0, .int .u64 0, .int .u64 0] 51)) (w1.heap.size + 1) #[.int .u64 0, .int .u64 0, .int .u64 0, .int .u64 0] 51 := by have := Holds.new (w1.alloc (.cells #[.int .u64 (p : Nat), .int .u64 0, .int .u64 0, .int .u64 0] 51)) #[.int .u64 0, .int .u64 0, .int .u64 0, .int .u64 0] 51; simpa using this
  have nRT : w1.heap.size + 1 ≠ w.heap.size := by omega
  have nPT : w1.heap.size + 1 ≠ w1.heap.size := by omega
  have lT : w.heap.size ≤ w1.heap.size + 1 := by omega
  clear HR HPB lR
  generalize (w1.alloc (.cells #[.int .u64 (p : Nat), .int .u64 0, .int .u64 0, .int .u64 0] 51)).alloc (.cells #[.int .u64 0, .int .u64 0, .int .u64 0, .int .u64 0] 51) = W2 at *
  generalize w1.heap.size + 1 = Bt at *
  generalize w1.heap.size = Bp at *
  refine (CALL1.out.word _).mono ?_
  rintro e w3 ⟨rfl, hc⟩
  replace HR2 := HR2.later hc
  replace HP := HP.later hc
  replace HT := HT.later hc
  have PC := below_step PB hc
  clear PB hc
  have HPB := Lib.hid PC
  clear PC
  have tc0 : w3.cell? ⟨Bt, 0, none⟩ = some (.int .u64 0) := HT.cell 0
  have tz0 : w3.frozen? ⟨Bt, 0, none⟩ = false := HT.free 0
  have tc1 : w3.cell? ⟨Bt, 1, none⟩ = some (.int .u64 0) := HT.cell 1
  have tz1 : w3.frozen? ⟨Bt, 1, none⟩ = false := HT.free 1
  have tc2 : w3.cell? ⟨Bt, 2, none⟩ = some (.int .u64 0) := HT.cell 2
  have tz2 : w3.frozen? ⟨Bt, 2, none⟩ = false := HT.free 2
  have tc3 : w3.cell? ⟨Bt, 3, none⟩ = some (.int .u64 0) := HT.cell 3
  have tz3 : w3.frozen? ⟨Bt, 3, none⟩ = false := HT.free 3
  have pc0 : w3.cell? ⟨Bp, 0, none⟩ = some (.int .u64 (p : Nat)) := HP.cell 0
  have pz0 : w3.frozen? ⟨Bp, 0, none⟩ = false := HP.free 0
  have pc1 : w3.cell? ⟨Bp, 1, none⟩ = some (.int .u64 0) := HP.cell 1
  have pz1 : w3.frozen? ⟨Bp, 1, none⟩ = false := HP.free 1
  have pc2 : w3.cell? ⟨Bp, 2, none⟩ = some (.int .u64 0) := HP.cell 2
  have pz2 : w3.frozen? ⟨Bp, 2, none⟩ = false := HP.free 2
  have pc3 : w3.cell? ⟨Bp, 3, none⟩ = some (.int .u64 0) := HP.cell 3
  have pz3 : w3.frozen? ⟨Bp, 3, none⟩ = false := HP.free 3
  go_wp2_with fail
  have PB := (((HPB.out.setCell (p := ⟨Bt, 0, none⟩) lT (.int .u64 (s0 : Nat))).setCell (p := ⟨Bt, 1, none⟩) lT (.int .u64 (s1 : Nat))).setCell (p := ⟨Bt, 2, none⟩) lT (.int .u64 (s2 : Nat))).setCell (p := ⟨Bt, 3, none⟩) lT (.int .u64 (s3 : Nat))
  have HT2 : Holds ((((w3.setCell ⟨Bt, 0, none⟩ (.int .u64 (s0 : Nat))).setCell ⟨Bt, 1, none⟩ (.int .u64 (s1 : Nat))).setCell ⟨Bt, 2, none⟩ (.int .u64 (s2 : Nat))).setCell ⟨Bt, 3, none⟩ (.int .u64 (s3 : Nat))) Bt #[.int .u64 (s0 : Nat), .int .u64 (s1 : Nat), .int .u64 (s2 : Nat), .int .u64 (s3 : Nat)] 51 := (((HT.set _).set _).set _).set _
  have HP2 := ((((HP.other (q := 0) nPT (.int .u64 (s0 : Nat))).other (q := 1) nPT (.int .u64 (s1 : Nat))).other (q := 2) nPT (.int .u64 (s2 : Nat))).other (q := 3) nPT (.int .u64 (s3 : Nat)))
  have HR3 := ((((HR2.other (q := 0) nRT (.int .u64 (s0 : Nat))).other (q := 1) nRT (.int .u64 (s1 : Nat))).other (q := 2) nRT (.int .u64 (s2 : Nat))).other (q := 3) nRT (.int .u64 (s3 : Nat)))
  clear tc0 tz0 tc1 tz1 tc2 tz2 tc3 tz3 pc0 pz0 pc1 pz1 pc2 pz2 pc3 pz3 HT HP HR2 HPB
  generalize (((w3.setCell ⟨Bt, 0, none⟩ (.int .u64 (s0 : Nat))).setCell ⟨Bt, 1, none⟩ (.int .u64 (s1 : Nat))).setCell ⟨Bt, 2, none⟩ (.int .u64 (s2 : Nat))).setCell ⟨Bt, 3, none⟩ (.int .u64 (s3 : Nat)) = W4 at *
  refine (BT.out.word _).mono ?_
  rintro e w5 ⟨rfl, hc⟩
  replace HR3 := HR3.later hc
  replace HP2 := HP2.later hc
  replace HT2 := HT2.later hc
  have PC := below_step PB hc
  clear PB hc
  have HPB := Lib.hid PC
  clear PC
  have hfar := HFAR.out
  have tc0 : w5.cell? ⟨Bt, 0, none⟩ = some (.int .u64 (s0 : Nat)) := HT2.cell 0
  have tz0 : w5.frozen? ⟨Bt, 0, none⟩ = false := HT2.free 0
  have tc1 : w5.cell? ⟨Bt, 1, none⟩ = some (.int .u64 (s1 : Nat)) := HT2.cell 1
  have tz1 : w5.frozen? ⟨Bt, 1, none⟩ = false := HT2.free 1
  have tc2 : w5.cell? ⟨Bt, 2, none⟩ = some (.int .u64 (s2 : Nat)) := HT2.cell 2
  have tz2 : w5.frozen? ⟨Bt, 2, none⟩ = false := HT2.free 2
  have tc3 : w5.cell? ⟨Bt, 3, none⟩ = some (.int .u64 (s3 : Nat)) := HT2.cell 3
  have tz3 : w5.frozen? ⟨Bt, 3, none⟩ = false := HT2.free 3
  have pc0 : w5.cell? ⟨Bp, 0, none⟩ = some (.int .u64 (p : Nat)) := HP2.cell 0
  have pz0 : w5.frozen? ⟨Bp, 0, none⟩ = false := HP2.free 0
  have pc1 : w5.cell? ⟨Bp, 1, none⟩ = some (.int .u64 0) := HP2.cell 1
  have pz1 : w5.frozen? ⟨Bp, 1, none⟩ = false := HP2.free 1
  have pc2 : w5.cell? ⟨Bp, 2, none⟩ = some (.int .u64 0) := HP2.cell 2
  have pz2 : w5.frozen? ⟨Bp, 2, none⟩ = false := HP2.free 2
  have pc3 : w5.cell? ⟨Bp, 3, none⟩ = some (.int .u64 0) := HP2.cell 3
  have pz3 : w5.frozen? ⟨Bp, 3, none⟩ = false := HP2.free 3
  have rc0 : w5.cell? ⟨w.heap.size, 0, none⟩ = some (.int .u64 0) := HR3.cell 0
  have rz0 : w5.frozen? ⟨w.heap.size, 0, none⟩ = false := HR3.free 0
  have rc1 : w5.cell? ⟨w.heap.size, 1, none⟩ = some (.int .u64 0) := HR3.cell 1
  have rz1 : w5.frozen? ⟨w.heap.size, 1, none⟩ = false := HR3.free 1
  have rc2 : w5.cell? ⟨w.heap.size, 2, none⟩ = some (.int .u64 0) := HR3.cell 2
  have rz2 : w5.frozen? ⟨w.heap.size, 2, none⟩ = false := HR3.free 2
  have rc3 : w5.cell? ⟨w.heap.size, 3, none⟩ = some (.int .u64 0) := HR3.cell 3
  have rz3 : w5.frozen? ⟨w.heap.size, 3, none⟩ = false := HR3.free 3
  go_wp2_with fail
  have b := ((((HPB.out).setCell (p := ⟨w.heap.size, 0, none⟩) (Nat.le_refl _) (.int .u64 0)).setCell (p := ⟨w.heap.size, 1, none⟩) (Nat.le_refl _) (.int .u64 0)).setCell (p := ⟨w.heap.size, 2, none⟩) (Nat.le_refl _) (.int .u64 0)).setCell (p := ⟨w.heap.size, 3, none⟩) (Nat.le_refl _) (.int .u64 0)
  have HS : Holds ((((w5.setCell ⟨w.heap.size, 0, none⟩ (.int .u64 0)).setCell ⟨w.heap.size, 1, none⟩ (.int .u64 0)).setCell ⟨w.heap.size, 2, none⟩ (.int .u64 0)).setCell ⟨w.heap.size, 3, none⟩ (.int .u64 0)) w.heap.size #[.int .u64 0, .int .u64 0, .int .u64 0, .int .u64 0] 51 := ((((HR3).set _).set _).set _).set _
  have jg0 : ((((w5.setCell ⟨w.heap.size, 0, none⟩ (.int .u64 0)).setCell ⟨w.heap.size, 1, none⟩ (.int .u64 0)).setCell ⟨w.heap.size, 2, none⟩ (.int .u64 0)).setCell ⟨w.heap.size, 3, none⟩ (.int .u64 0)).cell? ⟨w.heap.size, 0, none⟩ = some (.int .u64 0) := HS.cell 0
  have jg1 : ((((w5.setCell ⟨w.heap.size, 0, none⟩ (.int .u64 0)).setCell ⟨w.heap.size, 1, none⟩ (.int .u64 0)).setCell ⟨w.heap.size, 2, none⟩ (.int .u64 0)).setCell ⟨w.heap.size, 3, none⟩ (.int .u64 0)).cell? ⟨w.heap.size, 1, none⟩ = some (.int .u64 0) := HS.cell 1
  have jg2 : ((((w5.setCell ⟨w.heap.size, 0, none⟩ (.int .u64 0)).setCell ⟨w.heap.size, 1, none⟩ (.int .u64 0)).setCell ⟨w.heap.size, 2, none⟩ (.int .u64 0)).setCell ⟨w.heap.size, 3, none⟩ (.int .u64 0)).cell? ⟨w.heap.size, 2, none⟩ = some (.int .u64 0) := HS.cell 2
  have jg3 : ((((w5.setCell ⟨w.heap.size, 0, none⟩ (.int .u64 0)).setCell ⟨w.heap.size, 1, none⟩ (.int .u64 0)).setCell ⟨w.heap.size, 2, none⟩ (.int .u64 0)).setCell ⟨w.heap.size, 3, none⟩ (.int .u64 0)).cell? ⟨w.heap.size, 3, none⟩ = some (.int .u64 0) := HS.cell 3
  refine bodyPost_ret (v := .tuple #[.agg #[.int .u64 0, .int .u64 0, .int .u64 0, .int .u64 0], .bool false]) (by simp [results, Tryz.results23, go_sem, jg0, jg1, jg2, jg3]) rfl ⟨rfl, b⟩

set_option maxRecDepth 100000 in
set_option maxHeartbeats 8000000 in
theorem rof_b_z (n p sz nb s0 s1 s2 s3 : Nat) (u : Int) (w : World) (_hn : n < 4294967296) (_hp : p < 8388608) (_hsz : sz < 256) (_hnb : nb ≤ 256) (_hu0 : 0 ≤ u) (_hu1 : u ≤ 2016) (hs : (n : Int) / 16777216 = (sz : Int)) (hb : bits BinOp.and IntKind.u32 (n : Int) 8388607 = (p : Int))
    (call1 : RUpZ p 0 0 0 u s0 s1 s2 s3) (h3 : decide ((sz : Int) < 3) = false) (hu : 8 * ((sz : Int) - 3) = u) (bt : RBitsIs p 0 0 0 nb) (hfar : decide ((256 : Int) < (nb : Int) + u) = false) (ez : EqZ s0 s1 s2 s3 true) :
    Calls Tryz.prog 23 #[.int .u32 (n : Nat)] w fun e w' => e = .returned (.tuple #[.agg #[.int .u64 0, .int .u64 0, .int .u64 0, .int .u64 0], .bool false]) ∧ Below w.heap.size w w' := by
  have CALL1 := Lib.hid call1
  have BT := Lib.hid bt
  have HFAR := Lib.hid hfar
  clear call1 bt hfar
  unfold EqZ at ez
  go_enter Tryz.func23, Tryz.ntmps23
  go_wp2_with fail
  refine (refof p _).mono ?_
  rintro e w1 ⟨rfl, h1⟩
  have PB : Below w.heap.size w w1 := ((Below.refl _ _).alloc (Nat.le_refl _) _).trans (h1.mono (by simp))
  have HR := (Holds.new w #[.int .u64 0, .int .u64 0, .int .u64 0, .int .u64 0] 51).later h1
  have lR := HR.lt
  clear h1
  have HPB := Lib.hid PB
  clear PB
  go_wp2_with fail
  have PB := (HPB.out.alloc (Nat.le_of_lt lR) (.cells #[.int .u64 (p : Nat), .int .u64 0, .int .u64 0, .int .u64 0] 51)).alloc (by simp; omega) (.cells #[.int .u64 0, .int .u64 0, .int .u64 0, .int .u64 0] 51)
  have HR2 := (HR.later ((Below.refl _ _).alloc (Nat.le_refl _) (.cells #[.int .u64 (p : Nat), .int .u64 0, .int .u64 0, .int .u64 0] 51))).later ((Below.refl _ _).alloc (Nat.le_refl _) (.cells #[.int .u64 0, .int .u64 0, .int .u64 0, .int .u64 0] 51))
  have HP := (Holds.new w1 #[.int .u64 (p : Nat), .int .u64 0, .int .u64 0, .int .u64 0] 51).later ((Below.refl _ _).alloc (Nat.le_refl _) (.cells #[.int .u64 0, .int .u64 0, .int .u64 0, .int .u64 0] 51))
  have HT : Holds ((w1.alloc (.cells #[.int .u64 (p : Nat), .int .u64 0, .int .u64 0, .int .u64 0] 51)).alloc (.cells #[.int .u64 0, .int .u64 0, .int .u64 0, .int .u64 0] 51)) (w1.heap.size + 1) #[.int .u64 0, .int .u64 0, .int .u64 0, .int .u64 0] 51 := by have := Holds.new (w1.alloc (.cells #[.int .u64 (p : Nat), .int .u64 0, .int .u64 0, .int .u64 0] 51)) #[.int .u64 0, .int .u64 0, .int .u64 0, .int .u64 0] 51; simpa using this
  have nRT : w1.heap.size + 1 ≠ w.heap.size := by omega
  have nPT : w1.heap.size + 1 ≠ w1.heap.size := by omega
  have lT : w.heap.size ≤ w1.heap.size + 1 := by omega
  clear HR HPB lR
  generalize (w1.alloc (.cells #[.int .u64 (p : Nat), .int .u64 0, .int .u64 0, .int .u64 0] 51)).alloc (.cells #[.int .u64 0, .int .u64 0, .int .u64 0, .int .u64 0] 51) = W2 at *
  generalize w1.heap.size + 1 = Bt at *
  generalize w1.heap.size = Bp at *
  refine (CALL1.out.word _).mono ?_
  rintro e w3 ⟨rfl, hc⟩
  replace HR2 := HR2.later hc
  replace HP := HP.later hc
  replace HT := HT.later hc
  have PC := below_step PB hc
  clear PB hc
  have HPB := Lib.hid PC
  clear PC
  have tc0 : w3.cell? ⟨Bt, 0, none⟩ = some (.int .u64 0) := HT.cell 0
  have tz0 : w3.frozen? ⟨Bt, 0, none⟩ = false := HT.free 0
  have tc1 : w3.cell? ⟨Bt, 1, none⟩ = some (.int .u64 0) := HT.cell 1
  have tz1 : w3.frozen? ⟨Bt, 1, none⟩ = false := HT.free 1
  have tc2 : w3.cell? ⟨Bt, 2, none⟩ = some (.int .u64 0) := HT.cell 2
  have tz2 : w3.frozen? ⟨Bt, 2, none⟩ = false := HT.free 2
  have tc3 : w3.cell? ⟨Bt, 3, none⟩ = some (.int .u64 0) := HT.cell 3
  have tz3 : w3.frozen? ⟨Bt, 3, none⟩ = false := HT.free 3
  have pc0 : w3.cell? ⟨Bp, 0, none⟩ = some (.int .u64 (p : Nat)) := HP.cell 0
  have pz0 : w3.frozen? ⟨Bp, 0, none⟩ = false := HP.free 0
  have pc1 : w3.cell? ⟨Bp, 1, none⟩ = some (.int .u64 0) := HP.cell 1
  have pz1 : w3.frozen? ⟨Bp, 1, none⟩ = false := HP.free 1
  have pc2 : w3.cell? ⟨Bp, 2, none⟩ = some (.int .u64 0) := HP.cell 2
  have pz2 : w3.frozen? ⟨Bp, 2, none⟩ = false := HP.free 2
  have pc3 : w3.cell? ⟨Bp, 3, none⟩ = some (.int .u64 0) := HP.cell 3
  have pz3 : w3.frozen? ⟨Bp, 3, none⟩ = false := HP.free 3
  go_wp2_with fail
  have PB := (((HPB.out.setCell (p := ⟨Bt, 0, none⟩) lT (.int .u64 (s0 : Nat))).setCell (p := ⟨Bt, 1, none⟩) lT (.int .u64 (s1 : Nat))).setCell (p := ⟨Bt, 2, none⟩) lT (.int .u64 (s2 : Nat))).setCell (p := ⟨Bt, 3, none⟩) lT (.int .u64 (s3 : Nat))
  have HT2 : Holds ((((w3.setCell ⟨Bt, 0, none⟩ (.int .u64 (s0 : Nat))).setCell ⟨Bt, 1, none⟩ (.int .u64 (s1 : Nat))).setCell ⟨Bt, 2, none⟩ (.int .u64 (s2 : Nat))).setCell ⟨Bt, 3, none⟩ (.int .u64 (s3 : Nat))) Bt #[.int .u64 (s0 : Nat), .int .u64 (s1 : Nat), .int .u64 (s2 : Nat), .int .u64 (s3 : Nat)] 51 := (((HT.set _).set _).set _).set _
  have HP2 := ((((HP.other (q := 0) nPT (.int .u64 (s0 : Nat))).other (q := 1) nPT (.int .u64 (s1 : Nat))).other (q := 2) nPT (.int .u64 (s2 : Nat))).other (q := 3) nPT (.int .u64 (s3 : Nat)))
  have HR3 := ((((HR2.other (q := 0) nRT (.int .u64 (s0 : Nat))).other (q := 1) nRT (.int .u64 (s1 : Nat))).other (q := 2) nRT (.int .u64 (s2 : Nat))).other (q := 3) nRT (.int .u64 (s3 : Nat)))
  clear tc0 tz0 tc1 tz1 tc2 tz2 tc3 tz3 pc0 pz0 pc1 pz1 pc2 pz2 pc3 pz3 HT HP HR2 HPB
  generalize (((w3.setCell ⟨Bt, 0, none⟩ (.int .u64 (s0 : Nat))).setCell ⟨Bt, 1, none⟩ (.int .u64 (s1 : Nat))).setCell ⟨Bt, 2, none⟩ (.int .u64 (s2 : Nat))).setCell ⟨Bt, 3, none⟩ (.int .u64 (s3 : Nat)) = W4 at *
  refine (BT.out.word _).mono ?_
  rintro e w5 ⟨rfl, hc⟩
  replace HR3 := HR3.later hc
  replace HP2 := HP2.later hc
  replace HT2 := HT2.later hc
  have PC := below_step PB hc
  clear PB hc
  have HPB := Lib.hid PC
  clear PC
  have hfar := HFAR.out
  have tc0 : w5.cell? ⟨Bt, 0, none⟩ = some (.int .u64 (s0 : Nat)) := HT2.cell 0
  have tz0 : w5.frozen? ⟨Bt, 0, none⟩ = false := HT2.free 0
  have tc1 : w5.cell? ⟨Bt, 1, none⟩ = some (.int .u64 (s1 : Nat)) := HT2.cell 1
  have tz1 : w5.frozen? ⟨Bt, 1, none⟩ = false := HT2.free 1
  have tc2 : w5.cell? ⟨Bt, 2, none⟩ = some (.int .u64 (s2 : Nat)) := HT2.cell 2
  have tz2 : w5.frozen? ⟨Bt, 2, none⟩ = false := HT2.free 2
  have tc3 : w5.cell? ⟨Bt, 3, none⟩ = some (.int .u64 (s3 : Nat)) := HT2.cell 3
  have tz3 : w5.frozen? ⟨Bt, 3, none⟩ = false := HT2.free 3
  have pc0 : w5.cell? ⟨Bp, 0, none⟩ = some (.int .u64 (p : Nat)) := HP2.cell 0
  have pz0 : w5.frozen? ⟨Bp, 0, none⟩ = false := HP2.free 0
  have pc1 : w5.cell? ⟨Bp, 1, none⟩ = some (.int .u64 0) := HP2.cell 1
  have pz1 : w5.frozen? ⟨Bp, 1, none⟩ = false := HP2.free 1
  have pc2 : w5.cell? ⟨Bp, 2, none⟩ = some (.int .u64 0) := HP2.cell 2
  have pz2 : w5.frozen? ⟨Bp, 2, none⟩ = false := HP2.free 2
  have pc3 : w5.cell? ⟨Bp, 3, none⟩ = some (.int .u64 0) := HP2.cell 3
  have pz3 : w5.frozen? ⟨Bp, 3, none⟩ = false := HP2.free 3
  have rc0 : w5.cell? ⟨w.heap.size, 0, none⟩ = some (.int .u64 0) := HR3.cell 0
  have rz0 : w5.frozen? ⟨w.heap.size, 0, none⟩ = false := HR3.free 0
  have rc1 : w5.cell? ⟨w.heap.size, 1, none⟩ = some (.int .u64 0) := HR3.cell 1
  have rz1 : w5.frozen? ⟨w.heap.size, 1, none⟩ = false := HR3.free 1
  have rc2 : w5.cell? ⟨w.heap.size, 2, none⟩ = some (.int .u64 0) := HR3.cell 2
  have rz2 : w5.frozen? ⟨w.heap.size, 2, none⟩ = false := HR3.free 2
  have rc3 : w5.cell? ⟨w.heap.size, 3, none⟩ = some (.int .u64 0) := HR3.cell 3
  have rz3 : w5.frozen? ⟨w.heap.size, 3, none⟩ = false := HR3.free 3
  go_wp2_with fail
  have b := ((((HPB.out).setCell (p := ⟨w.heap.size, 0, none⟩) (Nat.le_refl _) (.int .u64 0)).setCell (p := ⟨w.heap.size, 1, none⟩) (Nat.le_refl _) (.int .u64 0)).setCell (p := ⟨w.heap.size, 2, none⟩) (Nat.le_refl _) (.int .u64 0)).setCell (p := ⟨w.heap.size, 3, none⟩) (Nat.le_refl _) (.int .u64 0)
  have HS : Holds ((((w5.setCell ⟨w.heap.size, 0, none⟩ (.int .u64 0)).setCell ⟨w.heap.size, 1, none⟩ (.int .u64 0)).setCell ⟨w.heap.size, 2, none⟩ (.int .u64 0)).setCell ⟨w.heap.size, 3, none⟩ (.int .u64 0)) w.heap.size #[.int .u64 0, .int .u64 0, .int .u64 0, .int .u64 0] 51 := ((((HR3).set _).set _).set _).set _
  have jg0 : ((((w5.setCell ⟨w.heap.size, 0, none⟩ (.int .u64 0)).setCell ⟨w.heap.size, 1, none⟩ (.int .u64 0)).setCell ⟨w.heap.size, 2, none⟩ (.int .u64 0)).setCell ⟨w.heap.size, 3, none⟩ (.int .u64 0)).cell? ⟨w.heap.size, 0, none⟩ = some (.int .u64 0) := HS.cell 0
  have jg1 : ((((w5.setCell ⟨w.heap.size, 0, none⟩ (.int .u64 0)).setCell ⟨w.heap.size, 1, none⟩ (.int .u64 0)).setCell ⟨w.heap.size, 2, none⟩ (.int .u64 0)).setCell ⟨w.heap.size, 3, none⟩ (.int .u64 0)).cell? ⟨w.heap.size, 1, none⟩ = some (.int .u64 0) := HS.cell 1
  have jg2 : ((((w5.setCell ⟨w.heap.size, 0, none⟩ (.int .u64 0)).setCell ⟨w.heap.size, 1, none⟩ (.int .u64 0)).setCell ⟨w.heap.size, 2, none⟩ (.int .u64 0)).setCell ⟨w.heap.size, 3, none⟩ (.int .u64 0)).cell? ⟨w.heap.size, 2, none⟩ = some (.int .u64 0) := HS.cell 2
  have jg3 : ((((w5.setCell ⟨w.heap.size, 0, none⟩ (.int .u64 0)).setCell ⟨w.heap.size, 1, none⟩ (.int .u64 0)).setCell ⟨w.heap.size, 2, none⟩ (.int .u64 0)).setCell ⟨w.heap.size, 3, none⟩ (.int .u64 0)).cell? ⟨w.heap.size, 3, none⟩ = some (.int .u64 0) := HS.cell 3
  refine bodyPost_ret (v := .tuple #[.agg #[.int .u64 0, .int .u64 0, .int .u64 0, .int .u64 0], .bool false]) (by simp [results, Tryz.results23, go_sem, jg0, jg1, jg2, jg3]) rfl ⟨rfl, b⟩

set_option maxRecDepth 100000 in
set_option maxHeartbeats 8000000 in
theorem rof_b_g (n p sz nb s0 s1 s2 s3 : Nat) (u : Int) (w : World) (_hn : n < 4294967296) (_hp : p < 8388608) (_hsz : sz < 256) (_hnb : nb ≤ 256) (_hu0 : 0 ≤ u) (_hu1 : u ≤ 2016) (hs : (n : Int) / 16777216 = (sz : Int)) (hb : bits BinOp.and IntKind.u32 (n : Int) 8388607 = (p : Int))
    (call1 : RUpZ p 0 0 0 u s0 s1 s2 s3) (h3 : decide ((sz : Int) < 3) = false) (hu : 8 * ((sz : Int) - 3) = u) (bt : RBitsIs p 0 0 0 nb) (hfar : decide ((256 : Int) < (nb : Int) + u) = false) (ez : EqZ s0 s1 s2 s3 false) (hsg : (bits BinOp.and IntKind.u32 (n : Int) 8388608 != 0) = true) :
    Calls Tryz.prog 23 #[.int .u32 (n : Nat)] w fun e w' => e = .returned (.tuple #[.agg #[.int .u64 0, .int .u64 0, .int .u64 0, .int .u64 0], .bool false]) ∧ Below w.heap.size w w' := by
  have CALL1 := Lib.hid call1
  have BT := Lib.hid bt
  have HFAR := Lib.hid hfar
  clear call1 bt hfar
  unfold EqZ at ez
  go_enter Tryz.func23, Tryz.ntmps23
  go_wp2_with fail
  refine (refof p _).mono ?_
  rintro e w1 ⟨rfl, h1⟩
  have PB : Below w.heap.size w w1 := ((Below.refl _ _).alloc (Nat.le_refl _) _).trans (h1.mono (by simp))
  have HR := (Holds.new w #[.int .u64 0, .int .u64 0, .int .u64 0, .int .u64 0] 51).later h1
  have lR := HR.lt
  clear h1
  have HPB := Lib.hid PB
  clear PB
  go_wp2_with fail
  have PB := (HPB.out.alloc (Nat.le_of_lt lR) (.cells #[.int .u64 (p : Nat), .int .u64 0, .int .u64 0, .int .u64 0] 51)).alloc (by simp; omega) (.cells #[.int .u64 0, .int .u64 0, .int .u64 0, .int .u64 0] 51)
  have HR2 := (HR.later ((Below.refl _ _).alloc (Nat.le_refl _) (.cells #[.int .u64 (p : Nat), .int .u64 0, .int .u64 0, .int .u64 0] 51))).later ((Below.refl _ _).alloc (Nat.le_refl _) (.cells #[.int .u64 0, .int .u64 0, .int .u64 0, .int .u64 0] 51))
  have HP := (Holds.new w1 #[.int .u64 (p : Nat), .int .u64 0, .int .u64 0, .int .u64 0] 51).later ((Below.refl _ _).alloc (Nat.le_refl _) (.cells #[.int .u64 0, .int .u64 0, .int .u64 0, .int .u64 0] 51))
  have HT : Holds ((w1.alloc (.cells #[.int .u64 (p : Nat), .int .u64 0, .int .u64 0, .int .u64 0] 51)).alloc (.cells #[.int .u64 0, .int .u64 0, .int .u64 0, .int .u64 0] 51)) (w1.heap.size + 1) #[.int .u64 0, .int .u64 0, .int .u64 0, .int .u64 0] 51 := by have := Holds.new (w1.alloc (.cells #[.int .u64 (p : Nat), .int .u64 0, .int .u64 0, .int .u64 0] 51)) #[.int .u64 0, .int .u64 0, .int .u64 0, .int .u64 0] 51; simpa using this
  have nRT : w1.heap.size + 1 ≠ w.heap.size := by omega
  have nPT : w1.heap.size + 1 ≠ w1.heap.size := by omega
  have lT : w.heap.size ≤ w1.heap.size + 1 := by omega
  clear HR HPB lR
  generalize (w1.alloc (.cells #[.int .u64 (p : Nat), .int .u64 0, .int .u64 0, .int .u64 0] 51)).alloc (.cells #[.int .u64 0, .int .u64 0, .int .u64 0, .int .u64 0] 51) = W2 at *
  generalize w1.heap.size + 1 = Bt at *
  generalize w1.heap.size = Bp at *
  refine (CALL1.out.word _).mono ?_
  rintro e w3 ⟨rfl, hc⟩
  replace HR2 := HR2.later hc
  replace HP := HP.later hc
  replace HT := HT.later hc
  have PC := below_step PB hc
  clear PB hc
  have HPB := Lib.hid PC
  clear PC
  have tc0 : w3.cell? ⟨Bt, 0, none⟩ = some (.int .u64 0) := HT.cell 0
  have tz0 : w3.frozen? ⟨Bt, 0, none⟩ = false := HT.free 0
  have tc1 : w3.cell? ⟨Bt, 1, none⟩ = some (.int .u64 0) := HT.cell 1
  have tz1 : w3.frozen? ⟨Bt, 1, none⟩ = false := HT.free 1
  have tc2 : w3.cell? ⟨Bt, 2, none⟩ = some (.int .u64 0) := HT.cell 2
  have tz2 : w3.frozen? ⟨Bt, 2, none⟩ = false := HT.free 2
  have tc3 : w3.cell? ⟨Bt, 3, none⟩ = some (.int .u64 0) := HT.cell 3
  have tz3 : w3.frozen? ⟨Bt, 3, none⟩ = false := HT.free 3
  have pc0 : w3.cell? ⟨Bp, 0, none⟩ = some (.int .u64 (p : Nat)) := HP.cell 0
  have pz0 : w3.frozen? ⟨Bp, 0, none⟩ = false := HP.free 0
  have pc1 : w3.cell? ⟨Bp, 1, none⟩ = some (.int .u64 0) := HP.cell 1
  have pz1 : w3.frozen? ⟨Bp, 1, none⟩ = false := HP.free 1
  have pc2 : w3.cell? ⟨Bp, 2, none⟩ = some (.int .u64 0) := HP.cell 2
  have pz2 : w3.frozen? ⟨Bp, 2, none⟩ = false := HP.free 2
  have pc3 : w3.cell? ⟨Bp, 3, none⟩ = some (.int .u64 0) := HP.cell 3
  have pz3 : w3.frozen? ⟨Bp, 3, none⟩ = false := HP.free 3
  go_wp2_with fail
  have PB := (((HPB.out.setCell (p := ⟨Bt, 0, none⟩) lT (.int .u64 (s0 : Nat))).setCell (p := ⟨Bt, 1, none⟩) lT (.int .u64 (s1 : Nat))).setCell (p := ⟨Bt, 2, none⟩) lT (.int .u64 (s2 : Nat))).setCell (p := ⟨Bt, 3, none⟩) lT (.int .u64 (s3 : Nat))
  have HT2 : Holds ((((w3.setCell ⟨Bt, 0, none⟩ (.int .u64 (s0 : Nat))).setCell ⟨Bt, 1, none⟩ (.int .u64 (s1 : Nat))).setCell ⟨Bt, 2, none⟩ (.int .u64 (s2 : Nat))).setCell ⟨Bt, 3, none⟩ (.int .u64 (s3 : Nat))) Bt #[.int .u64 (s0 : Nat), .int .u64 (s1 : Nat), .int .u64 (s2 : Nat), .int .u64 (s3 : Nat)] 51 := (((HT.set _).set _).set _).set _
  have HP2 := ((((HP.other (q := 0) nPT (.int .u64 (s0 : Nat))).other (q := 1) nPT (.int .u64 (s1 : Nat))).other (q := 2) nPT (.int .u64 (s2 : Nat))).other (q := 3) nPT (.int .u64 (s3 : Nat)))
  have HR3 := ((((HR2.other (q := 0) nRT (.int .u64 (s0 : Nat))).other (q := 1) nRT (.int .u64 (s1 : Nat))).other (q := 2) nRT (.int .u64 (s2 : Nat))).other (q := 3) nRT (.int .u64 (s3 : Nat)))
  clear tc0 tz0 tc1 tz1 tc2 tz2 tc3 tz3 pc0 pz0 pc1 pz1 pc2 pz2 pc3 pz3 HT HP HR2 HPB
  generalize (((w3.setCell ⟨Bt, 0, none⟩ (.int .u64 (s0 : Nat))).setCell ⟨Bt, 1, none⟩ (.int .u64 (s1 : Nat))).setCell ⟨Bt, 2, none⟩ (.int .u64 (s2 : Nat))).setCell ⟨Bt, 3, none⟩ (.int .u64 (s3 : Nat)) = W4 at *
  refine (BT.out.word _).mono ?_
  rintro e w5 ⟨rfl, hc⟩
  replace HR3 := HR3.later hc
  replace HP2 := HP2.later hc
  replace HT2 := HT2.later hc
  have PC := below_step PB hc
  clear PB hc
  have HPB := Lib.hid PC
  clear PC
  have hfar := HFAR.out
  have tc0 : w5.cell? ⟨Bt, 0, none⟩ = some (.int .u64 (s0 : Nat)) := HT2.cell 0
  have tz0 : w5.frozen? ⟨Bt, 0, none⟩ = false := HT2.free 0
  have tc1 : w5.cell? ⟨Bt, 1, none⟩ = some (.int .u64 (s1 : Nat)) := HT2.cell 1
  have tz1 : w5.frozen? ⟨Bt, 1, none⟩ = false := HT2.free 1
  have tc2 : w5.cell? ⟨Bt, 2, none⟩ = some (.int .u64 (s2 : Nat)) := HT2.cell 2
  have tz2 : w5.frozen? ⟨Bt, 2, none⟩ = false := HT2.free 2
  have tc3 : w5.cell? ⟨Bt, 3, none⟩ = some (.int .u64 (s3 : Nat)) := HT2.cell 3
  have tz3 : w5.frozen? ⟨Bt, 3, none⟩ = false := HT2.free 3
  have pc0 : w5.cell? ⟨Bp, 0, none⟩ = some (.int .u64 (p : Nat)) := HP2.cell 0
  have pz0 : w5.frozen? ⟨Bp, 0, none⟩ = false := HP2.free 0
  have pc1 : w5.cell? ⟨Bp, 1, none⟩ = some (.int .u64 0) := HP2.cell 1
  have pz1 : w5.frozen? ⟨Bp, 1, none⟩ = false := HP2.free 1
  have pc2 : w5.cell? ⟨Bp, 2, none⟩ = some (.int .u64 0) := HP2.cell 2
  have pz2 : w5.frozen? ⟨Bp, 2, none⟩ = false := HP2.free 2
  have pc3 : w5.cell? ⟨Bp, 3, none⟩ = some (.int .u64 0) := HP2.cell 3
  have pz3 : w5.frozen? ⟨Bp, 3, none⟩ = false := HP2.free 3
  have rc0 : w5.cell? ⟨w.heap.size, 0, none⟩ = some (.int .u64 0) := HR3.cell 0
  have rz0 : w5.frozen? ⟨w.heap.size, 0, none⟩ = false := HR3.free 0
  have rc1 : w5.cell? ⟨w.heap.size, 1, none⟩ = some (.int .u64 0) := HR3.cell 1
  have rz1 : w5.frozen? ⟨w.heap.size, 1, none⟩ = false := HR3.free 1
  have rc2 : w5.cell? ⟨w.heap.size, 2, none⟩ = some (.int .u64 0) := HR3.cell 2
  have rz2 : w5.frozen? ⟨w.heap.size, 2, none⟩ = false := HR3.free 2
  have rc3 : w5.cell? ⟨w.heap.size, 3, none⟩ = some (.int .u64 0) := HR3.cell 3
  have rz3 : w5.frozen? ⟨w.heap.size, 3, none⟩ = false := HR3.free 3
  go_wp2_with fail
  have b := ((((HPB.out).setCell (p := ⟨w.heap.size, 0, none⟩) (Nat.le_refl _) (.int .u64 0)).setCell (p := ⟨w.heap.size, 1, none⟩) (Nat.le_refl _) (.int .u64 0)).setCell (p := ⟨w.heap.size, 2, none⟩) (Nat.le_refl _) (.int .u64 0)).setCell (p := ⟨w.heap.size, 3, none⟩) (Nat.le_refl _) (.int .u64 0)
  have HS : Holds ((((w5.setCell ⟨w.heap.size, 0, none⟩ (.int .u64 0)).setCell ⟨w.heap.size, 1, none⟩ (.int .u64 0)).setCell ⟨w.heap.size, 2, none⟩ (.int .u64 0)).setCell ⟨w.heap.size, 3, none⟩ (.int .u64 0)) w.heap.size #[.int .u64 0, .int .u64 0, .int .u64 0, .int .u64 0] 51 := ((((HR3).set _).set _).set _).set _
  have jg0 : ((((w5.setCell ⟨w.heap.size, 0, none⟩ (.int .u64 0)).setCell ⟨w.heap.size, 1, none⟩ (.int .u64 0)).setCell ⟨w.heap.size, 2, none⟩ (.int .u64 0)).setCell ⟨w.heap.size, 3, none⟩ (.int .u64 0)).cell? ⟨w.heap.size, 0, none⟩ = some (.int .u64 0) := HS.cell 0
  have jg1 : ((((w5.setCell ⟨w.heap.size, 0, none⟩ (.int .u64 0)).setCell ⟨w.heap.size, 1, none⟩ (.int .u64 0)).setCell ⟨w.heap.size, 2, none⟩ (.int .u64 0)).setCell ⟨w.heap.size, 3, none⟩ (.int .u64 0)).cell? ⟨w.heap.size, 1, none⟩ = some (.int .u64 0) := HS.cell 1
  have jg2 : ((((w5.setCell ⟨w.heap.size, 0, none⟩ (.int .u64 0)).setCell ⟨w.heap.size, 1, none⟩ (.int .u64 0)).setCell ⟨w.heap.size, 2, none⟩ (.int .u64 0)).setCell ⟨w.heap.size, 3, none⟩ (.int .u64 0)).cell? ⟨w.heap.size, 2, none⟩ = some (.int .u64 0) := HS.cell 2
  have jg3 : ((((w5.setCell ⟨w.heap.size, 0, none⟩ (.int .u64 0)).setCell ⟨w.heap.size, 1, none⟩ (.int .u64 0)).setCell ⟨w.heap.size, 2, none⟩ (.int .u64 0)).setCell ⟨w.heap.size, 3, none⟩ (.int .u64 0)).cell? ⟨w.heap.size, 3, none⟩ = some (.int .u64 0) := HS.cell 3
  refine bodyPost_ret (v := .tuple #[.agg #[.int .u64 0, .int .u64 0, .int .u64 0, .int .u64 0], .bool false]) (by simp [results, Tryz.results23, go_sem, jg0, jg1, jg2, jg3]) rfl ⟨rfl, b⟩

set_option maxRecDepth 100000 in
set_option maxHeartbeats 8000000 in
theorem rof_b_ok (n p sz nb s0 s1 s2 s3 : Nat) (u : Int) (w : World) (_hn : n < 4294967296) (_hp : p < 8388608) (_hsz : sz < 256) (_hnb : nb ≤ 256) (_hu0 : 0 ≤ u) (_hu1 : u ≤ 2016) (hs : (n : Int) / 16777216 = (sz : Int)) (hb : bits BinOp.and IntKind.u32 (n : Int) 8388607 = (p : Int))
    (call1 : RUpZ p 0 0 0 u s0 s1 s2 s3) (h3 : decide ((sz : Int) < 3) = false) (hu : 8 * ((sz : Int) - 3) = u) (bt : RBitsIs p 0 0 0 nb) (hfar : decide ((256 : Int) < (nb : Int) + u) = false) (ez : EqZ s0 s1 s2 s3 false) (hsg : (bits BinOp.and IntKind.u32 (n : Int) 8388608 != 0) = false) :
    Calls Tryz.prog 23 #[.int .u32 (n : Nat)] w fun e w' => e = .returned (.tuple #[.agg #[.int .u64 (s0 : Nat), .int .u64 (s1 : Nat), .int .u64 (s2 : Nat), .int .u64 (s3 : Nat)], .bool true]) ∧ Below w.heap.size w w' := by
  have CALL1 := Lib.hid call1
  have BT := Lib.hid bt
  have HFAR := Lib.hid hfar
  clear call1 bt hfar
  unfold EqZ at ez
  go_enter Tryz.func23, Tryz.ntmps23
  go_wp2_with fail
  refine (refof p _).mono ?_
  rintro e w1 ⟨rfl, h1⟩
  have PB : Below w.heap.size w w1 := ((Below.refl _ _).alloc (Nat.le_refl _) _).trans (h1.mono (by simp))
  have HR := (Holds.new w #[.int .u64 0, .int .u64 0, .int .u64 0, .int .u64 0] 51).later h1
  have lR := HR.lt
  clear h1
  have HPB := Lib.hid PB
  clear PB
  go_wp2_with fail
  have PB := (HPB.out.alloc (Nat.le_of_lt lR) (.cells #[.int .u64 (p : Nat), .int .u64 0, .int .u64 0, .int .u64 0] 51)).alloc (by simp; omega) (.cells #[.int .u64 0, .int .u64 0, .int .u64 0, .int .u64 0] 51)
  have HR2 := (HR.later ((Below.refl _ _).alloc (Nat.le_refl _) (.cells #[.int .u64 (p : Nat), .int .u64 0, .int .u64 0, .int .u64 0] 51))).later ((Below.refl _ _).alloc (Nat.le_refl _) (.cells #[.int .u64 0, .int .u64 0, .int .u64 0, .int .u64 0] 51))
  have HP := (Holds.new w1 #[.int .u64 (p : Nat), .int .u64 0, .int .u64 0, .int .u64 0] 51).later ((Below.refl _ _).alloc (Nat.le_refl _) (.cells #[.int .u64 0, .int .u64 0, .int .u64 0, .int .u64 0] 51))
  have HT : Holds ((w1.alloc (.cells #[.int .u64 (p : Nat), .int .u64 0, .int .u64 0, .int .u64 0] 51)).alloc (.cells #[.int .u64 0, .int .u64 0, .int .u64 0, .int .u64 0] 51)) (w1.heap.size + 1) #[.int .u64 0, .int .u64 0, .int .u64 0, .int .u64 0] 51 := by have := Holds.new (w1.alloc (.cells #[.int .u64 (p : Nat), .int .u64 0, .int .u64 0, .int .u64 0] 51)) #[.int .u64 0, .int .u64 0, .int .u64 0, .int .u64 0] 51; simpa using this
  have nRT : w1.heap.size + 1 ≠ w.heap.size := by omega
  have nPT : w1.heap.size + 1 ≠ w1.heap.size := by omega
  have lT : w.heap.size ≤ w1.heap.size + 1 := by omega
  clear HR HPB lR
  generalize (w1.alloc (.cells #[.int .u64 (p : Nat), .int .u64 0, .int .u64 0, .int .u64 0] 51)).alloc (.cells #[.int .u64 0, .int .u64 0, .int .u64 0, .int .u64 0] 51) = W2 at *
  generalize w1.heap.size + 1 = Bt at *
  generalize w1.heap.size = Bp at *
  refine (CALL1.out.word _).mono ?_
  rintro e w3 ⟨rfl, hc⟩
  replace HR2 := HR2.later hc
  replace HP := HP.later hc
  replace HT := HT.later hc
  have PC := below_step PB hc
  clear PB hc
  have HPB := Lib.hid PC
  clear PC
  have tc0 : w3.cell? ⟨Bt, 0, none⟩ = some (.int .u64 0) := HT.cell 0
  have tz0 : w3.frozen? ⟨Bt, 0, none⟩ = false := HT.free 0
  have tc1 : w3.cell? ⟨Bt, 1, none⟩ = some (.int .u64 0) := HT.cell 1
  have tz1 : w3.frozen? ⟨Bt, 1, none⟩ = false := HT.free 1
  have tc2 : w3.cell? ⟨Bt, 2, none⟩ = some (.int .u64 0) := HT.cell 2
  have tz2 : w3.frozen? ⟨Bt, 2, none⟩ = false := HT.free 2
  have tc3 : w3.cell? ⟨Bt, 3, none⟩ = some (.int .u64 0) := HT.cell 3
  have tz3 : w3.frozen? ⟨Bt, 3, none⟩ = false := HT.free 3
  have pc0 : w3.cell? ⟨Bp, 0, none⟩ = some (.int .u64 (p : Nat)) := HP.cell 0
  have pz0 : w3.frozen? ⟨Bp, 0, none⟩ = false := HP.free 0
  have pc1 : w3.cell? ⟨Bp, 1, none⟩ = some (.int .u64 0) := HP.cell 1
  have pz1 : w3.frozen? ⟨Bp, 1, none⟩ = false := HP.free 1
  have pc2 : w3.cell? ⟨Bp, 2, none⟩ = some (.int .u64 0) := HP.cell 2
  have pz2 : w3.frozen? ⟨Bp, 2, none⟩ = false := HP.free 2
  have pc3 : w3.cell? ⟨Bp, 3, none⟩ = some (.int .u64 0) := HP.cell 3
  have pz3 : w3.frozen? ⟨Bp, 3, none⟩ = false := HP.free 3
  go_wp2_with fail
  have PB := (((HPB.out.setCell (p := ⟨Bt, 0, none⟩) lT (.int .u64 (s0 : Nat))).setCell (p := ⟨Bt, 1, none⟩) lT (.int .u64 (s1 : Nat))).setCell (p := ⟨Bt, 2, none⟩) lT (.int .u64 (s2 : Nat))).setCell (p := ⟨Bt, 3, none⟩) lT (.int .u64 (s3 : Nat))
  have HT2 : Holds ((((w3.setCell ⟨Bt, 0, none⟩ (.int .u64 (s0 : Nat))).setCell ⟨Bt, 1, none⟩ (.int .u64 (s1 : Nat))).setCell ⟨Bt, 2, none⟩ (.int .u64 (s2 : Nat))).setCell ⟨Bt, 3, none⟩ (.int .u64 (s3 : Nat))) Bt #[.int .u64 (s0 : Nat), .int .u64 (s1 : Nat), .int .u64 (s2 : Nat), .int .u64 (s3 : Nat)] 51 := (((HT.set _).set _).set _).set _
  have HP2 := ((((HP.other (q := 0) nPT (.int .u64 (s0 : Nat))).other (q := 1) nPT (.int .u64 (s1 : Nat))).other (q := 2) nPT (.int .u64 (s2 : Nat))).other (q := 3) nPT (.int .u64 (s3 : Nat)))
  have HR3 := ((((HR2.other (q := 0) nRT (.int .u64 (s0 : Nat))).other (q := 1) nRT (.int .u64 (s1 : Nat))).other (q := 2) nRT (.int .u64 (s2 : Nat))).other (q := 3) nRT (.int .u64 (s3 : Nat)))
  clear tc0 tz0 tc1 tz1 tc2 tz2 tc3 tz3 pc0 pz0 pc1 pz1 pc2 pz2 pc3 pz3 HT HP HR2 HPB
  generalize (((w3.setCell ⟨Bt, 0, none⟩ (.int .u64 (s0 : Nat))).setCell ⟨Bt, 1, none⟩ (.int .u64 (s1 : Nat))).setCell ⟨Bt, 2, none⟩ (.int .u64 (s2 : Nat))).setCell ⟨Bt, 3, none⟩ (.int .u64 (s3 : Nat)) = W4 at *
  refine (BT.out.word _).mono ?_
  rintro e w5 ⟨rfl, hc⟩
  replace HR3 := HR3.later hc
  replace HP2 := HP2.later hc
  replace HT2 := HT2.later hc
  have PC := below_step PB hc
  clear PB hc
  have HPB := Lib.hid PC
  clear PC
  have hfar := HFAR.out
  have tc0 : w5.cell? ⟨Bt, 0, none⟩ = some (.int .u64 (s0 : Nat)) := HT2.cell 0
  have tz0 : w5.frozen? ⟨Bt, 0, none⟩ = false := HT2.free 0
  have tc1 : w5.cell? ⟨Bt, 1, none⟩ = some (.int .u64 (s1 : Nat)) := HT2.cell 1
  have tz1 : w5.frozen? ⟨Bt, 1, none⟩ = false := HT2.free 1
  have tc2 : w5.cell? ⟨Bt, 2, none⟩ = some (.int .u64 (s2 : Nat)) := HT2.cell 2
  have tz2 : w5.frozen? ⟨Bt, 2, none⟩ = false := HT2.free 2
  have tc3 : w5.cell? ⟨Bt, 3, none⟩ = some (.int .u64 (s3 : Nat)) := HT2.cell 3
  have tz3 : w5.frozen? ⟨Bt, 3, none⟩ = false := HT2.free 3
  have pc0 : w5.cell? ⟨Bp, 0, none⟩ = some (.int .u64 (p : Nat)) := HP2.cell 0
  have pz0 : w5.frozen? ⟨Bp, 0, none⟩ = false := HP2.free 0
  have pc1 : w5.cell? ⟨Bp, 1, none⟩ = some (.int .u64 0) := HP2.cell 1
  have pz1 : w5.frozen? ⟨Bp, 1, none⟩ = false := HP2.free 1
  have pc2 : w5.cell? ⟨Bp, 2, none⟩ = some (.int .u64 0) := HP2.cell 2
  have pz2 : w5.frozen? ⟨Bp, 2, none⟩ = false := HP2.free 2
  have pc3 : w5.cell? ⟨Bp, 3, none⟩ = some (.int .u64 0) := HP2.cell 3
  have pz3 : w5.frozen? ⟨Bp, 3, none⟩ = false := HP2.free 3
  have rc0 : w5.cell? ⟨w.heap.size, 0, none⟩ = some (.int .u64 0) := HR3.cell 0
  have rz0 : w5.frozen? ⟨w.heap.size, 0, none⟩ = false := HR3.free 0
  have rc1 : w5.cell? ⟨w.heap.size, 1, none⟩ = some (.int .u64 0) := HR3.cell 1
  have rz1 : w5.frozen? ⟨w.heap.size, 1, none⟩ = false := HR3.free 1
  have rc2 : w5.cell? ⟨w.heap.size, 2, none⟩ = some (.int .u64 0) := HR3.cell 2
  have rz2 : w5.frozen? ⟨w.heap.size, 2, none⟩ = false := HR3.free 2
  have rc3 : w5.cell? ⟨w.heap.size, 3, none⟩ = some (.int .u64 0) := HR3.cell 3
  have rz3 : w5.frozen? ⟨w.heap.size, 3, none⟩ = false := HR3.free 3
  go_wp2_with fail
  have b := ((((HPB.out).setCell (p := ⟨w.heap.size, 0, none⟩) (Nat.le_refl _) (.int .u64 (s0 : Nat))).setCell (p := ⟨w.heap.size, 1, none⟩) (Nat.le_refl _) (.int .u64 (s1 : Nat))).setCell (p := ⟨w.heap.size, 2, none⟩) (Nat.le_refl _) (.int .u64 (s2 : Nat))).setCell (p := ⟨w.heap.size, 3, none⟩) (Nat.le_refl _) (.int .u64 (s3 : Nat))
  have HS : Holds ((((w5.setCell ⟨w.heap.size, 0, none⟩ (.int .u64 (s0 : Nat))).setCell ⟨w.heap.size, 1, none⟩ (.int .u64 (s1 : Nat))).setCell ⟨w.heap.size, 2, none⟩ (.int .u64 (s2 : Nat))).setCell ⟨w.heap.size, 3, none⟩ (.int .u64 (s3 : Nat))) w.heap.size #[.int .u64 (s0 : Nat), .int .u64 (s1 : Nat), .int .u64 (s2 : Nat), .int .u64 (s3 : Nat)] 51 := ((((HR3).set _).set _).set _).set _
  have jg0 : ((((w5.setCell ⟨w.heap.size, 0, none⟩ (.int .u64 (s0 : Nat))).setCell ⟨w.heap.size, 1, none⟩ (.int .u64 (s1 : Nat))).setCell ⟨w.heap.size, 2, none⟩ (.int .u64 (s2 : Nat))).setCell ⟨w.heap.size, 3, none⟩ (.int .u64 (s3 : Nat))).cell? ⟨w.heap.size, 0, none⟩ = some (.int .u64 (s0 : Nat)) := HS.cell 0
  have jg1 : ((((w5.setCell ⟨w.heap.size, 0, none⟩ (.int .u64 (s0 : Nat))).setCell ⟨w.heap.size, 1, none⟩ (.int .u64 (s1 : Nat))).setCell ⟨w.heap.size, 2, none⟩ (.int .u64 (s2 : Nat))).setCell ⟨w.heap.size, 3, none⟩ (.int .u64 (s3 : Nat))).cell? ⟨w.heap.size, 1, none⟩ = some (.int .u64 (s1 : Nat)) := HS.cell 1
  have jg2 : ((((w5.setCell ⟨w.heap.size, 0, none⟩ (.int .u64 (s0 : Nat))).setCell ⟨w.heap.size, 1, none⟩ (.int .u64 (s1 : Nat))).setCell ⟨w.heap.size, 2, none⟩ (.int .u64 (s2 : Nat))).setCell ⟨w.heap.size, 3, none⟩ (.int .u64 (s3 : Nat))).cell? ⟨w.heap.size, 2, none⟩ = some (.int .u64 (s2 : Nat)) := HS.cell 2
  have jg3 : ((((w5.setCell ⟨w.heap.size, 0, none⟩ (.int .u64 (s0 : Nat))).setCell ⟨w.heap.size, 1, none⟩ (.int .u64 (s1 : Nat))).setCell ⟨w.heap.size, 2, none⟩ (.int .u64 (s2 : Nat))).setCell ⟨w.heap.size, 3, none⟩ (.int .u64 (s3 : Nat))).cell? ⟨w.heap.size, 3, none⟩ = some (.int .u64 (s3 : Nat)) := HS.cell 3
  refine bodyPost_ret (v := .tuple #[.agg #[.int .u64 (s0 : Nat), .int .u64 (s1 : Nat), .int .u64 (s2 : Nat), .int .u64 (s3 : Nat)], .bool true]) (by simp [results, Tryz.results23, go_sem, jg0, jg1, jg2, jg3]) rfl ⟨rfl, b⟩

end Go.Proofs.YtimjmmiajgfblaaGreatDoor.Bg
