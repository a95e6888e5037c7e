/- Of of the document's answers of layer 3 at any compact bits: as the package target's. No condition. -/
import Derived.Test.YtimjmmiajgfblaaGreatDoorGbc

namespace Go.Proofs.YtimjmmiajgfblaaGreatDoor.Bg
set_option maxRecDepth 100000
open Go.RowKit

def RTOfIs (n s0 s1 s2 s3 : Nat) (o : Bool) : Prop := ∀ w : World, Calls Tryz.prog 23 #[.int .u32 (n : Nat)] w fun e w' => e = .returned (.tuple #[.agg #[.int .u64 (s0 : Nat), .int .u64 (s1 : Nat), .int .u64 (s2 : Nat), .int .u64 (s3 : Nat)], .bool o]) ∧ Below w.heap.size w w'
theorem rbitsAt {a0 a1 a2 a3 nb : Nat} (ha : Words a0 a1 a2 a3) (hn : BitsOf (val a0 a1 a2 a3) nb) : RBitsIs a0 a1 a2 a3 nb := fun w => refbits_any ha hn w

theorem rtofIs {n s0 s1 s2 s3 : Nat} (hn : n < 4294967296) (hs : Words s0 s1 s2 s3) (o : Bool) (ho : o = decide (okOf n)) (h : val s0 s1 s2 s3 = if okOf n then tvOf n * 2 ^ upOf n else 0) : RTOfIs n s0 s1 s2 s3 o := by
  intro w
  have hp : n % 8388608 < 8388608 := Nat.mod_lt _ (by omega)
  have hb : bits BinOp.and IntKind.u32 (n : Int) 8388607 = ((n % 8388608 : Nat) : Int) := by
    have := bits_and32 n 8388607 hn (by omega)
    rw [show (8388607 : Nat) = 2 ^ 23 - 1 by decide, Nat.and_two_pow_sub_one_eq_mod] at this
    exact this
  have hsg : (bits BinOp.and IntKind.u32 (n : Int) 8388608 != 0) = decide (n / 8388608 % 2 ≠ 0) := by
    have := bits_and32 n 8388608 hn (by omega)
    have e : bits BinOp.and IntKind.u32 (n : Int) 8388608 = ((n &&& 8388608 : Nat) : Int) := this
    have k := and_sign n
    rw [e, Bool.eq_iff_iff, bne_iff_ne, decide_eq_true_iff]
    clear this e hb
    generalize n &&& 8388608 = q at *
    omega
  have wp : Words (n % 8388608) 0 0 0 := ⟨by omega, by omega, by omega, by omega⟩
  have vp : val (n % 8388608) 0 0 0 = n % 8388608 := by unfold val; omega
  obtain ⟨sz, hsz⟩ : ∃ sz, sz = n / 16777216 := ⟨_, rfl⟩
  have sg0 : n / 8388608 % 2 = 0 → (bits BinOp.and IntKind.u32 (n : Int) 8388608 != 0) = false := fun g => by rw [hsg]; exact decide_eq_false (fun k => k g)
  have sg1 : ¬ n / 8388608 % 2 = 0 → (bits BinOp.and IntKind.u32 (n : Int) 8388608 != 0) = true := fun g => by rw [hsg]; exact decide_eq_true g
  have none : ¬ okOf n → s0 = 0 ∧ s1 = 0 ∧ s2 = 0 ∧ s3 = 0 ∧ o = false := fun no => by
    rw [if_neg no] at h
    obtain ⟨e0, e1, e2, e3⟩ := zero_words h
    exact ⟨e0, e1, e2, e3, by rw [ho]; exact decide_eq_false no⟩
  by_cases small : sz < 3
  · obtain ⟨u, hu⟩ : ∃ u : Int, u = 8 * (3 - (sz : Int)) := ⟨_, rfl⟩
    have tv : tvOf n = n % 8388608 / 2 ^ (8 * (3 - sz)) := by unfold tvOf; rw [← hsz, if_pos small]
    have up0 : upOf n = 0 := by unfold upOf; omega
    have tl : tvOf n < 8388608 := by rw [tv]; exact Nat.lt_of_le_of_lt (Nat.div_le_self _ _) hp
    obtain ⟨t0, t1, t2, t3, wt, et⟩ := words_of (x := tvOf n) (by omega)
    have c1 : RDownZ (n % 8388608) 0 0 0 u t0 t1 t2 t3 := rdownZ wp u (by omega) wt (by rw [et, vp, tv, show u.toNat = 8 * (3 - sz) by omega])
    have h3 : decide ((sz : Int) < 3) = true := decide_eq_true (by omega)
    by_cases z : tvOf n = 0
    · obtain ⟨rfl, rfl, rfl, rfl, rfl⟩ := none (fun k => k.1 z)
      exact rof_s_z n _ sz 0 t0 t1 t2 t3 u w hn hp (by omega) (by omega) (by omega) (by omega) (by omega) hb c1 h3 hu.symm (eqZ wt true (by symm; rw [decide_eq_true_iff, et]; exact z))
    · have ez := eqZ wt false (by symm; rw [decide_eq_false_iff_not, et]; exact z)
      by_cases g : n / 8388608 % 2 = 0
      · have yes : okOf n := ⟨z, g, by rw [up0, Nat.pow_zero, Nat.mul_one]; omega⟩
        rw [if_pos yes, up0, Nat.pow_zero, Nat.mul_one, ← et] at h
        obtain ⟨rfl, rfl, rfl, rfl⟩ := val_inj hs wt h
        rw [ho, decide_eq_true yes]
        exact rof_s_ok n _ sz 0 s0 s1 s2 s3 u w hn hp (by omega) (by omega) (by omega) (by omega) (by omega) hb c1 h3 hu.symm ez (sg0 g)
      · obtain ⟨rfl, rfl, rfl, rfl, rfl⟩ := none (fun k => g k.2.1)
        exact rof_s_g n _ sz 0 t0 t1 t2 t3 u w hn hp (by omega) (by omega) (by omega) (by omega) (by omega) hb c1 h3 hu.symm ez (sg1 g)
  · obtain ⟨u, hu⟩ : ∃ u : Int, u = 8 * ((sz : Int) - 3) := ⟨_, rfl⟩
    have tv : tvOf n = n % 8388608 := by unfold tvOf; rw [← hsz, if_neg small]
    have upu : u.toNat = upOf n := by unfold upOf; omega
    obtain ⟨t0, t1, t2, t3, wt, et⟩ := words_of (x := tvOf n * 2 ^ upOf n % 115792089237316195423570985008687907853269984665640564039457584007913129639936) (Nat.mod_lt _ (by decide))
    have c1 : RUpZ (n % 8388608) 0 0 0 u t0 t1 t2 t3 := rupZ wp u (by omega) wt (by rw [et, vp, tv, upu])
    have h3 : decide ((sz : Int) < 3) = false := decide_eq_false (by omega)
    have np := bits4_of wp
    generalize bits4 (Lib.bitLen (n % 8388608)) (Lib.bitLen 0) (Lib.bitLen 0) (Lib.bitLen 0) (n % 8388608) 0 0 0 = nb at *
    have bt := rbitsAt wp np
    rw [vp] at np
    have n23 := np.le (m := 23) (by rw [show (2 : Nat) ^ 23 = 8388608 by decide]; exact hp)
    by_cases f : 256 < (nb : Int) + u
    · by_cases p0 : n % 8388608 = 0
      · obtain ⟨rfl, rfl, rfl, rfl, rfl⟩ := none (fun k => k.1 (by rw [tv]; exact p0))
        exact rof_b_farz n _ sz nb t0 t1 t2 t3 u w hn hp (by omega) (by omega) (by omega) (by omega) (by omega) hb c1 h3 hu.symm bt (decide_eq_true f) (eqZ wp true (by symm; rw [decide_eq_true_iff, vp]; exact p0)) (eqZ wt true (by symm; rw [decide_eq_true_iff, et, tv, p0, Nat.zero_mul]))
      · have key := np.up_lt (u := upOf n) p0
        obtain ⟨rfl, rfl, rfl, rfl, rfl⟩ := none (fun k => by have := k.2.2; rw [tv] at this; have := key.1 this; omega)
        exact rof_b_far n _ sz nb t0 t1 t2 t3 u w hn hp (by omega) (by omega) (by omega) (by omega) (by omega) hb c1 h3 hu.symm bt (decide_eq_true f) (eqZ wp false (by symm; rw [decide_eq_false_iff_not, vp]; exact p0))
    · have room : tvOf n * 2 ^ upOf n < 115792089237316195423570985008687907853269984665640564039457584007913129639936 := by
        rw [tv]
        by_cases p0 : n % 8388608 = 0
        · rw [p0, Nat.zero_mul]; decide
        · exact (np.up_lt (u := upOf n) p0).2 (by omega)
      rw [Nat.mod_eq_of_lt room] at et
      by_cases z : tvOf n = 0
      · obtain ⟨rfl, rfl, rfl, rfl, rfl⟩ := none (fun k => k.1 z)
        exact rof_b_z n _ sz nb t0 t1 t2 t3 u w hn hp (by omega) (by omega) (by omega) (by omega) (by omega) hb c1 h3 hu.symm bt (decide_eq_false f) (eqZ wt true (by symm; rw [decide_eq_true_iff, et, z, Nat.zero_mul]))
      · have ez := eqZ wt false (by symm; rw [decide_eq_false_iff_not, et]; exact Nat.mul_ne_zero z (by have := Nat.two_pow_pos (upOf n); omega))
        by_cases g : n / 8388608 % 2 = 0
        · have yes : okOf n := ⟨z, g, room⟩
          rw [if_pos yes, ← et] at h
          obtain ⟨rfl, rfl, rfl, rfl⟩ := val_inj hs wt h
          rw [ho, decide_eq_true yes]
          exact rof_b_ok n _ sz nb s0 s1 s2 s3 u w hn hp (by omega) (by omega) (by omega) (by omega) (by omega) hb c1 h3 hu.symm bt (decide_eq_false f) ez (sg0 g)
        · obtain ⟨rfl, rfl, rfl, rfl, rfl⟩ := none (fun k => g k.2.1)
          exact rof_b_g n _ sz nb t0 t1 t2 t3 u w hn hp (by omega) (by omega) (by omega) (by omega) (by omega) hb c1 h3 hu.symm bt (decide_eq_false f) ez (sg1 g)

set_option maxHeartbeats 1000000 in
theorem rcom_zero (a0 a1 a2 a3 : Nat) (w : World) (ez : EqZ a0 a1 a2 a3 true) : Calls Tryz.prog 24 #[.agg #[.int .u64 (a0 : Nat), .int .u64 (a1 : Nat), .int .u64 (a2 : Nat), .int .u64 (a3 : Nat)]] w fun e w' => e = .returned (.int .u32 0) ∧ Below w.heap.size w w' := by
  unfold EqZ at ez
  go_enter Tryz.func24, Tryz.ntmps24
  go_wp2_with fail
  go_ret
  refine ⟨rfl, ?_⟩
  go_grown
set_option maxRecDepth 100000 in
set_option maxHeartbeats 8000000 in
theorem rcom_s_t (a0 a1 a2 a3 r0 r1 r2 r3 v0 v1 v2 v3 nb sz c : Nat) (u : Int) (w : World) (_hnb : nb ≤ 256) (_hsz1 : sz ≤ 32) (_hu0 : 0 ≤ u) (_hu1 : u ≤ 232) (_hr : r0 < 16777216) (_hv : v0 < 65536) (hsz : ((nb : Int) + 7) / 8 = (sz : Int))
    (ez : EqZ a0 a1 a2 a3 false) (bt : RBitsIs a0 a1 a2 a3 nb) (call1 : RUpZ a0 a1 a2 a3 u r0 r1 r2 r3) (h3 : decide ((sz : Int) < 3) = true) (hu : 8 * ((3 : Int) - (sz : Int)) = u) (hbig : decide ((8388608 : Int) ≤ (r0 : Int)) = true) (call2 : RDownZ r0 r1 r2 r3 8 v0 v1 v2 v3) (hc : bits BinOp.or IntKind.u32 (((sz : Int) + 1) * 16777216) (v0 : Int) = (c : Int)) :
    Calls Tryz.prog 24 #[.agg #[.int .u64 (a0 : Nat), .int .u64 (a1 : Nat), .int .u64 (a2 : Nat), .int .u64 (a3 : Nat)]] w fun e w' => e = .returned (.int .u32 (c : Nat)) ∧ Below w.heap.size w w' := by
  have BT := Lib.hid bt
  have CALL1 := Lib.hid call1
  have CALL2 := Lib.hid call2
  clear bt call1 call2
  unfold EqZ at ez
  go_enter Tryz.func24, Tryz.ntmps24
  go_wp2_with fail
  refine (BT.out _).mono ?_
  rintro e w1 ⟨rfl, h1⟩
  have PB : Below w.heap.size w w1 := ((Below.refl _ _).alloc (Nat.le_refl _) _).trans (h1.mono (by simp))
  have HA := (Holds.new w #[.int .u64 (a0 : Nat), .int .u64 (a1 : Nat), .int .u64 (a2 : Nat), .int .u64 (a3 : Nat)] 51).later h1
  have lA := HA.lt
  clear h1
  have ac0 : w1.cell? ⟨w.heap.size, 0, none⟩ = some (.int .u64 (a0 : Nat)) := HA.cell 0
  have az0 : w1.frozen? ⟨w.heap.size, 0, none⟩ = false := HA.free 0
  have ac1 : w1.cell? ⟨w.heap.size, 1, none⟩ = some (.int .u64 (a1 : Nat)) := HA.cell 1
  have az1 : w1.frozen? ⟨w.heap.size, 1, none⟩ = false := HA.free 1
  have ac2 : w1.cell? ⟨w.heap.size, 2, none⟩ = some (.int .u64 (a2 : Nat)) := HA.cell 2
  have az2 : w1.frozen? ⟨w.heap.size, 2, none⟩ = false := HA.free 2
  have ac3 : w1.cell? ⟨w.heap.size, 3, none⟩ = some (.int .u64 (a3 : Nat)) := HA.cell 3
  have az3 : w1.frozen? ⟨w.heap.size, 3, none⟩ = false := HA.free 3
  have HPB := Lib.hid PB
  clear PB
  go_wp2_with fail
  have PB := HPB.out.alloc (Nat.le_of_lt lA) (.cells #[.int .u64 0, .int .u64 0, .int .u64 0, .int .u64 0] 51)
  have HT := Holds.new w1 #[.int .u64 0, .int .u64 0, .int .u64 0, .int .u64 0] 51
  have lT : w.heap.size ≤ w1.heap.size := Nat.le_of_lt lA
  clear HPB lA ac0 az0 ac1 az1 ac2 az2 ac3 az3 HA
  generalize w1.alloc (.cells #[.int .u64 0, .int .u64 0, .int .u64 0, .int .u64 0] 51) = W2 at *
  generalize w1.heap.size = Bt at *
  refine (CALL1.out _).mono ?_
  rintro e w3 ⟨rfl, hc'⟩
  replace HT := HT.later hc'
  have PC := below_step PB hc'
  clear PB hc'
  have HPB := Lib.hid PC
  clear PC
  have tc0 : w3.cell? ⟨Bt, 0, none⟩ = some (.int .u64 0) := HT.cell 0
  have tz0 : w3.frozen? ⟨Bt, 0, none⟩ = false := HT.free 0
  have tc1 : w3.cell? ⟨Bt, 1, none⟩ = some (.int .u64 0) := HT.cell 1
  have tz1 : w3.frozen? ⟨Bt, 1, none⟩ = false := HT.free 1
  have tc2 : w3.cell? ⟨Bt, 2, none⟩ = some (.int .u64 0) := HT.cell 2
  have tz2 : w3.frozen? ⟨Bt, 2, none⟩ = false := HT.free 2
  have tc3 : w3.cell? ⟨Bt, 3, none⟩ = some (.int .u64 0) := HT.cell 3
  have tz3 : w3.frozen? ⟨Bt, 3, none⟩ = false := HT.free 3
  go_wp2_with fail
  have PB := (((HPB.out.setCell (p := ⟨Bt, 0, none⟩) lT (.int .u64 (r0 : Nat))).setCell (p := ⟨Bt, 1, none⟩) lT (.int .u64 (r1 : Nat))).setCell (p := ⟨Bt, 2, none⟩) lT (.int .u64 (r2 : Nat))).setCell (p := ⟨Bt, 3, none⟩) lT (.int .u64 (r3 : Nat))
  have HT2 : Holds ((((w3.setCell ⟨Bt, 0, none⟩ (.int .u64 (r0 : Nat))).setCell ⟨Bt, 1, none⟩ (.int .u64 (r1 : Nat))).setCell ⟨Bt, 2, none⟩ (.int .u64 (r2 : Nat))).setCell ⟨Bt, 3, none⟩ (.int .u64 (r3 : Nat))) Bt #[.int .u64 (r0 : Nat), .int .u64 (r1 : Nat), .int .u64 (r2 : Nat), .int .u64 (r3 : Nat)] 51 := (((HT.set _).set _).set _).set _
  clear tc0 tz0 tc1 tz1 tc2 tz2 tc3 tz3 HT HPB
  generalize (((w3.setCell ⟨Bt, 0, none⟩ (.int .u64 (r0 : Nat))).setCell ⟨Bt, 1, none⟩ (.int .u64 (r1 : Nat))).setCell ⟨Bt, 2, none⟩ (.int .u64 (r2 : Nat))).setCell ⟨Bt, 3, none⟩ (.int .u64 (r3 : Nat)) = W4 at *
  refine (CALL2.out _).mono ?_
  rintro e w5 ⟨rfl, hc'⟩
  replace HT2 := HT2.later hc'
  have PC := below_step PB hc'
  clear PB hc'
  have HPB := Lib.hid PC
  clear PC
  have tc0 : w5.cell? ⟨Bt, 0, none⟩ = some (.int .u64 (r0 : Nat)) := HT2.cell 0
  have tz0 : w5.frozen? ⟨Bt, 0, none⟩ = false := HT2.free 0
  have tc1 : w5.cell? ⟨Bt, 1, none⟩ = some (.int .u64 (r1 : Nat)) := HT2.cell 1
  have tz1 : w5.frozen? ⟨Bt, 1, none⟩ = false := HT2.free 1
  have tc2 : w5.cell? ⟨Bt, 2, none⟩ = some (.int .u64 (r2 : Nat)) := HT2.cell 2
  have tz2 : w5.frozen? ⟨Bt, 2, none⟩ = false := HT2.free 2
  have tc3 : w5.cell? ⟨Bt, 3, none⟩ = some (.int .u64 (r3 : Nat)) := HT2.cell 3
  have tz3 : w5.frozen? ⟨Bt, 3, none⟩ = false := HT2.free 3
  go_wp2_with fail
  have b := (((HPB.out.setCell (p := ⟨Bt, 0, none⟩) lT (.int .u64 (v0 : Nat))).setCell (p := ⟨Bt, 1, none⟩) lT (.int .u64 (v1 : Nat))).setCell (p := ⟨Bt, 2, none⟩) lT (.int .u64 (v2 : Nat))).setCell (p := ⟨Bt, 3, none⟩) lT (.int .u64 (v3 : Nat))
  go_ret
  exact ⟨rfl, b⟩

set_option maxRecDepth 100000 in
set_option maxHeartbeats 8000000 in
theorem rcom_s_f (a0 a1 a2 a3 r0 r1 r2 r3 nb sz c : Nat) (u : Int) (w : World) (_hnb : nb ≤ 256) (_hsz1 : sz ≤ 32) (_hu0 : 0 ≤ u) (_hu1 : u ≤ 232) (_hr : r0 < 16777216) (hsz : ((nb : Int) + 7) / 8 = (sz : Int))
    (ez : EqZ a0 a1 a2 a3 false) (bt : RBitsIs a0 a1 a2 a3 nb) (call1 : RUpZ a0 a1 a2 a3 u r0 r1 r2 r3) (h3 : decide ((sz : Int) < 3) = true) (hu : 8 * ((3 : Int) - (sz : Int)) = u) (hbig : decide ((8388608 : Int) ≤ (r0 : Int)) = false) (hc : bits BinOp.or IntKind.u32 ((sz : Int) * 16777216) (r0 : Int) = (c : Int)) :
    Calls Tryz.prog 24 #[.agg #[.int .u64 (a0 : Nat), .int .u64 (a1 : Nat), .int .u64 (a2 : Nat), .int .u64 (a3 : Nat)]] w fun e w' => e = .returned (.int .u32 (c : Nat)) ∧ Below w.heap.size w w' := by
  have BT := Lib.hid bt
  have CALL1 := Lib.hid call1
  clear bt call1
  unfold EqZ at ez
  go_enter Tryz.func24, Tryz.ntmps24
  go_wp2_with fail
  refine (BT.out _).mono ?_
  rintro e w1 ⟨rfl, h1⟩
  have PB : Below w.heap.size w w1 := ((Below.refl _ _).alloc (Nat.le_refl _) _).trans (h1.mono (by simp))
  have HA := (Holds.new w #[.int .u64 (a0 : Nat), .int .u64 (a1 : Nat), .int .u64 (a2 : Nat), .int .u64 (a3 : Nat)] 51).later h1
  have lA := HA.lt
  clear h1
  have ac0 : w1.cell? ⟨w.heap.size, 0, none⟩ = some (.int .u64 (a0 : Nat)) := HA.cell 0
  have az0 : w1.frozen? ⟨w.heap.size, 0, none⟩ = false := HA.free 0
  have ac1 : w1.cell? ⟨w.heap.size, 1, none⟩ = some (.int .u64 (a1 : Nat)) := HA.cell 1
  have az1 : w1.frozen? ⟨w.heap.size, 1, none⟩ = false := HA.free 1
  have ac2 : w1.cell? ⟨w.heap.size, 2, none⟩ = some (.int .u64 (a2 : Nat)) := HA.cell 2
  have az2 : w1.frozen? ⟨w.heap.size, 2, none⟩ = false := HA.free 2
  have ac3 : w1.cell? ⟨w.heap.size, 3, none⟩ = some (.int .u64 (a3 : Nat)) := HA.cell 3
  have az3 : w1.frozen? ⟨w.heap.size, 3, none⟩ = false := HA.free 3
  have HPB := Lib.hid PB
  clear PB
  go_wp2_with fail
  have PB := HPB.out.alloc (Nat.le_of_lt lA) (.cells #[.int .u64 0, .int .u64 0, .int .u64 0, .int .u64 0] 51)
  have HT := Holds.new w1 #[.int .u64 0, .int .u64 0, .int .u64 0, .int .u64 0] 51
  have lT : w.heap.size ≤ w1.heap.size := Nat.le_of_lt lA
  clear HPB lA ac0 az0 ac1 az1 ac2 az2 ac3 az3 HA
  generalize w1.alloc (.cells #[.int .u64 0, .int .u64 0, .int .u64 0, .int .u64 0] 51) = W2 at *
  generalize w1.heap.size = Bt at *
  refine (CALL1.out _).mono ?_
  rintro e w3 ⟨rfl, hc'⟩
  replace HT := HT.later hc'
  have PC := below_step PB hc'
  clear PB hc'
  have HPB := Lib.hid PC
  clear PC
  have tc0 : w3.cell? ⟨Bt, 0, none⟩ = some (.int .u64 0) := HT.cell 0
  have tz0 : w3.frozen? ⟨Bt, 0, none⟩ = false := HT.free 0
  have tc1 : w3.cell? ⟨Bt, 1, none⟩ = some (.int .u64 0) := HT.cell 1
  have tz1 : w3.frozen? ⟨Bt, 1, none⟩ = false := HT.free 1
  have tc2 : w3.cell? ⟨Bt, 2, none⟩ = some (.int .u64 0) := HT.cell 2
  have tz2 : w3.frozen? ⟨Bt, 2, none⟩ = false := HT.free 2
  have tc3 : w3.cell? ⟨Bt, 3, none⟩ = some (.int .u64 0) := HT.cell 3
  have tz3 : w3.frozen? ⟨Bt, 3, none⟩ = false := HT.free 3
  go_wp2_with fail
  have b := (((HPB.out.setCell (p := ⟨Bt, 0, none⟩) lT (.int .u64 (r0 : Nat))).setCell (p := ⟨Bt, 1, none⟩) lT (.int .u64 (r1 : Nat))).setCell (p := ⟨Bt, 2, none⟩) lT (.int .u64 (r2 : Nat))).setCell (p := ⟨Bt, 3, none⟩) lT (.int .u64 (r3 : Nat))
  go_ret
  exact ⟨rfl, b⟩

set_option maxRecDepth 100000 in
set_option maxHeartbeats 8000000 in
theorem rcom_b_t (a0 a1 a2 a3 r0 r1 r2 r3 v0 v1 v2 v3 nb sz c : Nat) (u : Int) (w : World) (_hnb : nb ≤ 256) (_hsz1 : sz ≤ 32) (_hu0 : 0 ≤ u) (_hu1 : u ≤ 232) (_hr : r0 < 16777216) (_hv : v0 < 65536) (hsz : ((nb : Int) + 7) / 8 = (sz : Int))
    (ez : EqZ a0 a1 a2 a3 false) (bt : RBitsIs a0 a1 a2 a3 nb) (call1 : RDownZ a0 a1 a2 a3 u r0 r1 r2 r3) (h3 : decide ((sz : Int) < 3) = false) (hu : 8 * ((sz : Int) - 3) = u) (hbig : decide ((8388608 : Int) ≤ (r0 : Int)) = true) (call2 : RDownZ r0 r1 r2 r3 8 v0 v1 v2 v3) (hc : bits BinOp.or IntKind.u32 (((sz : Int) + 1) * 16777216) (v0 : Int) = (c : Int)) :
    Calls Tryz.prog 24 #[.agg #[.int .u64 (a0 : Nat), .int .u64 (a1 : Nat), .int .u64 (a2 : Nat), .int .u64 (a3 : Nat)]] w fun e w' => e = .returned (.int .u32 (c : Nat)) ∧ Below w.heap.size w w' := by
  have BT := Lib.hid bt
  have CALL1 := Lib.hid call1
  have CALL2 := Lib.hid call2
  clear bt call1 call2
  unfold EqZ at ez
  go_enter Tryz.func24, Tryz.ntmps24
  go_wp2_with fail
  refine (BT.out _).mono ?_
  rintro e w1 ⟨rfl, h1⟩
  have PB : Below w.heap.size w w1 := ((Below.refl _ _).alloc (Nat.le_refl _) _).trans (h1.mono (by simp))
  have HA := (Holds.new w #[.int .u64 (a0 : Nat), .int .u64 (a1 : Nat), .int .u64 (a2 : Nat), .int .u64 (a3 : Nat)] 51).later h1
  have lA := HA.lt
  clear h1
  have ac0 : w1.cell? ⟨w.heap.size, 0, none⟩ = some (.int .u64 (a0 : Nat)) := HA.cell 0
  have az0 : w1.frozen? ⟨w.heap.size, 0, none⟩ = false := HA.free 0
  have ac1 : w1.cell? ⟨w.heap.size, 1, none⟩ = some (.int .u64 (a1 : Nat)) := HA.cell 1
  have az1 : w1.frozen? ⟨w.heap.size, 1, none⟩ = false := HA.free 1
  have ac2 : w1.cell? ⟨w.heap.size, 2, none⟩ = some (.int .u64 (a2 : Nat)) := HA.cell 2
  have az2 : w1.frozen? ⟨w.heap.size, 2, none⟩ = false := HA.free 2
  have ac3 : w1.cell? ⟨w.heap.size, 3, none⟩ = some (.int .u64 (a3 : Nat)) := HA.cell 3
  have az3 : w1.frozen? ⟨w.heap.size, 3, none⟩ = false := HA.free 3
  have HPB := Lib.hid PB
  clear PB
  go_wp2_with fail
  have PB := HPB.out.alloc (Nat.le_of_lt lA) (.cells #[.int .u64 0, .int .u64 0, .int .u64 0, .int .u64 0] 51)
  have HT := Holds.new w1 #[.int .u64 0, .int .u64 0, .int .u64 0, .int .u64 0] 51
  have lT : w.heap.size ≤ w1.heap.size := Nat.le_of_lt lA
  clear HPB lA ac0 az0 ac1 az1 ac2 az2 ac3 az3 HA
  generalize w1.alloc (.cells #[.int .u64 0, .int .u64 0, .int .u64 0, .int .u64 0] 51) = W2 at *
  generalize w1.heap.size = Bt at *
  refine (CALL1.out _).mono ?_
  rintro e w3 ⟨rfl, hc'⟩
  replace HT := HT.later hc'
  have PC := below_step PB hc'
  clear PB hc'
  have HPB := Lib.hid PC
  clear PC
  have tc0 : w3.cell? ⟨Bt, 0, none⟩ = some (.int .u64 0) := HT.cell 0
  have tz0 : w3.frozen? ⟨Bt, 0, none⟩ = false := HT.free 0
  have tc1 : w3.cell? ⟨Bt, 1, none⟩ = some (.int .u64 0) := HT.cell 1
  have tz1 : w3.frozen? ⟨Bt, 1, none⟩ = false := HT.free 1
  have tc2 : w3.cell? ⟨Bt, 2, none⟩ = some (.int .u64 0) := HT.cell 2
  have tz2 : w3.frozen? ⟨Bt, 2, none⟩ = false := HT.free 2
  have tc3 : w3.cell? ⟨Bt, 3, none⟩ = some (.int .u64 0) := HT.cell 3
  have tz3 : w3.frozen? ⟨Bt, 3, none⟩ = false := HT.free 3
  go_wp2_with fail
  have PB := (((HPB.out.setCell (p := ⟨Bt, 0, none⟩) lT (.int .u64 (r0 : Nat))).setCell (p := ⟨Bt, 1, none⟩) lT (.int .u64 (r1 : Nat))).setCell (p := ⟨Bt, 2, none⟩) lT (.int .u64 (r2 : Nat))).setCell (p := ⟨Bt, 3, none⟩) lT (.int .u64 (r3 : Nat))
  have HT2 : Holds ((((w3.setCell ⟨Bt, 0, none⟩ (.int .u64 (r0 : Nat))).setCell ⟨Bt, 1, none⟩ (.int .u64 (r1 : Nat))).setCell ⟨Bt, 2, none⟩ (.int .u64 (r2 : Nat))).setCell ⟨Bt, 3, none⟩ (.int .u64 (r3 : Nat))) Bt #[.int .u64 (r0 : Nat), .int .u64 (r1 : Nat), .int .u64 (r2 : Nat), .int .u64 (r3 : Nat)] 51 := (((HT.set _).set _).set _).set _
  clear tc0 tz0 tc1 tz1 tc2 tz2 tc3 tz3 HT HPB
  generalize (((w3.setCell ⟨Bt, 0, none⟩ (.int .u64 (r0 : Nat))).setCell ⟨Bt, 1, none⟩ (.int .u64 (r1 : Nat))).setCell ⟨Bt, 2, none⟩ (.int .u64 (r2 : Nat))).setCell ⟨Bt, 3, none⟩ (.int .u64 (r3 : Nat)) = W4 at *
  refine (CALL2.out _).mono ?_
  rintro e w5 ⟨rfl, hc'⟩
  replace HT2 := HT2.later hc'
  have PC := below_step PB hc'
  clear PB hc'
  have HPB := Lib.hid PC
  clear PC
  have tc0 : w5.cell? ⟨Bt, 0, none⟩ = some (.int .u64 (r0 : Nat)) := HT2.cell 0
  have tz0 : w5.frozen? ⟨Bt, 0, none⟩ = false := HT2.free 0
  have tc1 : w5.cell? ⟨Bt, 1, none⟩ = some (.int .u64 (r1 : Nat)) := HT2.cell 1
  have tz1 : w5.frozen? ⟨Bt, 1, none⟩ = false := HT2.free 1
  have tc2 : w5.cell? ⟨Bt, 2, none⟩ = some (.int .u64 (r2 : Nat)) := HT2.cell 2
  have tz2 : w5.frozen? ⟨Bt, 2, none⟩ = false := HT2.free 2
  have tc3 : w5.cell? ⟨Bt, 3, none⟩ = some (.int .u64 (r3 : Nat)) := HT2.cell 3
  have tz3 : w5.frozen? ⟨Bt, 3, none⟩ = false := HT2.free 3
  go_wp2_with fail
  have b := (((HPB.out.setCell (p := ⟨Bt, 0, none⟩) lT (.int .u64 (v0 : Nat))).setCell (p := ⟨Bt, 1, none⟩) lT (.int .u64 (v1 : Nat))).setCell (p := ⟨Bt, 2, none⟩) lT (.int .u64 (v2 : Nat))).setCell (p := ⟨Bt, 3, none⟩) lT (.int .u64 (v3 : Nat))
  go_ret
  exact ⟨rfl, b⟩

set_option maxRecDepth 100000 in
set_option maxHeartbeats 8000000 in
theorem rcom_b_f (a0 a1 a2 a3 r0 r1 r2 r3 nb sz c : Nat) (u : Int) (w : World) (_hnb : nb ≤ 256) (_hsz1 : sz ≤ 32) (_hu0 : 0 ≤ u) (_hu1 : u ≤ 232) (_hr : r0 < 16777216) (hsz : ((nb : Int) + 7) / 8 = (sz : Int))
    (ez : EqZ a0 a1 a2 a3 false) (bt : RBitsIs a0 a1 a2 a3 nb) (call1 : RDownZ a0 a1 a2 a3 u r0 r1 r2 r3) (h3 : decide ((sz : Int) < 3) = false) (hu : 8 * ((sz : Int) - 3) = u) (hbig : decide ((8388608 : Int) ≤ (r0 : Int)) = false) (hc : bits BinOp.or IntKind.u32 ((sz : Int) * 16777216) (r0 : Int) = (c : Int)) :
    Calls Tryz.prog 24 #[.agg #[.int .u64 (a0 : Nat), .int .u64 (a1 : Nat), .int .u64 (a2 : Nat), .int .u64 (a3 : Nat)]] w fun e w' => e = .returned (.int .u32 (c : Nat)) ∧ Below w.heap.size w w' := by
  have BT := Lib.hid bt
  have CALL1 := Lib.hid call1
  clear bt call1
  unfold EqZ at ez
  go_enter Tryz.func24, Tryz.ntmps24
  go_wp2_with fail
  refine (BT.out _).mono ?_
  rintro e w1 ⟨rfl, h1⟩
  have PB : Below w.heap.size w w1 := ((Below.refl _ _).alloc (Nat.le_refl _) _).trans (h1.mono (by simp))
  have HA := (Holds.new w #[.int .u64 (a0 : Nat), .int .u64 (a1 : Nat), .int .u64 (a2 : Nat), .int .u64 (a3 : Nat)] 51).later h1
  have lA := HA.lt
  clear h1
  have ac0 : w1.cell? ⟨w.heap.size, 0, none⟩ = some (.int .u64 (a0 : Nat)) := HA.cell 0
  have az0 : w1.frozen? ⟨w.heap.size, 0, none⟩ = false := HA.free 0
  have ac1 : w1.cell? ⟨w.heap.size, 1, none⟩ = some (.int .u64 (a1 : Nat)) := HA.cell 1
  have az1 : w1.frozen? ⟨w.heap.size, 1, none⟩ = false := HA.free 1
  have ac2 : w1.cell? ⟨w.heap.size, 2, none⟩ = some (.int .u64 (a2 : Nat)) := HA.cell 2
  have az2 : w1.frozen? ⟨w.heap.size, 2, none⟩ = false := HA.free 2
  have ac3 : w1.cell? ⟨w.heap.size, 3, none⟩ = some (.int .u64 (a3 : Nat)) := HA.cell 3
  have az3 : w1.frozen? ⟨w.heap.size, 3, none⟩ = false := HA.free 3
  have HPB := Lib.hid PB
  clear PB
  go_wp2_with fail
  have PB := HPB.out.alloc (Nat.le_of_lt lA) (.cells #[.int .u64 0, .int .u64 0, .int .u64 0, .int .u64 0] 51)
  have HT := Holds.new w1 #[.int .u64 0, .int .u64 0, .int .u64 0, .int .u64 0] 51
  have lT : w.heap.size ≤ w1.heap.size := Nat.le_of_lt lA
  clear HPB lA ac0 az0 ac1 az1 ac2 az2 ac3 az3 HA
  generalize w1.alloc (.cells #[.int .u64 0, .int .u64 0, .int .u64 0, .int .u64 0] 51) = W2 at *
  generalize w1.heap.size = Bt at *
  refine (CALL1.out _).mono ?_
  rintro e w3 ⟨rfl, hc'⟩
  replace HT := HT.later hc'
  have PC := below_step PB hc'
  clear PB hc'
  have HPB := Lib.hid PC
  clear PC
  have tc0 : w3.cell? ⟨Bt, 0, none⟩ = some (.int .u64 0) := HT.cell 0
  have tz0 : w3.frozen? ⟨Bt, 0, none⟩ = false := HT.free 0
  have tc1 : w3.cell? ⟨Bt, 1, none⟩ = some (.int .u64 0) := HT.cell 1
  have tz1 : w3.frozen? ⟨Bt, 1, none⟩ = false := HT.free 1
  have tc2 : w3.cell? ⟨Bt, 2, none⟩ = some (.int .u64 0) := HT.cell 2
  have tz2 : w3.frozen? ⟨Bt, 2, none⟩ = false := HT.free 2
  have tc3 : w3.cell? ⟨Bt, 3, none⟩ = some (.int .u64 0) := HT.cell 3
  have tz3 : w3.frozen? ⟨Bt, 3, none⟩ = false := HT.free 3
  go_wp2_with fail
  have b := (((HPB.out.setCell (p := ⟨Bt, 0, none⟩) lT (.int .u64 (r0 : Nat))).setCell (p := ⟨Bt, 1, none⟩) lT (.int .u64 (r1 : Nat))).setCell (p := ⟨Bt, 2, none⟩) lT (.int .u64 (r2 : Nat))).setCell (p := ⟨Bt, 3, none⟩) lT (.int .u64 (r3 : Nat))
  go_ret
  exact ⟨rfl, b⟩

end Go.Proofs.YtimjmmiajgfblaaGreatDoor.Bg
