/- The reference's disk: Cut. No condition but bounds. -/
import Derived.Test.YtjcphpmlekfhdaaGreatDoorRfW
namespace Go.Proofs.YtjcphpmlekfhdaaGreatDoor
open Go.RowKit
attribute [local go_sem ↓] appR_mark

section
variable {w0 w : World} {r : Nat} {F : Nat → Prop} {S : Dk}
theorem ask_file {S : Dk} {f : Int} (ha : S.ask f = 0) : ∃ i : Nat, f = (i : Int) ∧ (i = 0 ∨ i = 1) := by
  unfold Dk.ask at ha
  split at ha
  · cases ha
  · split at ha
    · cases ha
    · exact ⟨f.toNat, by omega, by omega⟩
set_option maxRecDepth 100000 in
set_option maxHeartbeats 8000000 in
theorem rcut_any (h : Rsk w0 r F S w) (hc : S.cnt ≤ 1073741822) (hu : S.uses ≤ 1073741823) (f z : Int) :
    Calls Tryz.prog 60 #[.pointer (some ⟨r, 0, none⟩), .int .i64 f, .int .i64 z] w fun e W => e = .returned (.int .i64 (S.cut f z).1) ∧ RDid w0 r F w (S.cut f z).2 W := by
  have HD := Lib.hid h
  have CM := Lib.hid (rmay_any h f)
  clear h
  unfold Dk.cut
  by_cases ha : S.ask f = 0
  · rw [ha] at CM
    rw [if_neg (fun q => q ha)]
    obtain ⟨i, rfl, hi⟩ := ask_file ha
    rw [show ((i : Int).toNat) = i from Int.toNat_natCast i]
    clear ha
    by_cases hz0 : z < 0
    · rw [if_pos (.inl hz0)]
      have t1 : decide (z < 0) = true := decide_eq_true hz0
      clear hz0
      go_enter Tryz.func60, Tryz.ntmps60
      go_wp2_with fail
      refine (CM.out).mono ?_
      rintro e w1 ⟨rfl, rfl⟩
      go_wp2_with fail
      go_ret
      exact ⟨rfl, RDid.refl HD.out⟩
    obtain ⟨n, rfl⟩ : ∃ n : Nat, z = (n : Int) := ⟨z.toNat, by omega⟩
    rw [show ((n : Int).toNat) = n from Int.toNat_natCast n]
    have t0 : decide ((n : Int) < 0) = false := decide_eq_false hz0
    clear hz0
    have CS := Lib.hid (rstands_any HD.out hi (by omega) hu)
    have lsz := strB_size (S.at i).at
    obtain ⟨y, hy⟩ : ∃ y, strB (S.at i).at = y := ⟨_, rfl⟩
    obtain ⟨x, hx⟩ : ∃ x, (S.at i).at.length = x := ⟨_, rfl⟩
    rw [hy] at CS lsz
    rw [hx] at lsz
    have HX := Lib.hid hx
    rw [hx]
    clear hy hx
    by_cases hroom : x < n
    · rw [if_pos (.inr (by omega))]
      have t1 : decide ((x : Int) < (n : Int)) = true := decide_eq_true (by omega)
      have t2 : decide ((n : Int) > (x : Int)) = true := decide_eq_true (by omega)
      have t3 : decide (x < n) = true := decide_eq_true (by omega)
      clear hroom
      go_enter Tryz.func60, Tryz.ntmps60
      go_wp2_with fail
      refine (CM.out).mono ?_
      rintro e w1 ⟨rfl, rfl⟩
      go_wp2_with fail
      refine (CS.out).mono ?_
      rintro e w2 ⟨rfl, hb⟩
      have HD2 := Lib.hid (RDid.below HD.out hb)
      clear hb
      go_wp2_with fail
      go_ret
      exact ⟨rfl, HD2.out⟩
    · rw [if_neg (by omega)]
      have t1 : decide ((x : Int) < (n : Int)) = false := decide_eq_false (by omega)
      have t2 : decide ((n : Int) > (x : Int)) = false := decide_eq_false (by omega)
      have t3 : decide (x < n) = false := decide_eq_false (by omega)
      have HRM : Hid (n ≤ (S.at i).at.length) := Lib.hid (by rw [HX.out]; omega)
      clear hroom
      rw [Dk.burn_eq]
      by_cases hf : S.fuse = 0
      · rw [if_pos hf]
        have CB : Hid (∀ u, RDid w0 r F w S u → Calls Tryz.prog 92 #[.pointer (some ⟨r, 0, none⟩)] u fun e W => e = .returned (.bool true) ∧ RDid w0 r (Gr F w u) u S.burnt W) := Lib.hid fun u D => by
          have := rburns_any D.dsk
          rwa [decide_eq_true hf] at this
        clear hf
        go_enter Tryz.func60, Tryz.ntmps60
        go_wp2_with fail
        refine (CM.out).mono ?_
        rintro e w1 ⟨rfl, rfl⟩
        go_wp2_with fail
        refine (CS.out).mono ?_
        rintro e w2 ⟨rfl, hb⟩
        have HD2 := Lib.hid (RDid.below HD.out hb)
        clear hb
        go_wp2_with fail
        refine (CB.out _ HD2.out).mono ?_
        rintro e w3 ⟨rfl, D3⟩
        have HD3 := Lib.hid (HD2.out.trans D3)
        clear D3
        go_wp2_with fail
        go_ret
        exact ⟨rfl, HD3.out⟩
      · rw [if_neg hf]
        have CB : Hid (∀ u, RDid w0 r F w S u → Calls Tryz.prog 92 #[.pointer (some ⟨r, 0, none⟩)] u fun e W => e = .returned (.bool false) ∧ RDid w0 r (Gr F w u) u S.burnt W) := Lib.hid fun u D => by
          have := rburns_any D.dsk
          rwa [decide_eq_false hf] at this
        clear hf
        go_enter Tryz.func60, Tryz.ntmps60
        go_wp2_with fail
        refine (CM.out).mono ?_
        rintro e w1 ⟨rfl, rfl⟩
        go_wp2_with fail
        refine (CS.out).mono ?_
        rintro e w2 ⟨rfl, hb⟩
        have HD2 := Lib.hid (RDid.below HD.out hb)
        clear hb
        go_wp2_with fail
        refine (CB.out _ HD2.out).mono ?_
        rintro e w3 ⟨rfl, D3⟩
        have HD3 := Lib.hid (HD2.out.trans D3)
        clear D3
        have ok := HD.out.ok
        have HX2 := radd HD3.out.dsk hi (by rw [Dk.burnt_cnt]; exact hc) (x := .c n) ⟨rfl, by
          have h1 := HRM.out
          have h2 := (ok.at_ i).len
          have h3 := ok.most
          show n ≤ _
          omega⟩ (by
          rw [Dk.burnt_at]
          refine (Dk.burnt_ok ok).put i ?_
          rw [Dk.burnt_most]
          exact (ok.at_ i).addc HRM.out)
        obtain ⟨A1, c1, q0, A', c', w4, r1, q1, z1, G⟩ := HX2
        rw [Dk.burnt_at] at q0 r1 q1 G
        have HG := Lib.hid (HD3.out.trans G)
        clear G ok
        obtain ⟨m, hm⟩ : ∃ m, (S.at i).loose.length = m := ⟨_, rfl⟩
        rw [hm] at q0 r1 q1 HG
        have hm1 : m ≤ 1073741822 := by have := S.cnt_at i; omega
        clear hm
        simp only [rcV] at r1
        have e0 : ({ data := #[] } : ByteArray) = ByteArray.empty := rfl
        rcases hi with rfl | rfl
        · have q0' : w3.cell? ⟨r, 1, none⟩ = some (.slice A1 m c1) := q0
          have q0a : ((w3.alloc (.cells #[.bool true, .string ByteArray.empty, .int .i64 (n : Nat)] 138)).drew).cell? ⟨r, 1, none⟩ = some (.slice A1 m c1) := (((Below.refl _ w3).alloc (Nat.le_refl _) (.cells #[.bool true, .string ByteArray.empty, .int .i64 (n : Nat)] 138)).drew.cell (p := ⟨r, 1, none⟩) (World.block_lt_of_cell? _ _ q0')).trans q0'
          have r1' : (appR #[.slice A1 m c1, .slice (some ⟨w3.heap.size, 0, none⟩) 1 1]).run Tryz.prog ((w3.alloc (.cells #[.bool true, .string ByteArray.empty, .int .i64 (n : Nat)] 138)).drew) = .ok (.slice A' (m + 1) c') w4 := r1
          have q1' : w4.cell? ⟨r, 1, none⟩ = some (.slice A1 m c1) := q1
          have z1' : w4.frozen? ⟨r, 1, none⟩ = false := z1
          clear q0 r1 q1 z1
          go_wp2_with fail
          go_region
          all_goals go_wp2_with fail
          all_goals go_ret
          all_goals exact ⟨rfl, HG.out⟩
        · have q0' : w3.cell? ⟨r, 3, none⟩ = some (.slice A1 m c1) := q0
          have q0a : ((w3.alloc (.cells #[.bool true, .string ByteArray.empty, .int .i64 (n : Nat)] 138)).drew).cell? ⟨r, 3, none⟩ = some (.slice A1 m c1) := (((Below.refl _ w3).alloc (Nat.le_refl _) (.cells #[.bool true, .string ByteArray.empty, .int .i64 (n : Nat)] 138)).drew.cell (p := ⟨r, 3, none⟩) (World.block_lt_of_cell? _ _ q0')).trans q0'
          have r1' : (appR #[.slice A1 m c1, .slice (some ⟨w3.heap.size, 0, none⟩) 1 1]).run Tryz.prog ((w3.alloc (.cells #[.bool true, .string ByteArray.empty, .int .i64 (n : Nat)] 138)).drew) = .ok (.slice A' (m + 1) c') w4 := r1
          have q1' : w4.cell? ⟨r, 3, none⟩ = some (.slice A1 m c1) := q1
          have z1' : w4.frozen? ⟨r, 3, none⟩ = false := z1
          clear q0 r1 q1 z1
          go_wp2_with fail
          go_region
          all_goals go_wp2_with fail
          all_goals go_ret
          all_goals exact ⟨rfl, HG.out⟩
  · rw [if_pos ha]
    have t1 : decide (S.ask f = 0) = false := decide_eq_false ha
    have t2 : (S.ask f == 0) = false := by rw [beq_eq_false_iff_ne]; exact ha
    obtain ⟨z, hz⟩ : ∃ z, S.ask f = z := ⟨_, rfl⟩
    rw [hz] at CM t1 t2
    have HZ := Lib.hid hz
    clear ha hz
    go_enter Tryz.func60, Tryz.ntmps60
    go_wp2_with fail
    refine (CM.out).mono ?_
    rintro e w1 ⟨rfl, rfl⟩
    go_wp2_with fail
    go_ret
    exact ⟨by rw [HZ.out]; rfl, RDid.refl HD.out⟩
end
end Go.Proofs.YtjcphpmlekfhdaaGreatDoor
