/- The reference's disk: Write, Cut. No condition but bounds. -/
import Derived.Test.YtjcphpmlekfhdaaGreatDoorRfA
namespace Go.Proofs.YtjcphpmlekfhdaaGreatDoor
open Go.RowKit
attribute [local go_sem ↓] appR_mark

section
variable {w0 w : World} {r : Nat} {F : Nat → Prop} {S : Dk}
theorem Dk.burn_eq (S : Dk) (i : Nat) (x : Fl) : S.burn i x = if S.fuse = 0 then (8, S.burnt) else (0, S.burnt.put i x) := by
  unfold Dk.burn Dk.burnt
  by_cases h : S.fuse = 0
  · rw [if_pos h, if_pos h, if_pos h]
  · rw [if_neg h, if_neg h, if_neg h]; rfl
theorem Dk.burnt_at (S : Dk) (i : Nat) : S.burnt.at i = S.at i := by
  unfold Dk.burnt Dk.less
  by_cases h : S.fuse = 0
  · rw [if_pos h]; rfl
  · rw [if_neg h]; rfl
theorem Dk.burnt_cnt (S : Dk) : S.burnt.cnt = S.cnt := by
  unfold Dk.burnt Dk.less Dk.cnt
  split <;> rfl
theorem Dk.burnt_ok {S : Dk} (h : S.Ok) : S.burnt.Ok := by
  unfold Dk.burnt
  split
  · exact h.off true
  · exact h.less
theorem Dk.burnt_most (S : Dk) : S.burnt.most = S.most := by
  unfold Dk.burnt Dk.less
  split <;> rfl
theorem Bs.p' {w : World} {Q : Nat → Prop} {A : Option Addr} {n : Nat} {L : List Nat} (h : Bs w A n L) (q : 0 < n → ∀ a, A = some a → Q a.block) : BsP w Q A n L := ⟨h, q⟩
set_option maxRecDepth 100000 in
set_option maxHeartbeats 8000000 in
theorem rwrite_any (h : Rsk w0 r F S w) (hc : S.cnt ≤ 1073741822) (hu : S.uses ≤ 1073741823) (f : Int) {A : Option Addr} {n c : Nat} {L : List Nat} (hL : Bs w A n L) (hA : 0 < n → ∀ a, A = some a → ¬ F a.block) :
    Calls Tryz.prog 64 #[.pointer (some ⟨r, 0, none⟩), .int .i64 f, .slice A n c] w fun e W => e = .returned (.int .i64 (S.write f L).1) ∧ RDid w0 r F w (S.write f L).2 W := by
  have HD := Lib.hid h
  have HL := Lib.hid hL
  have hlen := hL.len
  have CM := Lib.hid (rmay_any h f)
  clear h hL
  unfold Dk.write
  by_cases ha : S.ask f = 0
  · rw [ha] at CM
    rw [if_neg (fun q => q ha)]
    obtain ⟨i, rfl, hi⟩ : ∃ i : Nat, f = (i : Int) ∧ (i = 0 ∨ i = 1) := by
      unfold Dk.ask at ha
      split at ha
      · cases ha
      · split at ha
        · cases ha
        · exact ⟨f.toNat, by omega, by omega⟩
    have CR := Lib.hid (rroom_any HD.out (by omega) hu)
    clear ha
    by_cases hroom : S.room < L.length
    · rw [if_pos hroom]
      have t1 : decide ((S.room : Int) < (n : Int)) = true := decide_eq_true (by omega)
      have t2 : decide ((n : Int) > (S.room : Int)) = true := decide_eq_true (by omega)
      have t3 : decide (S.room < n) = true := decide_eq_true (by omega)
      obtain ⟨q, hq⟩ : ∃ q, S.room = q := ⟨_, rfl⟩
      rw [hq] at CR t1 t2 t3
      clear hq hroom
      go_enter Tryz.func64, Tryz.ntmps64
      go_wp2_with fail
      refine (CM.out).mono ?_
      rintro e w1 ⟨rfl, rfl⟩
      go_wp2_with fail
      refine (CR.out).mono ?_
      rintro e w2 ⟨rfl, hb⟩
      have HB := Lib.hid hb
      clear hb
      go_wp2_with fail
      go_ret
      exact ⟨rfl, RDid.below HD.out HB.out⟩
    · rw [if_neg hroom]
      have t1 : decide ((S.room : Int) < (n : Int)) = false := decide_eq_false (by omega)
      have t2 : decide ((n : Int) > (S.room : Int)) = false := decide_eq_false (by omega)
      have t3 : decide (S.room < n) = false := decide_eq_false (by omega)
      have HRM : Hid (L.length ≤ S.room) := Lib.hid (by omega)
      obtain ⟨q, hq⟩ : ∃ q, S.room = q := ⟨_, rfl⟩
      rw [hq] at CR t1 t2 t3
      clear hq hroom
      rw [Dk.burn_eq]
      by_cases hf : S.fuse = 0
      · rw [if_pos hf]
        have CB : Hid (∀ u, RDid w0 r F w S u → Calls Tryz.prog 92 #[.pointer (some ⟨r, 0, none⟩)] u fun e W => e = .returned (.bool true) ∧ RDid w0 r (Gr F w u) u S.burnt W) := Lib.hid fun u D => by
          have := rburns_any D.dsk
          rwa [decide_eq_true hf] at this
        clear hf
        go_enter Tryz.func64, Tryz.ntmps64
        go_wp2_with fail
        refine (CM.out).mono ?_
        rintro e w1 ⟨rfl, rfl⟩
        go_wp2_with fail
        refine (CR.out).mono ?_
        rintro e w2 ⟨rfl, hb⟩
        have HD2 := Lib.hid (RDid.below HD.out hb)
        have HL2 := Lib.hid (HL.out.later hb)
        clear hb
        go_wp2_with fail
        refine (CB.out _ HD2.out).mono ?_
        rintro e w3 ⟨rfl, D3⟩
        have HD3 := Lib.hid (HD2.out.trans D3)
        have HK3 := Lib.hid D3.kept
        clear D3
        go_wp2_with fail
        go_ret
        exact ⟨rfl, HD3.out⟩
      · rw [if_neg hf]
        have CB : Hid (∀ u, RDid w0 r F w S u → Calls Tryz.prog 92 #[.pointer (some ⟨r, 0, none⟩)] u fun e W => e = .returned (.bool false) ∧ RDid w0 r (Gr F w u) u S.burnt W) := Lib.hid fun u D => by
          have := rburns_any D.dsk
          rwa [decide_eq_false hf] at this
        clear hf
        go_enter Tryz.func64, Tryz.ntmps64
        go_wp2_with fail
        refine (CM.out).mono ?_
        rintro e w1 ⟨rfl, rfl⟩
        go_wp2_with fail
        refine (CR.out).mono ?_
        rintro e w2 ⟨rfl, hb⟩
        have HD2 := Lib.hid (RDid.below HD.out hb)
        have HL2 := Lib.hid (HL.out.later hb)
        clear hb
        go_wp2_with fail
        refine (CB.out _ HD2.out).mono ?_
        rintro e w3 ⟨rfl, D3⟩
        have HD3 := Lib.hid (HD2.out.trans D3)
        have HK3 := Lib.hid D3.kept
        clear D3
        have hb3 : Bs w3 A n L := (HL2.out.p' (Q := fun b => ¬ Gr F w1 w2 b) (fun h0 a e hg => by
          have hl := HL.out
          obtain ⟨a', e', hbl, _⟩ := hl.cel h0
          rw [e] at e'
          injection e' with e'
          subst e'
          exact Gr.not (hA h0 a e) hbl hg)).keep HK3.out |>.bs
        have ok := HD.out.ok
        have HX := radd HD3.out.dsk hi (by rw [Dk.burnt_cnt]; exact hc) (x := .w L) ⟨rfl, by
          have := HRM.out
          have := ok.most
          unfold Dk.room at *
          show L.length ≤ _
          omega⟩ (by
          rw [Dk.burnt_at]
          refine (Dk.burnt_ok ok).put i ?_
          rw [Dk.burnt_most]
          exact (ok.at_ i).addw HL.out.byt (Dk.room_ok' ok HRM.out))
        obtain ⟨A1, c1, q0, A', c', w4, r1, q1, z1, G⟩ := HX
        rw [Dk.burnt_at] at q0 r1 q1 G
        have HG := Lib.hid (HD3.out.trans G)
        have rs := run_str (c := c) (w := w3.drew) (hb3.later (Below.refl _ _).drew)
        have HB3 := Lib.hid hb3
        clear G hb3 ok
        obtain ⟨m, hm⟩ : ∃ m, (S.at i).loose.length = m := ⟨_, rfl⟩
        rw [hm] at q0 r1 q1 HG
        have hm1 : m ≤ 1073741822 := by have := S.cnt_at i; omega
        clear hm
        simp only [rcV] at r1
        have e0 : ({ data := #[] } : ByteArray) = ByteArray.empty := rfl
        rcases hi with rfl | rfl
        · have q0' : w3.cell? ⟨r, 1, none⟩ = some (.slice A1 m c1) := q0
          have q0a : ((w3.alloc (.cells #[.bool false, .string (strB L), .int .i64 0] 138)).drew).cell? ⟨r, 1, none⟩ = some (.slice A1 m c1) := (((Below.refl _ w3).alloc (Nat.le_refl _) (.cells #[.bool false, .string (strB L), .int .i64 0] 138)).drew.cell (p := ⟨r, 1, none⟩) (World.block_lt_of_cell? _ _ q0')).trans q0'
          have r1' : (appR #[.slice A1 m c1, .slice (some ⟨w3.heap.size, 0, none⟩) 1 1]).run Tryz.prog ((w3.alloc (.cells #[.bool false, .string (strB L), .int .i64 0] 138)).drew) = .ok (.slice A' (m + 1) c') w4 := r1
          have q1' : w4.cell? ⟨r, 1, none⟩ = some (.slice A1 m c1) := q1
          have z1' : w4.frozen? ⟨r, 1, none⟩ = false := z1
          clear q0 r1 q1 z1
          go_wp2_with fail
          go_region
          all_goals go_wp2_with fail
          all_goals go_ret
          all_goals exact ⟨rfl, HG.out⟩
        · have q0' : w3.cell? ⟨r, 3, none⟩ = some (.slice A1 m c1) := q0
          have q0a : ((w3.alloc (.cells #[.bool false, .string (strB L), .int .i64 0] 138)).drew).cell? ⟨r, 3, none⟩ = some (.slice A1 m c1) := (((Below.refl _ w3).alloc (Nat.le_refl _) (.cells #[.bool false, .string (strB L), .int .i64 0] 138)).drew.cell (p := ⟨r, 3, none⟩) (World.block_lt_of_cell? _ _ q0')).trans q0'
          have r1' : (appR #[.slice A1 m c1, .slice (some ⟨w3.heap.size, 0, none⟩) 1 1]).run Tryz.prog ((w3.alloc (.cells #[.bool false, .string (strB L), .int .i64 0] 138)).drew) = .ok (.slice A' (m + 1) c') w4 := r1
          have q1' : w4.cell? ⟨r, 3, none⟩ = some (.slice A1 m c1) := q1
          have z1' : w4.frozen? ⟨r, 3, none⟩ = false := z1
          clear q0 r1 q1 z1
          go_wp2_with fail
          go_region
          all_goals go_wp2_with fail
          all_goals go_ret
          all_goals exact ⟨rfl, HG.out⟩
  · rw [if_pos ha]
    have t1 : decide (S.ask f = 0) = false := decide_eq_false ha
    have t2 : (S.ask f == 0) = false := by rw [beq_eq_false_iff_ne]; exact ha
    obtain ⟨z, hz⟩ : ∃ z, S.ask f = z := ⟨_, rfl⟩
    rw [hz] at CM t1 t2
    have HZ := Lib.hid hz
    clear ha hz
    go_enter Tryz.func64, Tryz.ntmps64
    go_wp2_with fail
    refine (CM.out).mono ?_
    rintro e w1 ⟨rfl, rfl⟩
    go_wp2_with fail
    go_ret
    exact ⟨by rw [HZ.out]; rfl, RDid.refl HD.out⟩
end
end Go.Proofs.YtjcphpmlekfhdaaGreatDoor
