/- StatusPlays: what any history comes to, and whether it may be, are the document's. No condition but that the tables lie as laid. -/
import Derived.Test.YtipbpecihbmneaaDoorWorks
import Derived.Test.YtipbpecihbmneaaDoorEsL
namespace Go.Proofs.YtipbpecihbmneaaDoor
open Go.RowKit

open Classical in
set_option maxRecDepth 100000 in
set_option maxHeartbeats 8000000 in
theorem plays_law {A : Option Addr} {n c : Nat} {l : List En} {w : World} (_ : n ≤ c) (_ : c ≤ 9223372036854775807) (hl : Es w A n l) (hLd : Laid w) :
    Calls Tryd.prog 3 #[.slice A n c] w fun e w' => e = .returned (.bool true) ∧ Below w.heap.size w w' := by
  have HD := Lib.hid hLd
  have HL := Lib.hid hl
  have B0 := Lib.hid (Below.refl w.heap.size w)
  clear hLd hl
  have fin : ∀ w1, Below w.heap.size w w1 → Calls Tryd.prog 6 #[] w1 fun e w' => e = .returned (.bool true) ∧ Below w.heap.size w w' := fun w1 b => (works_any w1 (HD.out.later HD.out.lt b)).mono fun e w' ⟨h1, h2⟩ => ⟨h1, b.trans (h2.mono b.size)⟩
  have FIN := Lib.hid fin
  clear fin
  go_enter Tryd.func3, Tryd.ntmps3
  by_cases h2 : 200 < n
  · have t0 : decide ((200 : Int) < (n : Int)) = true := decide_eq_true (by omega)
    go_wp2_with fail
    refine (FIN.out _ B0.out).mono ?_
    rintro e w1 ⟨rfl, hb⟩
    have HB := Lib.hid hb
    clear hb
    go_wp2_with fail
    go_ret
    exact ⟨rfl, HB.out⟩
  have t0 : decide ((200 : Int) < (n : Int)) = false := decide_eq_false (by omega)
  have bw := B0.out.alloc B0.out.size (.cells #[] 29)
  have O0 := Lib.hid (OwnE.made B0.out)
  have L0 := Lib.hid (HL.out.later bw)
  have B1 := Lib.hid bw
  clear bw
  go_wp2_with (first | (refine wpList_litE0 rfl rfl ?_) | (refine wpList_appEs rfl (.tmp 9) (.tmp 10) rfl rfl O0.out rfl L0.out (Nat.zero_add n) (by omega) ?_))
  intro A2 c2 w2 hc2 O2 g2 _
  have OO := Lib.hid O2
  have BW := Lib.hid O2.bel
  clear O2 g2 O0 L0 B1 B0
  have CO := Lib.hid (of_any (c := c2) w2 (HD.out.later HD.out.lt BW.out) (by omega) OO.out.reads)
  obtain ⟨S, hS⟩ : ∃ S, strB (ofS l) = S := ⟨_, rfl⟩
  have HS := Lib.hid hS
  have EQS : (S.toList == S.toList) = true := beq_self_eq_true _
  rw [hS] at CO
  clear hS
  go_wp2_with fail
  refine CO.out.mono ?_
  rintro e w3 ⟨rfl, hb⟩
  replace OO := Lib.hid (OO.out.later hb)
  replace BW := Lib.hid (BW.out.trans (hb.mono BW.out.size))
  clear hb CO
  have CR := refOf_any (c := c) w3 (by omega) (HL.out.later BW.out)
  rw [HS.out] at CR
  have HCR := Lib.hid CR
  clear CR
  go_wp2_with fail
  refine HCR.out.mono ?_
  rintro e w4 ⟨rfl, hb⟩
  replace OO := Lib.hid (OO.out.later hb)
  replace BW := Lib.hid (BW.out.trans (hb.mono BW.out.size))
  clear hb HCR
  have CM := mayRight_any (c := c2) w4 (by omega) OO.out.reads
  obtain ⟨r, hr⟩ : ∃ r, rightB l = r := ⟨_, rfl⟩
  have HR := Lib.hid hr
  rw [hr] at CM
  have HCM := Lib.hid CM
  clear CM hr
  go_wp2_with fail
  refine HCM.out.mono ?_
  rintro e w5 ⟨rfl, hb⟩
  replace OO := Lib.hid (OO.out.later hb)
  replace BW := Lib.hid (BW.out.trans (hb.mono BW.out.size))
  clear hb HCM
  have CM := refRight_any (c := c) w5 (by omega) (HL.out.later BW.out)
  rw [HR.out] at CM
  have HCM := Lib.hid CM
  clear CM
  go_wp2_with fail
  refine HCM.out.mono ?_
  rintro e w6 ⟨rfl, hb⟩
  replace OO := Lib.hid (OO.out.later hb)
  replace BW := Lib.hid (BW.out.trans (hb.mono BW.out.size))
  clear hb HCM
  go_wp2_with fail
  go_loopw [4] (fun i wr => ∃ k : Nat, k ≤ n ∧ i = .int .i64 (k : Nat) ∧ Below w6.heap.size w6 wr) (fun i _ => n - (intOf i).toNat)
  case atStart => exact ⟨0, Nat.zero_le _, rfl, Below.refl _ _⟩
  case round =>
    obtain ⟨k, hk, rfl, bel⟩ := hrel
    have HB := Lib.hid bel
    clear bel
    by_cases hlt : k < n
    · have t1 : decide ((k : Int) < (n : Int)) = true := decide_eq_true (by omega)
      have LW := Lib.hid (HL.out.later (BW.out.trans (HB.out.mono BW.out.size)))
      have LO := Lib.hid (OO.out.later HB.out).reads
      obtain ⟨b, o, rfl, hb, _⟩ := LW.out.cel (by omega)
      obtain ⟨b2, o2, rfl, hb2, _⟩ := LO.out.cel (by omega)
      have ad := add_at b o
      have ad2 := add_at b2 o2
      have R1 := Lib.hid ((LW.out.at_ hlt).2)
      have R2 := Lib.hid ((LO.out.at_ hlt).2)
      have l1 := Lib.hid hb
      have l2 := Lib.hid hb2
      have ok1 := nthE_ok HL.out.ok k
      obtain ⟨e, he⟩ : ∃ e, nthE l k = e := ⟨_, rfl⟩
      rw [he] at R1 R2 ok1
      have lE := Lib.hid (enV_len ok1)
      have EQ : ∀ w, (Op.equalIn 10000 29 (.agg (enV e).toArray) (.agg (enV e).toArray)).run Tryd.prog w = .ok true w := fun w => (eq_en ok1 ok1 w).trans (by rw [decide_eq_true rfl])
      clear he hb hb2 ok1
      go_wp2_with fail
      refine wp_region_after (by kernel_rfl) (by kernel_rfl) ?_
      repeat (go_big_quiet_step (fail))
      go_big_quiet_want
      refine quiet_load_part (.tmp 32) rfl rfl rowEn (fun w9 h9 => by obtain ⟨u, rfl⟩ := h9; exact range_later R2.out l2.out u.below) lE.out ?_
      simp only [Act.put, List.setIfInBounds_toArray, List.set_cons_succ, List.set_cons_zero]
      go_big_quiet_on
      repeat (go_big_quiet_step (fail))
      go_big_quiet_want
      refine quiet_load_part (.tmp 36) rfl rfl rowEn (fun w9 h9 => by obtain ⟨u, rfl⟩ := h9; exact range_later R1.out l1.out u.below) lE.out ?_
      simp only [Act.put, List.setIfInBounds_toArray, List.set_cons_succ, List.set_cons_zero]
      go_big_quiet_on
      repeat (go_big_quiet_step (fail))
      refine wpQuiet_nil ?_
      rintro wz ⟨u, rfl⟩
      have Bz := Lib.hid (HB.out.trans (u.below.mono HB.out.size))
      clear R1 R2 LW LO EQ
      go_wp2_with fail
      exact ⟨⟨k + 1, by omega, by go_num, Bz.out⟩, by simp [intOf]; omega⟩
    · have t1 : decide ((k : Int) < (n : Int)) = false := decide_eq_false (by omega)
      have BZ := Lib.hid (BW.out.trans (HB.out.mono BW.out.size))
      go_wp2_with fail
      refine (FIN.out _ BZ.out).mono ?_
      rintro e w7 ⟨rfl, hb⟩
      have HB7 := Lib.hid hb
      clear hb
      go_wp2_with fail
      go_ret
      exact ⟨rfl, HB7.out⟩
end Go.Proofs.YtipbpecihbmneaaDoor
