/- HeaderMany: how many headers bytes may be those of. No condition but that the tables lie as laid. -/
import Derived.Test.YtkocbkckfkbmhaaDoorWorks
namespace Go.Proofs.YtkocbkckfkbmhaaDoor
open Go.RowKit

theorem zeros_bs (w : World) (n : Nat) : Bs (w.alloc (.cells (vals (List.replicate n 0)).toArray 5)) (some ⟨w.heap.size, 0, none⟩) n (List.replicate n 0) := by
  have := Bs.lit w (List.replicate n 0) (allB_zeros n)
  rwa [List.length_replicate] at this
theorem cutAll_len {L : List Nat} {n : Nat} (hn : L.length = n) (h : cutCode n = 0) : (cutAll L).length = n / 80 := by
  unfold cutAll
  rw [hn, if_pos h, cutN_len]
theorem cutAll_no {L : List Nat} {n : Nat} (hn : L.length = n) (h : cutCode n ≠ 0) : cutAll L = [] := by
  unfold cutAll
  rw [hn, if_neg h]

set_option maxRecDepth 100000 in
set_option maxHeartbeats 4000000 in
theorem many_law {over : Int} {more : Nat} {w : World} (ho : -128 ≤ over ∧ over < 128) (hm : more < 256) (hLd : Laid w) :
    Calls Tryd.prog 8 #[.int .i8 over, .int .u8 (more : Nat)] w fun e w' => e = .returned (.bool true) ∧ Below w.heap.size w w' := by
  have HD := Lib.hid hLd
  clear hLd
  have fin : ∀ w1, Below w.heap.size w w1 → Calls Tryd.prog 11 #[] w1 fun e w' => e = .returned (.bool true) ∧ Below w.heap.size w w' := fun w1 b => (works_any w1 (HD.out.later HD.out.lt b)).mono fun e w' ⟨h1, h2⟩ => ⟨h1, b.trans (h2.mono b.size)⟩
  have FIN := Lib.hid fin
  clear fin
  go_enter Tryd.func8, Tryd.ntmps8
  obtain ⟨ho1, ho2⟩ := ho
  by_cases hneg : over < -100
  · have t1 : decide (100 + over < 0) = true := decide_eq_true (by omega)
    go_wp2_with fail
    refine (FIN.out _ (Below.refl _ _)).mono ?_
    rintro e w1 ⟨rfl, hb⟩
    have HB := Lib.hid hb
    clear hb
    go_wp2_with fail
    go_ret
    exact ⟨rfl, HB.out⟩
  · obtain ⟨n, hn⟩ : ∃ n : Nat, 100 + over = (n : Int) := ⟨(100 + over).toNat, by omega⟩
    obtain ⟨r, hr⟩ : ∃ r, more % 80 = r := ⟨_, rfl⟩
    have r80 : r < 80 := by omega
    have n300 : n ≤ 300 := by omega
    have hmk := run_make_bytes (80 * n + r) (80 * n + r) (80 * (n : Int) + (r : Int)) (80 * (n : Int) + (r : Int)) (by omega) (by omega) (Nat.le_refl _) (by omega)
    have z2 : (more : Int) % 80 = (r : Int) := by omega
    have HN := Lib.hid hn
    have HR := Lib.hid hr
    clear hr
    go_wp2_with fail
    clear hmk
    have HBw : Below w.heap.size w (w.alloc (.cells (vals (List.replicate (80 * n + r) 0)).toArray 5)) := (Below.refl _ _).alloc (Nat.le_refl _) _
    refine (cut_any _ (Nat.le_refl _) (by omega) (zeros_bs w (80 * n + r))).mono ?_
    rintro e w2 ⟨A, q, c, rfl, O⟩
    have hlen : (List.replicate (80 * n + r) 0).length = 80 * n + r := List.length_replicate
    have hq : (cutAll (List.replicate (80 * n + r) 0)).length = q := O.len
    have B2 := Lib.hid (HBw.trans (O.bel.mono HBw.size))
    rw [hlen]
    clear HBw O
    by_cases h0 : r = 0
    · have t3 : (((r : Nat) : Int) != 0) = false := by rw [bne_eq_false_iff_eq]; omega
      by_cases hb : n ≤ 100
      · have e1 : cutCode (80 * n + r) = 0 := cutCode_ok.2 ⟨by omega, by omega⟩
        obtain rfl : n = q := by rw [cutAll_len hlen e1] at hq; omega
        have t4 : decide (0 < over) = false := decide_eq_false (by have := HN.out; omega)
        rw [e1]
        clear hlen hq e1
        go_wp2_with fail
        refine (FIN.out _ B2.out).mono ?_
        rintro e w3 ⟨rfl, hb⟩
        have B3 := Lib.hid hb
        clear hb
        go_wp2_with fail
        go_ret
        exact ⟨rfl, B3.out⟩
      · have e1 : cutCode (80 * n + r) = 6 := by unfold cutCode; rw [if_pos (by omega), if_neg (by omega)]
        obtain rfl : 0 = q := by rw [cutAll_no hlen (by rw [e1]; decide)] at hq; exact hq
        have t4 : decide (0 < over) = true := decide_eq_true (by have := HN.out; omega)
        rw [e1]
        clear hlen hq e1
        go_wp2_with fail
        refine (FIN.out _ B2.out).mono ?_
        rintro e w3 ⟨rfl, hb⟩
        have B3 := Lib.hid hb
        clear hb
        go_wp2_with fail
        go_ret
        exact ⟨rfl, B3.out⟩
    · have t3 : (((r : Nat) : Int) != 0) = true := by rw [bne_iff_ne]; omega
      have e1 : cutCode (80 * n + r) = 5 := by unfold cutCode; rw [if_neg (by omega)]
      obtain rfl : 0 = q := by rw [cutAll_no hlen (by rw [e1]; decide)] at hq; exact hq
      rw [e1]
      clear hlen hq e1
      go_wp2_with fail
      refine (FIN.out _ B2.out).mono ?_
      rintro e w3 ⟨rfl, hb⟩
      have B3 := Lib.hid hb
      clear hb
      go_wp2_with fail
      go_ret
      exact ⟨rfl, B3.out⟩
end Go.Proofs.YtkocbkckfkbmhaaDoor
