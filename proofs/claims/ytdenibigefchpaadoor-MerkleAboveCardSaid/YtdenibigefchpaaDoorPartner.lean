/- The partner of a hash in its row: the program's, and the reference's 'at'. No condition. -/
import Derived.Test.YtdenibigefchpaaDoorJoinA
import Derived.WalkSpells
namespace Go.Proofs.YtdenibigefchpaaDoor
open Go.RowKit

theorem xor_one (k : Nat) : k ^^^ 1 = if k % 2 = 0 then k + 1 else k - 1 := by
  have h1 : (k ^^^ 1) / 2 = k / 2 := by rw [Nat.xor_div_two]; simp
  have h2 : (k ^^^ 1) % 2 = (k % 2) ^^^ 1 := by
    have := Nat.xor_mod_two_pow (a := k) (b := 1) (n := 1)
    simpa using this
  rcases (by omega : k % 2 = 0 ∨ k % 2 = 1) with e | e
  · rw [e] at h2
    have : (0 : Nat) ^^^ 1 = 1 := by decide
    rw [if_pos e]; omega
  · rw [e] at h2
    have : (1 : Nat) ^^^ 1 = 0 := by decide
    rw [if_neg (by omega)]; omega
theorem xor_i64 (k : Nat) (h : k < 4611686018427387904) : bits .xor .i64 (k : Int) 1 = ((k ^^^ 1 : Nat) : Int) := by
  have hx : k ^^^ 1 < 2 ^ 63 := Nat.xor_lt_two_pow (n := 63) (by omega) (by decide)
  show IntKind.i64.wrap ((BitVec.ofInt 64 (k : Int) ^^^ BitVec.ofInt 64 1).toNat : Int) = _
  have e1 : (BitVec.ofInt 64 (k : Int)).toNat = k := by
    rw [BitVec.toNat_ofInt]; omega
  have e2 : (BitVec.ofInt 64 1).toNat = 1 := by decide
  rw [BitVec.toNat_xor, e1, e2]
  obtain ⟨z, hz⟩ : ∃ z, k ^^^ 1 = z := ⟨_, rfl⟩
  rw [hz] at hx ⊢
  rw [IntWalk.i64_in _ (by omega)]
theorem mate_xor {l : List (List Nat)} {k : Nat} (hk : k < l.length) : mate l k = if (k ^^^ 1) < l.length then nt l (k ^^^ 1) else nt l k := by
  rw [xor_one, mate]
  by_cases e : k % 2 = 0
  · rw [if_pos e, if_pos e]
  · rw [if_neg e, if_neg e, if_pos (by omega)]

set_option maxRecDepth 100000 in
set_option maxHeartbeats 1000000 in
theorem partner_any {A : Option Addr} {n c k : Nat} {l : List (List Nat)} (w : World) (hk : k < n) (hn : n ≤ 1000000) (hL : Gs w A n l) : Calls Tryd.prog 24 #[.slice A n c, .int .i64 (k : Nat)] w fun e w' => e = .returned (.agg (vals (mate l k)).toArray) ∧ Below w.heap.size w w' := by
  obtain ⟨b, o, rfl, hb, _⟩ := hL.cel (by omega)
  have ad := add_at b o
  have hx := xor_i64 k (by omega)
  have hm := mate_xor (l := l) (k := k) (by rw [hL.len]; exact hk)
  rw [hL.len] at hm
  obtain ⟨m, e⟩ : ∃ m, k ^^^ 1 = m := ⟨_, rfl⟩
  rw [e] at hx hm
  have b1 := (Below.refl w.heap.size w).alloc (Nat.le_refl _) (.cells (vals (List.replicate 32 0)).toArray 24)
  have HB := Lib.hid b1
  have RZ := Lib.hid (Ro.new w 24 (vals (List.replicate 32 0)))
  have H1 := Lib.hid (hL.later b1)
  have HM := Lib.hid hm
  clear e hm hb b1 hL
  by_cases hlt : m < n
  · have t1 : decide ((m : Int) < (n : Int)) = true := decide_eq_true (by omega)
    have R := Lib.hid ((H1.out.at_ hlt).2)
    have ok := nt_ok H1.out.ok (k := m) (by rw [H1.out.len]; exact hlt)
    have ll := Lib.hid (show (vals (nt l m)).length = 32 by rw [vals_length]; exact ok.1)
    rw [if_pos hlt] at HM
    rw [HM.out]
    obtain ⟨h, hh⟩ : ∃ h, nt l m = h := ⟨_, rfl⟩
    rw [hh] at R ll ⊢
    clear hh ok HM
    go_enter Tryd.func24, Tryd.ntmps24
    go_wp2_with (first | (refine wpList_load_part rfl (.tmp 13) rfl rfl row26 R.out ll.out ?_) | (refine wpList_store_ro rfl (.tmp 4) (.tmp 14) rfl rfl rfl row26 RZ.out rfl ll.out (vals_one _) ?_))
    intro w6 R6 g6
    go_wp2_with fail
    exact bodyPost_ret (results_ro Tryd.results24 _ rfl row26 R6 ll.out) rfl ⟨rfl, HB.out.grown g6 HB.out.size (fun q e => by injection e; omega)⟩
  · have t1 : decide ((m : Int) < (n : Int)) = false := decide_eq_false (by omega)
    have R := Lib.hid ((H1.out.at_ hk).2)
    have ok := nt_ok H1.out.ok (k := k) (by rw [H1.out.len]; exact hk)
    have ll := Lib.hid (show (vals (nt l k)).length = 32 by rw [vals_length]; exact ok.1)
    rw [if_neg hlt] at HM
    rw [HM.out]
    obtain ⟨h, hh⟩ : ∃ h, nt l k = h := ⟨_, rfl⟩
    rw [hh] at R ll ⊢
    clear hh ok HM
    go_enter Tryd.func24, Tryd.ntmps24
    go_wp2_with (first | (refine wpList_load_part rfl (.tmp 17) rfl rfl row26 R.out ll.out ?_) | (refine wpList_store_ro rfl (.tmp 4) (.tmp 18) rfl rfl rfl row26 RZ.out rfl ll.out (vals_one _) ?_))
    intro w6 R6 g6
    go_wp2_with fail
    exact bodyPost_ret (results_ro Tryd.results24 _ rfl row26 R6 ll.out) rfl ⟨rfl, HB.out.grown g6 HB.out.size (fun q e => by injection e; omega)⟩

set_option maxRecDepth 100000 in
set_option maxHeartbeats 1000000 in
theorem at_any {A : Option Addr} {n c k m : Nat} {l : List (List Nat)} (w : World) (hk : min k (n - 1) = m) (h0 : 0 < n) (hn : n ≤ 1000000) (hL : Gs w A n l) : Calls Tryd.prog 25 #[.slice A n c, .int .i64 (k : Nat)] w fun e w' => e = .returned (.agg (vals (nt l m)).toArray) ∧ Below w.heap.size w w' := by
  obtain ⟨b, o, rfl, hb, _⟩ := hL.cel (by omega)
  have ad := add_at b o
  have hlt : m < n := by omega
  obtain ⟨p, hp⟩ : ∃ p, n - 1 = p := ⟨_, rfl⟩
  rw [hp] at hk
  have y1 : ((n : Int) - 1) = (p : Int) := by omega
  have b1 := (Below.refl w.heap.size w).alloc (Nat.le_refl _) (.cells (vals (List.replicate 32 0)).toArray 24)
  have HB := Lib.hid b1
  have RZ := Lib.hid (Ro.new w 24 (vals (List.replicate 32 0)))
  have H1 := Lib.hid (hL.later b1)
  clear hb b1 hL
  have R := Lib.hid ((H1.out.at_ hlt).2)
  have ok := nt_ok H1.out.ok (k := m) (by rw [H1.out.len]; exact hlt)
  have ll := Lib.hid (show (vals (nt l m)).length = 32 by rw [vals_length]; exact ok.1)
  obtain ⟨h, hh⟩ : ∃ h, nt l m = h := ⟨_, rfl⟩
  rw [hh] at R ll ⊢
  clear hh ok
  by_cases hkp : k ≤ p
  · obtain rfl : k = m := by omega
    have m1 : min (k : Int) (p : Int) = (k : Int) := by omega
    have m2 : min k p = k := by omega
    clear hk hp
    go_enter Tryd.func25, Tryd.ntmps25
    go_wp2_with (first | (refine wpList_load_part rfl (.tmp 11) rfl rfl row26 R.out ll.out ?_) | (refine wpList_store_ro rfl (.tmp 4) (.tmp 12) rfl rfl rfl row26 RZ.out rfl ll.out (vals_one _) ?_))
    intro w6 R6 g6
    go_wp2_with fail
    exact bodyPost_ret (results_ro Tryd.results25 _ rfl row26 R6 ll.out) rfl ⟨rfl, HB.out.grown g6 HB.out.size (fun q e => by injection e; omega)⟩
  · obtain rfl : p = m := by omega
    have m1 : min (k : Int) (p : Int) = (p : Int) := by omega
    have m2 : min k p = p := by omega
    clear hk hp
    go_enter Tryd.func25, Tryd.ntmps25
    go_wp2_with (first | (refine wpList_load_part rfl (.tmp 11) rfl rfl row26 R.out ll.out ?_) | (refine wpList_store_ro rfl (.tmp 4) (.tmp 12) rfl rfl rfl row26 RZ.out rfl ll.out (vals_one _) ?_))
    intro w6 R6 g6
    go_wp2_with fail
    exact bodyPost_ret (results_ro Tryd.results25 _ rfl row26 R6 ll.out) rfl ⟨rfl, HB.out.grown g6 HB.out.size (fun q e => by injection e; omega)⟩
end Go.Proofs.YtdenibigefchpaaDoor
