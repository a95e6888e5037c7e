/- The reference's cut. No condition but a bound on the length. -/
import Derived.Test.YtkocbkckfkbmhaaDoorCutL
namespace Go.Proofs.YtkocbkckfkbmhaaDoor
open Go.RowKit

theorem cutAll_ok {L : List Nat} {n : Nat} (hn : L.length = n) (h1 : n % 80 = 0) (h2 : n ≤ 8000) : cutAll L = cutN L (n / 80) ∧ cutCode L.length = 0 := by
  have e : cutCode L.length = 0 := cutCode_ok.2 (by rw [hn]; exact ⟨h1, h2⟩)
  unfold cutAll
  rw [if_pos e, hn]
  exact ⟨rfl, by rw [← hn]; exact e⟩
theorem cutAll_bad {L : List Nat} {n : Nat} (hn : L.length = n) (h1 : n % 80 ≠ 0) : cutAll L = [] ∧ cutCode L.length = 5 := by
  have e : cutCode L.length = 5 := by unfold cutCode; rw [hn, if_neg h1]
  unfold cutAll
  rw [e]
  exact ⟨rfl, rfl⟩
theorem cutAll_many {L : List Nat} {n : Nat} (hn : L.length = n) (h1 : n % 80 = 0) (h2 : ¬ n ≤ 8000) : cutAll L = [] ∧ cutCode L.length = 6 := by
  have e : cutCode L.length = 6 := by unfold cutCode; rw [hn, if_pos h1, if_neg h2]
  unfold cutAll
  rw [e]
  exact ⟨rfl, rfl⟩
theorem ret_cut {w w' : World} {L : List Nat} {A : Option Addr} {n c : Nat} {l : List Hd} {k : Nat} (h : OwnH w (.slice A n c) n l w') (e : cutAll L = l ∧ cutCode L.length = k) : CutGives w L (.returned (.tuple #[.slice A n c, .int .i64 (k : Nat)])) w' :=
  ⟨A, n, c, by rw [e.2], by rw [e.1]; exact h⟩

set_option maxRecDepth 100000 in
set_option maxHeartbeats 2000000 in
theorem refCut_any {A : Option Addr} {n c : Nat} {L : List Nat} (w : World) (hn : n ≤ 1073741824) (hnc : n ≤ c) (hL : Bs w A n L) : Calls Tryd.prog 19 #[.slice A n c] w (CutGives w L) := by
  have HL := Lib.hid hL
  have HN := Lib.hid hL.len
  have O0 := Lib.hid (OwnH.none_ (Below.refl w.heap.size w))
  clear hL
  go_enter Tryd.func19, Tryd.ntmps19
  by_cases hr : n % 80 = 0
  · by_cases hm : n ≤ 8000
    · have t1 : (((n : Int) % 80) != 0) = false := by rw [bne_eq_false_iff_eq]; omega
      have t2 : decide ((100 : Int) < (n : Int) / 80) = false := decide_eq_false (by omega)
      go_wp2_with fail
      clear t1 t2
      go_loopw [4, 5] (fun v i wr => ∃ k z : Nat, z = 80 * k ∧ z ≤ n ∧ i = .int .i64 (z : Nat) ∧ ∃ A' c', v = .slice A' k c' ∧ OwnH w (.slice A' k c') k (cutN L k) wr) (fun _ i _ => n - (intOf i).toNat)
      case atStart => exact ⟨0, 0, rfl, Nat.zero_le _, rfl, _, _, rfl, O0.out⟩
      case round =>
        clear O0
        obtain ⟨k, z, hz, hzn, rfl, A', c', rfl, O⟩ := hrel
        have HO := Lib.hid O
        have HZ := Lib.hid hz
        clear O
        by_cases hlt : z < n
        · have z80 : z + 80 ≤ n := by omega
          obtain ⟨a, rfl, _, _⟩ := HL.out.cel (by omega)
          obtain ⟨b, o, rfl⟩ := HL.out.plain (by omega)
          have PC : Hid (∀ u, Below w.heap.size w u → Bs u (some ⟨b, o + z, none⟩) 80 (piece L k)) := Lib.hid (fun u bu => by have q := (HL.out.later bu).piece (k := k) (by omega); rwa [← HZ.out] at q)
          have ok := Lib.hid (getH_ok (piece_byt HL.out.byt k) (piece_len (L := L) (k := k) (by rw [HN.out]; omega)))
          have CT : Hid (cutN L (k + 1) = cutN L k ++ [getH (piece L k)]) := Lib.hid rfl
          have ll := Lib.hid (hdV_len ok.out)
          have CG := Lib.hid (refGet_any (c := c - z) wr (n := 80) rfl (PC.out wr HO.out.bel))
          obtain ⟨h, hh⟩ : ∃ h, getH (piece L k) = h := ⟨_, rfl⟩
          rw [hh] at ok CT ll CG
          have ad := add_at b o
          have cz : ¬ c = z := by omega
          have k1000 : k ≤ 1000 := by omega
          clear hh hz
          go_wp2_with fail
          refine CG.out.mono ?_
          rintro e w2 ⟨rfl, hb⟩
          have O2 := Lib.hid (HO.out.later hb)
          clear hb HO CG PC
          have z0 := zeroHd
          go_wp2_with (refine wpList_store_ro rfl (.tmp 6) (.tmp 29) rfl rfl rfl rowHd (Ro.new w2 26 (hdV zeroH)) rfl ll.out (hdV_one _) ?_)
          intro w4 R4 g4
          have O4 := Lib.hid (O2.out.later (box_store g4))
          have H4 := Lib.hid R4
          clear R4 g4 z0 O2
          have O5 := Lib.hid (O4.out.later ((Below.refl w4.heap.size w4).alloc (Nat.le_refl _) (.cells (hdV h).toArray 26)))
          have R5 := Lib.hid (Ro.new w4 26 (hdV h))
          go_wp2_with (first | (refine wpList_load_ro rfl (.tmp 6) rfl rfl rowHd H4.out ll.out ?_) | (refine wpList_litH rfl (.tmp 32) rfl rfl ll.out ?_) | (at_builtin; refine wpList_appH rfl (.tmp 31) (.tmp 33) rfl rfl O5.out rfl ok.out R5.out (by omega) ?_))
          intro A6 c6 w6 hc6 O6 g6
          have HO6 := Lib.hid O6
          clear O6 g6 O5 R5 O4 H4
          go_wp2_with fail
          exact ⟨⟨k + 1, z + 80, by have := HZ.out; omega, by omega, by go_num, _, _, rfl, by rw [CT.out]; exact HO6.out⟩, by simp [intOf]; omega⟩
        · obtain rfl : z = n := by omega
          go_wp2_with fail
          go_ret2
          exact ret_cut HO.out ⟨by rw [(cutAll_ok HN.out hr hm).1, show z / 80 = k by have := HZ.out; omega], (cutAll_ok HN.out hr hm).2⟩
    · have t1 : (((n : Int) % 80) != 0) = false := by rw [bne_eq_false_iff_eq]; omega
      have t2 : decide ((100 : Int) < (n : Int) / 80) = true := decide_eq_true (by omega)
      go_wp2_with fail
      go_ret2
      exact ret_cut O0.out (cutAll_many HN.out hr hm)
  · have t1 : (((n : Int) % 80) != 0) = true := by rw [bne_iff_ne]; omega
    go_wp2_with fail
    go_ret2
    exact ret_cut O0.out (cutAll_bad HN.out hr)
end Go.Proofs.YtkocbkckfkbmhaaDoor
