/- The bytes of headers: the program's and the reference's. No condition but a bound on how many. -/
import Derived.Test.YtkocbkckfkbmhaaDoorHs
namespace Go.Proofs.YtkocbkckfkbmhaaDoor
open Go.RowKit

theorem run_make_bytes (n c : Nat) (l k : Int) (hl : l = n) (hk : k = c) (hnc : n ≤ c) (hc : c ≤ 1099511627776) (W : World) :
    (Instr.makeSlice 27 (.int .i64 l) (.int .i64 k)).run Tryd.prog W = .ok (.slice (some ⟨W.heap.size, 0, none⟩) n c) (W.alloc (.cells (vals (List.replicate c 0)).toArray 5)) := by
  obtain ⟨i0, hi, hz0, hz1, hz2⟩ := info_parts Tryd.infoByte
  subst hl hk
  rw [run_make (P := Tryd.prog) W 27 5 i0 (.int .u8 0) Tryd.underlying27 hi hz0 .i64 .i64 (n : Int) (c : Int) (by omega) (by omega) (by rw [hz2]; omega) (by omega), hz1]
  have e : (madeCells (Value.int .u8 0).cells c) = (vals (List.replicate c 0)).toArray := by
    apply Array.toList_inj.1
    show (madeCells #[Value.int .u8 0] c).toList = _
    rw [toList_madeCells_one, vals, List.map_replicate]; rfl
  rw [Int.toNat_natCast, Int.toNat_natCast, Nat.mul_one, e]
theorem hsB_take {l : List Hd} {k : Nat} (h : k < l.length) : hsB (l.take (k + 1)) = hsB (l.take k) ++ hdB (nthH l k) := by rw [take_nthH h, hsB_app, hsB_one]
theorem Own.mk0 {w0 w : World} (b : Below w0.heap.size w0 w) : Own w0 (.slice none 0 0) 0 [] w := ⟨World.ownsRow_nil _ _ _ _, allB_nil, b⟩

set_option maxRecDepth 100000 in
set_option maxHeartbeats 2000000 in
theorem row_any {A : Option Addr} {n c : Nat} {l : List Hd} (w : World) (hn : n ≤ 1000000) (hL : Hs w A n l) : Calls Tryd.prog 20 #[.slice A n c] w (GivesB w (hsB l)) := by
  have HL := Lib.hid hL
  have HN := Lib.hid hL.len
  have hmk := run_make_bytes 0 (80 * n) 0 (80 * n) rfl (by omega) (by omega) (by omega)
  have O0 := Lib.hid (Own.made (Below.refl w.heap.size w) (vals (List.replicate (80 * n) 0)).toArray (80 * n) (by unfold maxLen; omega) (by simp [vals_length]))
  clear hL
  go_enter Tryd.func20, Tryd.ntmps20
  go_wp2_with fail
  clear hmk
  go_loopw [3, 12] (fun v i wr => ∃ k : Nat, k ≤ n ∧ i = .int .i64 (k : Nat) ∧ ∃ A' c', v = .slice A' (80 * k) c' ∧ Own w (.slice A' (80 * k) c') (80 * k) (hsB (l.take k)) wr) (fun _ i _ => n - (intOf i).toNat)
  case atStart => exact ⟨0, Nat.zero_le _, rfl, _, _, rfl, O0.out⟩
  case round =>
    clear O0
    obtain ⟨k, hk, rfl, A', c', rfl, O⟩ := hrel
    have HO := Lib.hid O
    clear O
    by_cases hlt : k < n
    · obtain ⟨b, o, rfl, _, _⟩ := HL.out.cel (by omega)
      have ad := add_at b o
      have RG := Lib.hid (((HL.out.later HO.out.bel).at_ hlt).2)
      have ok := Lib.hid (nthH_ok HL.out.ok k)
      have ll := Lib.hid (hdV_len ok.out)
      have HT := Lib.hid (hsB_take (l := l) (k := k) (by rw [HN.out]; exact hlt))
      obtain ⟨h, hh⟩ : ∃ h, nthH l k = h := ⟨_, rfl⟩
      rw [hh] at RG ok ll HT
      clear hh
      have z0 := zeroHd
      go_wp2_with (first | (refine wpList_load_part rfl (.tmp 14) rfl rfl rowHd RG.out ll.out ?_) | (refine wpList_store_ro rfl (.tmp 5) (.tmp 15) rfl rfl rfl rowHd (Ro.new wr 26 (hdV zeroH)) rfl ll.out (hdV_one _) ?_))
      intro w4 R4 g4
      have O4 := Lib.hid (HO.out.later (box_store g4))
      have H4 := Lib.hid R4
      clear R4 g4 z0 HO
      go_wp2_with (refine wpList_load_ro rfl (.tmp 5) rfl rfl rowHd H4.out ll.out ?_)
      refine (put_any ok.out _).mono ?_
      rintro e w5 ⟨b5, rfl, hbs, hr, hb⟩
      have O5 := Lib.hid (O4.out.later hb)
      have P5 := Lib.hid hr.bs
      have S5 := Lib.hid (hdB_len ok.out)
      clear hbs hr hb O4 H4
      go_wp2_with (at_builtin; refine wpList_app rfl (.tmp 16) (.tmp 18) rfl rfl O5.out rfl (m := 80) (M := hdB h) (by have q := P5.out (hdB_byt ok.out); rwa [S5.out] at q) (by omega) ?_)
      intro A6 c6 w6 hc6 O6 g6
      have HO6 := Lib.hid O6
      clear O6 g6
      go_wp2_with fail
      exact ⟨⟨k + 1, by omega, by go_num, _, _, rfl, by rw [HT.out]; exact HO6.out⟩, by simp [intOf]; omega⟩
    · obtain rfl : k = n := by omega
      go_wp2_with fail
      go_ret
      refine ⟨_, _, _, rfl, ?_, ?_⟩
      · exact HO.out.cap
      · have q := HO.out
        rw [List.take_of_length_le (by rw [HN.out]; exact Nat.le_refl _)] at q
        exact q

set_option maxRecDepth 100000 in
set_option maxHeartbeats 2000000 in
theorem refRow_any {A : Option Addr} {n c : Nat} {l : List Hd} (w : World) (hn : n ≤ 1000000) (hL : Hs w A n l) : Calls Tryd.prog 21 #[.slice A n c] w (GivesB w (hsB l)) := by
  have HL := Lib.hid hL
  have HN := Lib.hid hL.len
  have O0 := Lib.hid (Own.mk0 (Below.refl w.heap.size w))
  clear hL
  go_enter Tryd.func21, Tryd.ntmps21
  go_wp2_with fail
  go_loopw [3, 4] (fun v i wr => ∃ k : Nat, k ≤ n ∧ i = .int .i64 (k : Nat) ∧ ∃ A' c', v = .slice A' (80 * k) c' ∧ Own w (.slice A' (80 * k) c') (80 * k) (hsB (l.take k)) wr) (fun _ i _ => n - (intOf i).toNat)
  case atStart => exact ⟨0, Nat.zero_le _, rfl, _, _, rfl, O0.out⟩
  case round =>
    clear O0
    obtain ⟨k, hk, rfl, A', c', rfl, O⟩ := hrel
    have HO := Lib.hid O
    clear O
    by_cases hlt : k < n
    · obtain ⟨b, o, rfl, _, _⟩ := HL.out.cel (by omega)
      have ad := add_at b o
      have RG := Lib.hid (((HL.out.later HO.out.bel).at_ hlt).2)
      have ok := Lib.hid (nthH_ok HL.out.ok k)
      have ll := Lib.hid (hdV_len ok.out)
      have HT := Lib.hid (hsB_take (l := l) (k := k) (by rw [HN.out]; exact hlt))
      obtain ⟨h, hh⟩ : ∃ h, nthH l k = h := ⟨_, rfl⟩
      rw [hh] at RG ok ll HT
      clear hh
      go_wp2_with (refine wpList_load_part rfl (.tmp 14) rfl rfl rowHd RG.out ll.out ?_)
      refine (refPut_any ok.out _).mono ?_
      rintro e w5 ⟨A5, n5, k5, rfl, hnc, O5⟩
      have O4 := Lib.hid (HO.out.later O5.bel)
      have P5 := Lib.hid O5.reads
      obtain rfl : n5 = 80 := by rw [← O5.len]; exact hdB_len ok.out
      clear O5 HO
      go_wp2_with (at_builtin; refine wpList_app rfl (.tmp 11) (.tmp 16) rfl rfl O4.out rfl (m := 80) (M := hdB h) P5.out (by omega) ?_)
      intro A6 c6 w6 hc6 O6 g6
      have HO6 := Lib.hid O6
      clear O6 g6
      go_wp2_with fail
      exact ⟨⟨k + 1, by omega, by go_num, _, _, rfl, by rw [HT.out]; exact HO6.out⟩, by simp [intOf]; omega⟩
    · obtain rfl : k = n := by omega
      go_wp2_with fail
      go_ret
      refine ⟨_, _, _, rfl, ?_, ?_⟩
      · exact HO.out.cap
      · have q := HO.out
        rw [List.take_of_length_le (by rw [HN.out]; exact Nat.le_refl _)] at q
        exact q
end Go.Proofs.YtkocbkckfkbmhaaDoor
