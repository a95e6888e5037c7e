/- header.Cut: the headers whose bytes these are. No condition but a bound on the length. -/
import Derived.Test.YtkocbkckfkbmhaaDoorCutI
import Derived.Test.YtkocbkckfkbmhaaDoorGet
import Derived.Outline
namespace Go.Proofs.YtkocbkckfkbmhaaDoor
open Go.RowKit Go.Shelf
attribute [local go_sem] Oper.semAt_some

set_option maxRecDepth 100000 in
set_option maxHeartbeats 4000000 in
theorem cut_in {A : Option Addr} {n c : Nat} {L : List Nat} (w : World) (hr : n % 80 = 0) (hm : n ≤ 8000) (hnc : n ≤ c) (hc : c ≤ 9223372036854775807) (hL : Bs w A n L) : CallsIn Fence.wide 3 Tryd.prog 18 #[.slice A n c] w (CutGives w L) := by
  have HL := Lib.hid hL
  have HN := Lib.hid hL.len
  have hA : 0 < n → ∃ b o, A = some ⟨b, o, none⟩ := fun h => by
    obtain ⟨a, rfl, _, _⟩ := hL.cel h
    obtain ⟨b, o, rfl⟩ := hL.plain h
    exact ⟨b, o, rfl⟩
  have HA := Lib.hid hA
  clear hL hA
  have t1 : (((n : Int) % 80) != 0) = false := by rw [bne_eq_false_iff_eq]; omega
  have t2 : decide ((8000 : Int) < (n : Int)) = false := decide_eq_false (by omega)
  refine callsIn_of_wp_marks Tryd.func18 rfl trivial ?_ rfl
  simp only [Tryd.ntmps18, List.size_toArray, List.length_cons, List.length_nil, Nat.reduceAdd, Nat.reduceSub, Array.replicate_succ, Array.replicate_zero, List.push_toArray, List.append_toArray, List.nil_append, List.cons_append]
  gi_wp2_with (refine ⟨trivial, ?_⟩; gi_at_call 31; refine (parts_in _ _ _ _).mono ?_; rintro e w2 ⟨rfl, rfl⟩)
  obtain ⟨W4, hW4⟩ : ∃ W4, W4 = (w.alloc (.cells #[.slice none 0 0] 38)).alloc (.cells #[.slice A n c] 27) := ⟨_, rfl⟩
  have z4 : W4.heap.size = w.heap.size + 2 := by rw [hW4]; simp
  have b4 : Below w.heap.size w W4 := by rw [hW4]; exact ((Below.refl _ w).alloc (Nat.le_refl _) _).alloc (by simp only [World.size_alloc]; omega) _
  have J4 : CJ w L 0 (.slice none 0 0) W4 := ⟨by rw [hW4]; exact (Boxed.new w _ _).alloc _, OwnH.none_ b4, fun q e => by (cases e), by omega⟩
  have X4 : Boxed W4 (w.heap.size + 1) 27 (.slice A n c) := by
    rw [hW4]
    have := Boxed.new (w.alloc (.cells #[.slice none 0 0] 38)) 27 (.slice A n c)
    rwa [World.size_alloc] at this
  rw [← hW4]
  have B4 := Lib.hid b4
  have Z4 := Lib.hid z4
  clear hW4 b4 z4
  refine range_turns (w := W4) rfl (by decide) (gf := 34) (lb := #[.pointer (some ⟨w.heap.size + 1, 0, none⟩)]) rfl trivial (enters_of Tryd.func34 (by kernel_rfl) rfl)
    (encs := fun x : Nat => #[.slice (A.map fun a => ⟨a.block, a.off + 80 * x, none⟩) 80 (c - 80 * x)]) (Tn := Tb (w.heap.size + 1)) (Kp := Kb (w.heap.size + 1)) (S := fun xs => xs = List.range (n / 80)) (Sp := TellsP n)
    (parts_turns (w.heap.size + 1) A n c HA.out hnc hc W4 X4) (fun A B h => tb_keeps A B h)
    kb_t (fun W l o o' hl _ _ _ => World.putObj_heap_other (by have := Z4.out; omega)) (fun _ => rfl)
    (fun pre W => ∃ k v, pre = List.range k ∧ CJ w L k v W) (fun _ _ _ => False)
    (fun s X Y row hs hg hr => by
      obtain ⟨k, v, e, hs⟩ := hs
      exact ⟨k, v, e, hs.keep (Keeps.of_grown (by have := hs.size; omega) hg fun r e => ⟨by have := (hr r e).1; have := Z4.out; omega, (hr r e).2⟩)⟩)
    (fun cd s X Y row hs hg hr => hs.elim)
    (fun s X Y hs ht => by
      obtain ⟨k, v, e, hs⟩ := hs
      exact ⟨k, v, e, hs.keep (Keeps.of_box (by omega) ht)⟩)
    ⟨0, _, rfl, J4⟩
    (fun x => { tmps := #[Value.slice A n c, undef, Value.slice none 0 0, Value.int IntKind.i64 0, Value.pointer (some { block := w.heap.size, off := 0 }), (Value.slice (A.map fun a => ⟨a.block, a.off + 80 * x, none⟩) 80 (c - 80 * x)), undef, undef, Value.bool false, Value.slice A n c, Value.int IntKind.i64 (n : Int), Value.int IntKind.i64 ((n : Int) % 80), Value.bool false, Value.bool false, Value.slice A n c, Value.int IntKind.i64 (n : Int), Value.bool false, Value.slice A n c, Value.func (Fn.func 34) #[] #[Value.pointer (some { block := w.heap.size + 1, off := 0 })], (Value.slice (A.map fun a => ⟨a.block, a.off + 80 * x, none⟩) 80 (c - 80 * x)), undef, undef, undef, undef, undef, undef, undef, undef, undef, undef], defers := [] }) ?assign ?body ?done ?stop
  case assign =>
    intro l x W K hK
    gi_wp2
    exact hK
  case stop => exact fun D cd pre W hD hS h hK => h.elim
  case done =>
    rintro D ys W hD hS ⟨k, v, e, J⟩ hK
    subst hS
    obtain rfl : k = n / 80 := by
      have := congrArg List.length e
      simpa using this.symm
    have c4 := J.box.cell
    have HJ := Lib.hid J
    have zW : w.heap.size + 2 ≤ W.heap.size := J.size
    have J9 := J.keep (Keeps.of_grown (by omega) (grownBy_putObj' W D (.deferred none)) (fun r e => by cases e; exact ⟨by have := Z4.out; omega, _, hK, rfl⟩))
    obtain ⟨lA, lc, rfl, _⟩ := J9.own.shape
    have HJ9 := Lib.hid (ret_cut J9.own (cutAll_ok HN.out hr hm))
    have HK := Lib.hid hK
    clear J J9 hK e
    gi_wp2
    refine ⟨by simp, .inl ⟨_, _, rfl, run_takeDeferred HK.out, .tuple #[.slice lA (n / 80) lc, .int .i64 0], ?_, HJ9.out⟩⟩
    simp [results, Tryd.f18, go_sem]
  case body =>
    rintro l pre x W ⟨k, v, rfl, J⟩ ⟨k', hk1, hk2⟩
    obtain rfl : k' = k + 1 := by
      have := congrArg List.length hk1
      simpa using this.symm
    obtain rfl : x = k := by
      rw [List.range_succ] at hk1
      have := List.append_inj_right hk1 rfl
      simpa using this
    obtain ⟨b, o, rfl⟩ := HA.out (by omega)
    have hLW : Bs W (some ⟨b, o + 80 * x, none⟩) 80 (piece L x) := (HL.out.later J.own.bel).piece (by omega)
    have ok := Lib.hid (getH_ok (piece_byt HL.out.byt x) (piece_len (L := L) (k := x) (by rw [HN.out]; omega)))
    have CT : Hid (cutN L (x + 1) = cutN L x ++ [getH (piece L x)]) := Lib.hid rfl
    have ll := Lib.hid (hdV_len ok.out)
    have CG := Lib.hid (get_any (c := c - 80 * x) W (n := 80) rfl (by omega) hLW)
    obtain ⟨h, hh⟩ : ∃ h, getH (piece L x) = h := ⟨_, rfl⟩
    rw [hh] at ok CT ll CG
    have HJ := Lib.hid J
    have zW : w.heap.size + 2 ≤ W.heap.size := J.size
    have x1000 : x ≤ 1000 := by omega
    clear hh hLW J hk1
    dsimp only [Option.map_some]
    have z0 := zeroHd
    gi_wp2_with (first | (refine ⟨trivial, ?_⟩; gi_at_call 12; refine (CallsIn.inRound l (callsIn_wide.2 CG.out)).mono ?_; rintro e w1 ⟨rfl, hb⟩; have Hb := Lib.hid hb; clear hb) | (refine inStore rfl (.tmp 6) (.tmp 23) rfl rfl rfl rowHd (Ro.new _ 26 (hdV zeroH)) rfl ll.out (hdV_one _) ?_))
    intro w2 R2 g2
    rename_i w1 Hb
    have b2 := box_store g2
    have bb : Below W.heap.size W w2 := Hb.out.trans (b2.mono Hb.out.size)
    have J2 := HJ.out.later bb
    obtain ⟨vA, vc, rfl, _⟩ := J2.own.shape
    have c4 := J2.box.cell
    have J3 := J2.later ((Below.refl w2.heap.size w2).alloc (Nat.le_refl _) (.cells (hdV h).toArray 26))
    have RD3 : Rd w.heap.size W (w2.alloc (.cells (hdV h).toArray 26)) := Rd.below zW (bb.trans (((Below.refl w2.heap.size w2).alloc (Nat.le_refl _) (.cells (hdV h).toArray 26)).mono bb.size))
    have HR2 := Lib.hid R2
    have HR3 := Lib.hid (Ro.new w2 26 (hdV h))
    have HJ3 := Lib.hid J3
    have HRD3 := Lib.hid RD3
    have Z1 : Hid (w1.heap.size ≠ w.heap.size) := Lib.hid (by have := Hb.out.size; omega)
    clear R2 g2 b2 bb J2 J3 RD3 Hb HJ CG z0
    gi_wp2_with (first | (refine inLoad rfl (.tmp 6) rfl rfl rowHd HR2.out ll.out ?_) | (refine inLit rfl (.tmp 26) rfl rfl ll.out ?_) | (refine inApp rfl (.tmp 25) (.tmp 27) rfl rfl HJ3.out.own rfl ok.out HR3.out (by omega) ?_))
    intro A6 c6 w6 hc6 O6 g6 n6
    have JN := HJ3.out.next O6 CT.out g6 (by rw [World.size_alloc]; exact n6)
    have bx : Boxed w6 w.heap.size 38 _ := HJ3.out.box.kept g6 (fun e => by have := HJ3.out.new _ e.symm; omega)
    have RD6 := (HRD3.out.trans (Rd.row HJ3.out.own.row g6 HJ3.out.size (fun e => by have := HJ3.out.new _ e; omega))).trans (Rd.set w6 ⟨w.heap.size, 0, none⟩ (.slice A6 (x + 1) c6) (by show w.heap.size ≠ w.heap.size + 1; omega))
    have q6 := bx.cell
    have y6 := bx.frozen
    have HJN := Lib.hid JN
    have HRD6 := Lib.hid RD6
    clear JN RD6 bx O6 g6 n6 HJ3 HRD3 HR2 HR3
    gi_wp2
    refine ⟨by rw [Z4.out]; exact HRD6.out.1, HRD6.out.2, x + 1, _, by rw [List.range_succ], HJN.out⟩

set_option maxRecDepth 100000 in
set_option maxHeartbeats 1000000 in
theorem cut_any {A : Option Addr} {n c : Nat} {L : List Nat} (w : World) (hnc : n ≤ c) (hc : c ≤ 9223372036854775807) (hL : Bs w A n L) : Calls Tryd.prog 18 #[.slice A n c] w (CutGives w L) := by
  have HL := Lib.hid hL
  have HN := Lib.hid hL.len
  have O0 := Lib.hid (OwnH.none_ (Below.refl w.heap.size w))
  clear hL
  by_cases hr : n % 80 = 0
  · by_cases hm : n ≤ 8000
    · exact callsIn_wide.1 (cut_in w hr hm hnc hc HL.out)
    · have t1 : (((n : Int) % 80) != 0) = false := by rw [bne_eq_false_iff_eq]; omega
      have t2 : decide ((8000 : Int) < (n : Int)) = true := decide_eq_true (by omega)
      go_enter Tryd.func18, Tryd.ntmps18
      go_wp2_with fail
      go_ret2
      exact ret_cut O0.out (cutAll_many HN.out hr hm)
  · have t1 : (((n : Int) % 80) != 0) = true := by rw [bne_iff_ne]; omega
    go_enter Tryd.func18, Tryd.ntmps18
    go_wp2_with fail
    go_ret2
    exact ret_cut O0.out (cutAll_bad HN.out hr)
end Go.Proofs.YtkocbkckfkbmhaaDoor
