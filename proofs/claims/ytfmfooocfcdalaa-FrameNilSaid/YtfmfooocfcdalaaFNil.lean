/- FrameNil: of no framer; two framers do not hang together. No condition. -/
import Derived.Test.YtfmfooocfcdalaaFWorks
namespace Go.Proofs.Ytfmfooocfcdalaa
open Go.RowKit

abbrev Yes (w : World) (e : Ending) (w' : World) : Prop := e = .returned (.bool true) ∧ Below w.heap.size w w'

set_option maxRecDepth 100000 in
set_option maxHeartbeats 8000000 in
theorem nil_law {A B : Option Addr} {n c m d : Nat} {L K : List Nat} {w : World} (hnc : n ≤ c) (hc : c ≤ 9223372036854775807) (hL : Bs w A n L) (hmd : m ≤ d) (hd : d ≤ 9223372036854775807) (hK : Bs w B m K) :
    Calls Try.prog 6 #[.slice A n c, .slice B m d] w (Yes w) := by
  have HL := Lib.hid hL
  have HK := Lib.hid hK
  clear hL hK
  by_cases hv : 4096 < n
  · have t1 : decide ((4096 : Int) < (n : Int)) = true := decide_eq_true (by omega)
    go_enter Try.func6, Try.ntmps6
    go_wp2_with fail
    refine (works_any _).mono ?_
    rintro e w1 ⟨rfl, hb⟩
    have HB := Lib.hid hb
    clear hb
    go_wp2_with fail
    go_ret
    exact ⟨rfl, HB.out⟩
  · have t1 : decide ((4096 : Int) < (n : Int)) = false := decide_eq_false (by omega)
    by_cases hu : 4096 < m
    · have t2 : decide ((4096 : Int) < (m : Int)) = true := decide_eq_true (by omega)
      go_enter Try.func6, Try.ntmps6
      go_wp2_with fail
      refine (works_any _).mono ?_
      rintro e w1 ⟨rfl, hb⟩
      have HB := Lib.hid hb
      clear hb
      go_wp2_with fail
      go_ret
      exact ⟨rfl, HB.out⟩
    · have t2 : decide ((4096 : Int) < (m : Int)) = false := decide_eq_false (by omega)
      have hn : n ≤ 4096 := by omega
      have hm : m ≤ 4096 := by omega
      have KL : Hid (0 < m → ∀ a, B = some a → a.block < w.heap.size) := Lib.hid fun h0 a e => by
        obtain ⟨b, e2, hb, _⟩ := HK.out.cel h0
        rw [e] at e2; injection e2 with e2; subst e2; exact hb
      have LL : Hid (0 < n → ∀ a, A = some a → a.block < w.heap.size) := Lib.hid fun h0 a e => by
        obtain ⟨b, e2, hb, _⟩ := HL.out.cel h0
        rw [e] at e2; injection e2 with e2; subst e2; exact hb
      clear hv hu
      go_enter Try.func6, Try.ntmps6
      go_wp2_with fail
      refine (feed_nil _).mono ?_
      rintro e w1 ⟨rfl, hb⟩
      have B1 := Lib.hid hb
      have hs1 : w.heap.size ≤ w1.heap.size := hb.size
      clear hb
      go_wp2_with fail
      refine (new_any _).mono ?_
      rintro e w2 ⟨rfl, rfl⟩
      go_wp2_with fail
      refine (new_any _).mono ?_
      rintro e w2 ⟨rfl, rfl⟩
      rw [World.size_alloc]
      obtain ⟨W2, hW2⟩ : ∃ W2, W2 = (w1.alloc (.cells #[.slice none 0 0, .bool false] 48)).alloc (.cells #[.slice none 0 0, .bool false] 48) := ⟨_, rfl⟩
      have FA : Hid (FrB W2 w1.heap.size (.slice none 0 0) false) := Lib.hid (by rw [hW2]; exact (new_frB w1).alloc _)
      have FB : Hid (FrB W2 (w1.heap.size + 1) (.slice none 0 0) false) := Lib.hid (by
        rw [hW2]
        have := new_frB (w1.alloc (.cells #[.slice none 0 0, .bool false] 48))
        rwa [World.size_alloc] at this)
      have B2 : Hid (Below w.heap.size w W2) := Lib.hid (by rw [hW2]; exact (B1.out.alloc hs1 _).alloc (by simp only [World.size_alloc]; omega) _)
      have z2 : W2.heap.size = w1.heap.size + 2 := by rw [hW2]; simp
      rw [← hW2]
      clear hW2
      go_wp2_with fail
      refine (held_nil _).mono ?_
      rintro e w2 ⟨rfl, rfl⟩
      go_wp2_with fail
      refine (over_nil _).mono ?_
      rintro e w3 ⟨rfl, rfl⟩
      go_wp2_with fail
      refine (fed_any (w0 := w) (L := L) _ B2.out FA.out hs1 (HL.out.later B2.out) hnc hc (by omega) (fun h0 a e => by have := LL.out h0 a e; omega)).mono ?_
      rintro e w3 ⟨ls1, M1, ov1, v1, B1', c1, _, rfl, _, _, _, O1, _, _, old1⟩
      obtain ⟨e1, he1⟩ : ∃ e1 : Int, (if ov1 = true then 6 else 0) = e1 := ⟨_, rfl⟩
      rw [he1]
      have B3 := Lib.hid O1.bel
      have FB3 : Hid (FrB w3 (w1.heap.size + 1) (.slice none 0 0) false) := Lib.hid (FB.out.same (old1 _ FB.out.lt (by omega)))
      clear O1 old1 he1
      go_wp2_with fail
      refine (fed_any (w0 := w) (L := K) _ B3.out FB3.out (by omega) (HK.out.later B3.out) hmd hd (by omega) (fun h0 a e => by have := KL.out h0 a e; omega)).mono ?_
      rintro e w4 ⟨ls2, M2, ov2, v2, B2', c2, h2, rfl, l2, n2, _, O2, _, _, _⟩
      obtain ⟨e2, he2⟩ : ∃ e2 : Int, (if ov2 = true then 6 else 0) = e2 := ⟨_, rfl⟩
      rw [he2]
      have B4 := Lib.hid O2.bel
      have L4 := Lib.hid l2
      have H2 := Lib.hid h2
      have z4 : w.heap.size ≤ w4.heap.size := O2.bel.size
      clear O2 he2 h2 l2
      go_wp2_with fail
      refine (new_any _).mono ?_
      rintro e w5 ⟨rfl, rfl⟩
      have B5 : Hid (Below w.heap.size w (w4.alloc (.cells #[.slice none 0 0, .bool false] 48))) := Lib.hid (B4.out.alloc z4 _)
      go_wp2_with fail
      refine (fed_any (w0 := w) (L := K) _ B5.out (new_frB w4) z4 (HK.out.later B5.out) hmd hd (by omega) (fun h0 a e => by have := KL.out h0 a e; omega)).mono ?_
      rintro e w6 ⟨ls3, M3, ov3, v3, B3', c3, h3, rfl, l3, n3, _, O3, _, F3, old3⟩
      obtain ⟨e3, he3⟩ : ∃ e3 : Int, (if ov3 = true then 6 else 0) = e3 := ⟨_, rfl⟩
      rw [he3]
      have z6 : w4.heap.size ≤ w6.heap.size := by have := F3.lt; omega
      have g6 : Below w4.heap.size w4 w6 := ⟨O3.bel.os.trans B4.out.os.symm, O3.bel.tape.trans B4.out.tape.symm, O3.bel.output.trans B4.out.output.symm, z6, fun k hk => (old3 k (by simp; omega) (by omega)).trans (Below.heap_alloc w4 _ k hk)⟩
      have X6 := Lib.hid (L4.out.later g6)
      have Y6 := Lib.hid l3
      have B6 := Lib.hid O3.bel
      have hls : ls2 = ls3 := by
        have := H2.out.symm.trans h3
        simp only [Prod.mk.injEq] at this
        exact this.1
      subst hls
      have hkl : K.length ≤ 4096 := by rw [HK.out.len]; exact hm
      have b2 : ls2.length ≤ 549755813888 := by omega
      clear O3 he3 h3 l3 old3 F3 g6 n2 n3
      go_wp2_with fail
      refine (sames_any _ b2 b2 X6.out Y6.out).mono ?_
      rintro e w7 ⟨rfl, hb⟩
      rw [decide_eq_true (rfl : ls2 = ls2)]
      have B7 := Lib.hid (B6.out.trans (hb.mono B6.out.size))
      clear hb
      go_wp2_with fail
      refine (works_any _).mono ?_
      rintro e w8 ⟨rfl, hb⟩
      have B8 := Lib.hid (B7.out.trans (hb.mono B7.out.size))
      clear hb
      go_wp2_with fail
      go_ret
      exact ⟨rfl, B8.out⟩
end Go.Proofs.Ytfmfooocfcdalaa
