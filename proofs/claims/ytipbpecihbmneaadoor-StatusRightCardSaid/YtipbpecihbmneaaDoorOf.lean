/- The word of a history. No condition but a bound on the length, and that the tables lie as laid. -/
import Derived.Test.YtipbpecihbmneaaDoorEntry
import Derived.Test.YtipbpecihbmneaaDoorBytesB
import Derived.Test.YtipbpecihbmneaaDoorOfR
import Derived.Test.YtipbpecihbmneaaDoorMapH
namespace Go.Proofs.YtipbpecihbmneaaDoor
open Go.RowKit

theorem shaSum_m {M : List Nat} {m c : Nat} (hn : M.length = m) (hMb : AllB M) (hm : m ≤ 1099511627776) (w : World) (hLd : Laid w) {A : Option Addr} (hA : Bs w A m M) (hc : m ≤ c) :
    Calls Tryd.prog 16 #[.slice A m c] w fun e w' => e = .returned (.agg (vals (shaS M)).toArray) ∧ Below w.heap.size w w' := by
  subst hn
  exact shaSum_any hMb hm w hLd hA hc

set_option maxRecDepth 100000 in
set_option maxHeartbeats 4000000 in
theorem of_any {A : Option Addr} {n c : Nat} {l : List En} (w : World) (hLd : Laid w) (hn : n ≤ 1000000) (hL : Es w A n l) : Calls Tryd.prog 7 #[.slice A n c] w fun e w' => e = .returned (.string (strB (ofS l))) ∧ Below w.heap.size w w' := by
  have HL := Lib.hid hL
  have HN := Lib.hid hL.len
  have HD := Lib.hid hLd
  clear hL hLd
  by_cases h0 : n = 0
  · have t1 : ((n : Int) == 0) = true := by rw [beq_iff_eq]; omega
    have OF : Hid (ofS l = []) := Lib.hid (by unfold ofS; rw [if_pos (by rw [HN.out]; exact h0)])
    clear h0
    go_enter Tryd.func7, Tryd.ntmps7
    go_wp2_with fail
    go_ret
    exact ⟨by rw [OF.out]; rfl, Below.refl _ _⟩
  · have t1 : ((n : Int) == 0) = false := by rw [beq_eq_false_iff_ne]; omega
    have OF : Hid (ofS l = hexL (shaS (textS l))) := Lib.hid (by unfold ofS; rw [if_neg (by rw [HN.out]; exact h0)])
    have Bf0 := Lib.hid (show Buf w.heap.size w.heap.size [] (w.alloc (.cells #[.slice none 0 0, .int .i64 0, .int .i8 0] 41)) from LibA.zero_isBuffer (Nat.le_refl _) (LibA.three_whole (heap_alloc_new w _)))
    have B0 := Lib.hid ((Below.refl w.heap.size w).alloc (Nat.le_refl _) (.cells #[.slice none 0 0, .int .i64 0, .int .i8 0] 41))
    clear h0
    go_enter Tryd.func7, Tryd.ntmps7
    go_wp2_with fail
    go_loopw [12] (fun i wr => ∃ k : Nat, k ≤ n ∧ i = .int .i64 (k : Nat) ∧ Buf w.heap.size w.heap.size (textS (l.take k)) wr ∧ Below w.heap.size w wr) (fun i _ => n - (intOf i).toNat)
    case atStart => exact ⟨0, Nat.zero_le _, rfl, Bf0.out, B0.out⟩
    case round =>
      obtain ⟨k, hk, rfl, bf, bel⟩ := hrel
      have HBf := Lib.hid bf
      have HBl := Lib.hid bel
      clear bf bel Bf0 B0
      by_cases hlt : k < n
      · have t2 : decide ((k : Int) < (n : Int)) = true := decide_eq_true (by omega)
        obtain ⟨b, o, rfl, hb, _⟩ := HL.out.cel (by omega)
        have ad := add_at b o
        have R1 := Lib.hid (((HL.out.later HBl.out).at_ hlt).2)
        have ok1 := Lib.hid (nthE_ok HL.out.ok k)
        have TK := Lib.hid (take_nthE (l := l) (k := k) (by rw [HN.out]; exact hlt))
        have ML := textS_len (HL.out.ok.take k)
        rw [List.length_take, HN.out] at ML
        obtain ⟨e, he⟩ : ∃ e, nthE l k = e := ⟨_, rfl⟩
        rw [he] at R1 ok1 TK
        have lE := Lib.hid (enV_len ok1.out)
        have z0 := zeroEn
        have HML := Lib.hid (show (textS (l.take k)).length ≤ 1000000000 by omega)
        clear he hb ML
        go_wp2_with (first | (refine wpList_load_part rfl (.tmp 14) rfl rfl rowEn R1.out lE.out ?_) | (refine wpList_store_ro rfl (.tmp 5) (.tmp 15) rfl rfl rfl rowEn (Ro.new wr 29 (enV zeroE)) rfl lE.out (enV_one _) ?_))
        intro w2 R2 g2
        have b2 : Below wr.heap.size wr w2 := ((Below.refl wr.heap.size wr).alloc (Nat.le_refl _) _).grown g2 (by simp) (fun q e => by injection e; omega)
        have HBf2 := Lib.hid (show Buf w.heap.size w.heap.size (textS (l.take k)) w2 from LibA.IsBuffer.old HBf.out b2)
        have HBl2 := Lib.hid (HBl.out.trans (b2.mono HBl.out.size))
        have HR2 := Lib.hid R2
        clear R2 g2 b2 HBf HBl R1 z0
        have CE := Lib.hid (entry_any ok1.out w2 (HD.out.later HD.out.lt HBl2.out) HD.out.lt HBf2.out HBl2.out.size HML.out)
        go_wp2_with (refine wpList_load_ro rfl (.tmp 5) rfl rfl rowEn HR2.out lE.out ?_)
        refine CE.out.mono ?_
        rintro e' w3 ⟨rfl, b3, bel3⟩
        have F := Lib.hid (show Buf w.heap.size w.heap.size (textS (l.take (k + 1))) w3 by rw [TK.out, textS_app, textS, textS, List.append_nil]; exact b3)
        have G := Lib.hid (HBl2.out.trans bel3)
        clear b3 bel3 CE
        go_wp2_with fail
        exact ⟨⟨k + 1, by omega, by go_num, F.out, G.out⟩, by simp [intOf]; omega⟩
      · have t2 : decide ((k : Int) < (n : Int)) = false := decide_eq_false (by omega)
        obtain rfl : k = n := by omega
        have TA := Lib.hid (show l.take k = l from List.take_of_length_le (by rw [HN.out]; exact Nat.le_refl _))
        rw [TA.out] at HBf
        have MB := Lib.hid (textS_byt HL.out.ok)
        have ML := textS_len HL.out.ok
        rw [HN.out] at ML
        obtain ⟨M, hM⟩ : ∃ M, textS l = M := ⟨_, rfl⟩
        rw [hM] at HBf MB ML OF
        have lH := Lib.hid (show (vals (shaS M)).length = 32 by rw [vals_length]; exact shaS_len M)
        have bH := Lib.hid (shaS_byt M)
        have sH := Lib.hid (shaS_len M)
        obtain ⟨H, hH⟩ : ∃ H, shaS M = H := ⟨_, rfl⟩
        rw [hH] at lH bH sH OF
        have HHq := Lib.hid hH
        have CB := Lib.hid (bytes_any HBf.out MB.out (by omega))
        obtain ⟨m, hm⟩ : ∃ m, M.length = m := ⟨_, rfl⟩
        rw [hm] at CB ML
        have HM := Lib.hid hm
        clear hM hH hm HBf
        go_wp2_with fail
        refine CB.out.mono ?_
        rintro e' w2 ⟨A2, c2, rfl, hc2, R2, b2⟩
        have B2 := Lib.hid (HBl.out.trans (b2.mono HBl.out.size))
        have ct := shaSum_m (c := c2) HM.out MB.out (by omega) w2 (HD.out.later HD.out.lt B2.out) R2 hc2
        rw [HHq.out] at ct
        have CS := Lib.hid ct
        clear ct R2 b2 CB hc2 HBl
        go_wp2_with fail
        refine CS.out.mono ?_
        rintro e' w3 ⟨rfl, hb⟩
        have B3 := Lib.hid (B2.out.trans (hb.mono B2.out.size))
        clear hb CS B2
        go_wp2_with (refine wpList_store_ro rfl (.tmp 6) (.tmp 21) rfl rfl rfl row26 (Ro.new w3 27 (vals z32)) rfl lH.out (vals_one _) ?_)
        intro w4 R4 g4
        have B4 := Lib.hid (B3.out.trans ((((Below.refl w3.heap.size w3).alloc (Nat.le_refl _) _).grown g4 (by simp) (fun q e => by injection e; omega)).mono B3.out.size))
        have hb4 := R4.bs bH.out
        rw [sH.out] at hb4
        have CH := Lib.hid (hex_any (c := 32) w4 (by decide) hb4)
        clear hb4 R4 g4 B3
        go_wp2_with fail
        refine CH.out.mono ?_
        rintro e' w5 ⟨rfl, hb⟩
        have B5 := Lib.hid (B4.out.trans (hb.mono B4.out.size))
        clear hb CH
        go_wp2_with fail
        go_ret
        exact ⟨by rw [OF.out]; rfl, B5.out⟩
end Go.Proofs.YtipbpecihbmneaaDoor
