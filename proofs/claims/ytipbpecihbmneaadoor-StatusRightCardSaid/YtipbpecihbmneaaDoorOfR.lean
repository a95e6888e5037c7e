/- The reference's word of a history. No condition but a bound on the length. -/
import Derived.Test.YtipbpecihbmneaaDoorTextR
import Derived.Test.YtipbpecihbmneaaDoorRSum
import Derived.Test.YtipbpecihbmneaaDoorSha
import Derived.Lib.ConvBytes
namespace Go.Proofs.YtipbpecihbmneaaDoor
open Go.RowKit

def z32 : List Nat := List.replicate 32 0
/-- The word of a history. -/
def ofS (l : List En) : List Nat := if l.length = 0 then [] else hexL (shaS (textS l))
theorem below_bytes (w : World) (s : ByteArray) : Below w.heap.size w (Lib.bytesWorld w 5 s) :=
  ⟨rfl, rfl, rfl, by rw [Lib.bytesWorld_size]; omega, fun i hi => Lib.bytesWorld_at_old w _ s i hi⟩
/-- The bytes of a string. -/
theorem run_bytes {L : List Nat} (h : AllB L) (w : World) : ∃ c w', (convert 9 31 (.string (strB L))).run Tryd.prog w = .ok (.slice (some ⟨w.heap.size, 0, none⟩) L.length c) w' ∧ Bs w' (some ⟨w.heap.size, 0, none⟩) L.length L ∧ Below w.heap.size w w' := by
  have r := Lib.run_convert_string_bytes (P := Tryd.prog) w 9 31 5 (strB L) Tryd.underlying9 Tryd.underlying31 Tryd.underlying5
  rw [strB_size] at r
  refine ⟨_, _, r, ⟨rfl, h, fun _ => ⟨_, rfl, by rw [Lib.bytesWorld_size]; exact Nat.lt_succ_self _, fun k hk => ?_⟩⟩, below_bytes w _⟩
  rw [add_at, Nat.zero_add, Lib.bytesWorld_cell w _ _ k (by rw [strB_size]; exact hk)]
  have e : (strB L).data.toList.getD k 0 = UInt8.ofNat (nth L k) := by
    simp [strB, nth, List.getD, hk]
  rw [e, UInt8.toNat_ofNat', Nat.mod_eq_of_lt (nth_lt h k)]

set_option maxRecDepth 100000 in
set_option maxHeartbeats 4000000 in
theorem refOf_any {A : Option Addr} {n c : Nat} {l : List En} (w : World) (hn : n ≤ 1000000) (hL : Es w A n l) : Calls Tryd.prog 8 #[.slice A n c] w fun e w' => e = .returned (.string (strB (ofS l))) ∧ Below w.heap.size w w' := by
  have HL := Lib.hid hL
  have HN := Lib.hid hL.len
  clear hL
  by_cases h0 : n = 0
  · have t1 : ((n : Int) == 0) = true := by rw [beq_iff_eq]; omega
    have OF : Hid (ofS l = []) := Lib.hid (by unfold ofS; rw [if_pos (by rw [HN.out]; exact h0)])
    clear h0
    go_enter Tryd.func8, Tryd.ntmps8
    go_wp2_with fail
    go_ret
    exact ⟨by rw [OF.out]; rfl, Below.refl _ _⟩
  · have t1 : ((n : Int) == 0) = false := by rw [beq_eq_false_iff_ne]; omega
    have OF : Hid (ofS l = hexL (shaS (textS l))) := Lib.hid (by unfold ofS; rw [if_neg (by rw [HN.out]; exact h0)])
    have CT := htext_any (c := c) w hn HL.out
    have ML := textS_len HL.out.ok
    rw [HN.out] at ML
    have MB := textS_byt HL.out.ok
    obtain ⟨M, hM⟩ : ∃ M, textS l = M := ⟨_, rfl⟩
    rw [hM] at CT ML MB OF
    have lH := Lib.hid (show (vals (shaS M)).length = 32 by rw [vals_length]; exact shaS_len M)
    have bH := Lib.hid (shaS_byt M)
    have sH := Lib.hid (shaS_len M)
    obtain ⟨H, hH⟩ : ∃ H, shaS M = H := ⟨_, rfl⟩
    rw [hH] at lH bH sH OF
    have HHq := Lib.hid hH
    obtain ⟨S, hS⟩ : ∃ S, strB M = S := ⟨_, rfl⟩
    have HS := Lib.hid hS
    rw [hS] at CT
    have HCT := Lib.hid CT
    have HMB := Lib.hid MB
    clear hH hM hS CT MB
    go_enter Tryd.func8, Tryd.ntmps8
    go_wp2_with fail
    refine HCT.out.mono ?_
    rintro e w1 ⟨rfl, hb⟩
    have B1 := Lib.hid hb
    obtain ⟨c2, w2, r, R2, b2⟩ := run_bytes HMB.out w1
    rw [HS.out] at r
    have HR2 := Lib.hid R2
    have B2 := Lib.hid (B1.out.trans (b2.mono B1.out.size))
    obtain ⟨m, hm⟩ : ∃ m, M.length = m := ⟨_, rfl⟩
    rw [hm] at r HR2 ML
    clear hb R2 b2 HCT B1 hm
    have CS := refSum_any (c := c2) w2 (by omega) HR2.out
    rw [HHq.out] at CS
    have HCS := Lib.hid CS
    clear CS
    go_wp2_with fail
    refine HCS.out.mono ?_
    rintro e w3 ⟨rfl, hb⟩
    have B3 := Lib.hid (B2.out.trans (hb.mono B2.out.size))
    clear hb HCS B2 r HR2
    go_wp2_with (refine wpList_store_ro rfl (.tmp 3) (.tmp 10) rfl rfl rfl row26 (Ro.new w3 27 (vals z32)) rfl lH.out (vals_one _) ?_)
    intro w4 R4 g4
    have B4 := Lib.hid (B3.out.trans ((((Below.refl w3.heap.size w3).alloc (Nat.le_refl _) _).grown g4 (by simp) (fun q e => by injection e; omega)).mono B3.out.size))
    have HR4 := Lib.hid R4
    clear R4 g4 B3
    have hb4 := HR4.out.bs bH.out
    rw [sH.out] at hb4
    have CH := Lib.hid (rhex_any (c := 32) w4 (by decide) hb4)
    clear hb4
    go_wp2_with fail
    refine CH.out.mono ?_
    rintro e w5 ⟨rfl, hb⟩
    have B5 := Lib.hid (B4.out.trans (hb.mono B4.out.size))
    clear hb CH
    go_wp2_with fail
    go_ret
    exact ⟨by rw [OF.out]; rfl, B5.out⟩
end Go.Proofs.YtipbpecihbmneaaDoor
