/- Turned and Unturned of the package octet and of the document's answers of layer 4: a hash's bytes as letters, the last one first. No condition but a bound on the length. -/
import Derived.Test.YtipbpecihbmneaaDoorHash
import Derived.Test.YtipbpecihbmneaaDoorRHex
namespace Go.Proofs.YtipbpecihbmneaaDoor
open Go.RowKit

set_option maxRecDepth 100000 in
set_option maxHeartbeats 4000000 in
theorem turned_any {H : List Nat} (hH : H32 H) (w : World) : Calls Tryd.prog 27 #[hashV H] w fun e w' => e = .returned (.string (strB (hexL H.reverse))) ∧ Below w.heap.size w w' := by
  have HH := Lib.hid hH
  have HR := Lib.hid hH.rev
  clear hH
  have b0 : Below w.heap.size w (w.alloc (.cells (vals H).toArray 27)) := (Below.refl _ _).alloc (Nat.le_refl _) _
  have B0 := Lib.hid b0
  clear b0
  go_enter Tryd.func27, Tryd.ntmps27
  unfold hashV
  go_wp2_with fail
  refine (reverse_any w.heap.size _ (Nat.le_refl _) (by omega) HH.out.len HH.out.byt (Row.new w _ H)).mono ?_
  rintro e w2 ⟨rfl, hr, hb⟩
  have hrd := hr.reads HR.out.byt
  rw [HR.out.len] at hrd
  have R2 := Lib.hid hrd
  have B2 := Lib.hid (B0.out.trans hb)
  clear hr hb hrd
  go_wp2_with fail
  refine (hex_any _ (by omega) R2.out).mono ?_
  rintro e w3 ⟨rfl, hb⟩
  have B3 := Lib.hid (B2.out.trans (hb.mono B2.out.size))
  clear hb
  go_wp2_with fail
  go_ret
  exact ⟨rfl, B3.out⟩

set_option maxRecDepth 100000 in
set_option maxHeartbeats 4000000 in
theorem rturned_any {H : List Nat} (hH : H32 H) (w : World) : Calls Tryd.prog 13 #[hashV H] w fun e w' => e = .returned (.string (strB (hexL H.reverse))) ∧ Below w.heap.size w w' := by
  have HH := Lib.hid hH
  have HR := Lib.hid hH.rev
  clear hH
  have R0 := Lib.hid (Row.new w 27 H)
  have b0 : Below w.heap.size w (w.alloc (.cells (vals H).toArray 27)) := (Below.refl _ _).alloc (Nat.le_refl _) _
  have B0 := Lib.hid b0
  clear b0
  go_enter Tryd.func13, Tryd.ntmps13
  unfold hashV
  go_wp2_with (refine wpList_load_hash rfl (.tmp 1) rfl rfl R0.out HH.out.len ?_)
  refine (back_any HH.out _).mono ?_
  rintro e w2 ⟨rfl, hb⟩
  have B2 := Lib.hid (B0.out.trans (hb.mono B0.out.size))
  have b3 : Below w.heap.size w (w2.alloc (.cells (vals (List.replicate 32 0)).toArray 27)) := B2.out.alloc B2.out.size _
  have B3 := Lib.hid b3
  have R3 := Lib.hid (Row.new w2 27 (List.replicate 32 0))
  clear hb b3
  go_wp2_with (refine wpList_store_hash rfl (.tmp 3) (.tmp 5) rfl rfl rfl R3.out (by simp) HR.out.len ?_; intro w' h1 h2; have H1 := Lib.hid h1; have H2 := Lib.hid h2; clear h1 h2)
  have B4 := Lib.hid (B3.out.grown H2.out B3.out.size (fun q e => by cases e; exact B2.out.size))
  have hrd := H1.out.reads HR.out.byt
  rw [HR.out.len] at hrd
  have R4 := Lib.hid hrd
  clear hrd
  refine (rhex_any _ (by omega) R4.out).mono ?_
  rintro e w3 ⟨rfl, hb⟩
  have B5 := Lib.hid (B4.out.trans (hb.mono B4.out.size))
  clear hb
  go_wp2_with fail
  go_ret
  exact ⟨rfl, B5.out⟩
end Go.Proofs.YtipbpecihbmneaaDoor
