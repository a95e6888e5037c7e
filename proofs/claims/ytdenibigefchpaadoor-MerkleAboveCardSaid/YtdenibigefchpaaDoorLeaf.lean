/- Leaf, and the reference's Root: no condition but that the tables lie as laid. -/
import Derived.Test.YtdenibigefchpaaDoorRootI
namespace Go.Proofs.YtdenibigefchpaaDoor
open Go.RowKit

def leafS (L : List Nat) : List Nat := if L.length = 64 then z32 else shaS (shaS L)
def leafE (L : List Nat) : Nat := if L.length = 64 then 15 else 0
theorem results_ro2 {fn : Func} {p q : Tmp} {T S : TypeId} {n : Nat} (h : fn.results = #[.cell p T, .tmp q]) (tmps : Array Value) {w : World} {b : Nat} {vs : List Value} {v : Value} (hp : tmps.getD p undef = .pointer (some ⟨b, 0, none⟩)) (hT : IsRow T n) (hr : Ro w b S vs) (hl : vs.length = n) (hq : tmps.getD q undef = v) :
    (results fn tmps).run Tryd.prog w = .ok (.tuple #[.agg vs.toArray, v]) w := by
  have hp' : tmps[p]?.getD undef = .pointer (some ⟨b, 0, none⟩) := by simpa using hp
  have hq' : tmps[q]?.getD undef = v := by simpa using hq
  have key : (loadVar T ⟨b, 0, none⟩).run Tryd.prog w = .ok (.agg vs.toArray) w := by
    obtain ⟨⟨f, h1⟩ | ⟨k, e, h1⟩, h3⟩ := hT
    · exact run_loadVar_row w b S T vs.toArray (0, 0) _ hr h1 rfl (by rw [h3]; simp [hl])
    · exact run_loadVar_row w b S T vs.toArray (0, 0) _ hr h1 rfl (by rw [h3]; simp [hl])
  simp [results, h, hp', hq', asAddr, key]

set_option maxRecDepth 100000 in
set_option maxHeartbeats 1000000 in
theorem leaf_any {A : Option Addr} {n c : Nat} {L : List Nat} (w : World) (hLd : Laid w) (hn : n ≤ 1000000) (hc : n ≤ c) (hL : Bs w A n L) : Calls Tryd.prog 21 #[.slice A n c] w fun e w' => e = .returned (.tuple #[.agg (vals (leafS L)).toArray, .int .i64 (leafE L : Nat)]) ∧ Below w.heap.size w w' := by
  have b1 := (Below.refl w.heap.size w).alloc (Nat.le_refl _) (.cells (vals z32).toArray 24)
  have HB := Lib.hid b1
  have RZ := Lib.hid (Ro.new w 24 (vals z32))
  have HL := Lib.hid hL
  have hl := hL.len
  have HD := Lib.hid hLd
  have lz := Lib.hid (show (vals z32).length = 32 by rw [vals_length]; exact z32_ok.1)
  clear b1 hL hLd
  by_cases h : n = 64
  · subst h
    have e1 : leafS L = z32 := if_pos hl
    have e2 : leafE L = 15 := if_pos hl
    rw [e1, e2]
    clear e1 e2 hl
    go_enter Tryd.func21, Tryd.ntmps21
    go_wp2_with (refine wpList_store_ro (vs := vals z32) rfl (.tmp 2) (.tmp 7) rfl rfl rfl row26 RZ.out rfl lz.out (vals_one _) ?_)
    intro w6 R6 g6
    go_wp2_with fail
    exact bodyPost_ret (results_ro2 Tryd.results21 _ rfl row26 R6 lz.out rfl) rfl ⟨rfl, HB.out.grown g6 HB.out.size (fun q e => by injection e; omega)⟩
  · have e1 : leafS L = shaS (shaS L) := if_neg (by omega)
    have e2 : leafE L = 0 := if_neg (by omega)
    rw [e1, e2]
    have t1 : ((n : Int) == 64) = false := by rw [beq_eq_false_iff_ne]; omega
    obtain ⟨I, hI⟩ : ∃ I, shaS (shaS L) = I := ⟨_, rfl⟩
    have CI := Lib.hid hI
    have ll : Hid ((vals I).length = 32) := Lib.hid (by rw [vals_length, ← hI]; exact shaS_len _)
    rw [hI]
    clear e1 e2 hl hI
    go_enter Tryd.func21, Tryd.ntmps21
    go_wp2_with fail
    refine (shaTwice_m (M := L) HL.out.len HL.out.byt (by omega) _ (HD.out.later HD.out.lt HB.out) (HL.out.later HB.out) hc).mono ?_
    rintro e w3 ⟨rfl, hb⟩
    rw [CI.out]
    have B3 := Lib.hid (HB.out.trans (hb.mono HB.out.size))
    have R3 := Lib.hid (RZ.out.later hb)
    clear hb HB RZ
    go_wp2_with (refine wpList_store_ro rfl (.tmp 2) (.tmp 9) rfl rfl rfl row26 R3.out rfl ll.out (vals_one _) ?_)
    intro w6 R6 g6
    go_wp2_with fail
    exact bodyPost_ret (results_ro2 Tryd.results21 _ rfl row26 R6 ll.out rfl) rfl ⟨rfl, B3.out.grown g6 B3.out.size (fun q e => by injection e; omega)⟩

set_option maxRecDepth 100000 in
set_option maxHeartbeats 1000000 in
theorem refLeaf_any {A : Option Addr} {n c : Nat} {L : List Nat} (w : World) (hn : n ≤ 1000000) (hc : n ≤ c) (hL : Bs w A n L) : Calls Tryd.prog 22 #[.slice A n c] w fun e w' => e = .returned (.tuple #[.agg (vals (leafS L)).toArray, .int .i64 (leafE L : Nat)]) ∧ Below w.heap.size w w' := by
  have b1 := (Below.refl w.heap.size w).alloc (Nat.le_refl _) (.cells (vals z32).toArray 24)
  have HB := Lib.hid b1
  have RZ := Lib.hid (Ro.new w 24 (vals z32))
  have HL := Lib.hid hL
  have hl := hL.len

  have lz := Lib.hid (show (vals z32).length = 32 by rw [vals_length]; exact z32_ok.1)
  clear b1 hL 
  by_cases h : n = 64
  · subst h
    have e1 : leafS L = z32 := if_pos hl
    have e2 : leafE L = 15 := if_pos hl
    rw [e1, e2]
    clear e1 e2 hl
    go_enter Tryd.func22, Tryd.ntmps22
    go_wp2_with (refine wpList_store_ro (vs := vals z32) rfl (.tmp 2) (.tmp 7) rfl rfl rfl row26 RZ.out rfl lz.out (vals_one _) ?_)
    intro w6 R6 g6
    go_wp2_with fail
    exact bodyPost_ret (results_ro2 Tryd.results22 _ rfl row26 R6 lz.out rfl) rfl ⟨rfl, HB.out.grown g6 HB.out.size (fun q e => by injection e; omega)⟩
  · have e1 : leafS L = shaS (shaS L) := if_neg (by omega)
    have e2 : leafE L = 0 := if_neg (by omega)
    rw [e1, e2]
    have t1 : ((n : Int) == 64) = false := by rw [beq_eq_false_iff_ne]; omega
    obtain ⟨I, hI⟩ : ∃ I, shaS (shaS L) = I := ⟨_, rfl⟩
    have CI := Lib.hid hI
    have ll : Hid ((vals I).length = 32) := Lib.hid (by rw [vals_length, ← hI]; exact shaS_len _)
    rw [hI]
    clear e1 e2 hl hI
    go_enter Tryd.func22, Tryd.ntmps22
    go_wp2_with fail
    refine (refTwice_m (M := L) (by omega) _ (HL.out.later HB.out)).mono ?_
    rintro e w3 ⟨rfl, hb⟩
    rw [CI.out]
    have B3 := Lib.hid (HB.out.trans (hb.mono HB.out.size))
    have R3 := Lib.hid (RZ.out.later hb)
    clear hb HB RZ
    go_wp2_with (refine wpList_store_ro rfl (.tmp 2) (.tmp 9) rfl rfl rfl row26 R3.out rfl ll.out (vals_one _) ?_)
    intro w6 R6 g6
    go_wp2_with fail
    exact bodyPost_ret (results_ro2 Tryd.results22 _ rfl row26 R6 ll.out rfl) rfl ⟨rfl, B3.out.grown g6 B3.out.size (fun q e => by injection e; omega)⟩
end Go.Proofs.YtdenibigefchpaaDoor
