/- Scripts and their hashes: the program's and the reference's. No condition but bounds, and that the tables lie as laid. -/
import Derived.Test.YthglegjnkhifeaaDoorLaid
import Derived.Test.YthglegjnkhifeaaDoorEq
import Derived.Test.YthglegjnkhifeaaDoorPut
import Derived.Test.YthglegjnkhifeaaDoorConcat
import Derived.Test.YthglegjnkhifeaaDoorGrow
namespace Go.Proofs.YthglegjnkhifeaaDoor
open Go.RowKit

theorem box_store {wa wb : World} {o : Obj} (g : (wa.alloc o).grownBy wb (some wa.heap.size)) : Below wa.heap.size wa wb := ((Below.refl wa.heap.size wa).alloc (Nat.le_refl _) o).grown g (by simp) (fun q e => by injection e; omega)
def z32 : List Nat := List.replicate 32 0
theorem z32_ok : z32.length = 32 ∧ AllB z32 := ⟨rfl, fun x hx => by rw [List.eq_of_mem_replicate hx]; decide⟩
def scriptS (L : List Nat) (i : Nat) : List Nat := [0, 20] ++ (shaS (putS L i 4)).take 20
open Classical in
noncomputable def scS (L : List Nat) (i : Int) : List Nat := if i < 0 then [] else scriptS L i.toNat
open Classical in
noncomputable def haS (L : List Nat) (i : Int) : List Nat := if i < 0 then z32 else shaS (scriptS L i.toNat)
theorem scriptS_len (L : List Nat) (i : Nat) : (scriptS L i).length = 22 := by
  unfold scriptS
  rw [List.length_append, List.length_take, shaS_len]; rfl
theorem scriptS_byt (L : List Nat) (i : Nat) : AllB (scriptS L i) := AllB.app (fun x hx => by
  rcases List.mem_cons.1 hx with rfl | h
  · decide
  · rw [List.mem_singleton] at h; subst h; decide) (fun x hx => shaS_byt _ x (List.mem_of_mem_take hx))
theorem haS_ok (L : List Nat) (i : Int) : (haS L i).length = 32 := by
  unfold haS
  split
  · rfl
  · exact shaS_len _
theorem put4_len (L : List Nat) (i : Nat) : (putS L i 4).length = L.length + 4 := by
  rw [putS_yes (by decide), List.length_append, low_length]; rfl
theorem shaSum_m {M : List Nat} {m c : Nat} (hn : M.length = m) (hMb : AllB M) (hm : m ≤ 1099511627776) (w : World) (hLd : Laid w) {A : Option Addr} (hA : Bs w A m M) (hc : m ≤ c) :
    Calls Tryd.prog 15 #[.slice A m c] w fun e w' => e = .returned (.agg (vals (shaS M)).toArray) ∧ Below w.heap.size w w' := by
  subst hn
  exact shaSum_any hMb hm w hLd hA hc
theorem Bs.lit2 (w : World) : Bs (w.alloc (.cells #[.int .u8 0, .int .u8 20] 5)) (some ⟨w.heap.size, 0, none⟩) 2 [0, 20] := Bs.lit w [0, 20] (fun x hx => by
  rcases List.mem_cons.1 hx with rfl | h
  · decide
  · rw [List.mem_singleton] at h; subst h; decide)
theorem Own.lit2 {w0 w : World} (b : Below w0.heap.size w0 w) : Own w0 (.slice (some ⟨w.heap.size, 0, none⟩) 2 2) 2 [0, 20] (w.alloc (.cells #[.int .u8 0, .int .u8 20] 5)) :=
  Own.full (b.alloc b.size _) [0, 20] (Bs.lit2 w).byt 2 (by unfold maxLen; omega) #[.int .u8 0, .int .u8 20] rfl (Nat.le_refl _) rfl b.size (heap_alloc_new w _)
theorem gives_nil (w : World) : GivesB w [] (.returned (.slice none 0 0)) w := ⟨_, _, _, rfl, Nat.le_refl _, World.ownsRow_nil _ _ _ _, allB_nil, Below.refl _ _⟩

set_option maxRecDepth 100000 in
set_option maxHeartbeats 4000000 in
theorem script_any {A : Option Addr} {n c : Nat} {L : List Nat} {i : Int} (w : World) (hLd : Laid w) (hi : i ≤ 2147483648) (hn : n ≤ 1000) (hL : Bs w A n L) : Calls Tryd.prog 8 #[.slice A n c, .int .i64 i] w (GivesB w (scS L i)) := by
  unfold scS
  have HL := Lib.hid hL
  have HD := Lib.hid hLd
  have GN := Lib.hid (gives_nil w)
  clear hL hLd
  by_cases h0 : i < 0
  · have t1 : decide (i < 0) = true := decide_eq_true h0
    rw [if_pos h0]
    go_enter Tryd.func8, Tryd.ntmps8
    go_wp2_with fail
    go_ret
    exact GN.out
  · have t1 : decide (i < 0) = false := decide_eq_false h0
    rw [if_neg h0]
    obtain ⟨q, rfl⟩ : ∃ q : Nat, i = (q : Int) := ⟨i.toNat, by omega⟩
    rw [Int.toNat_natCast]
    have uw : IntKind.u64.wrap (q : Int) = (q : Int) := by rw [IntKind.wrap_u64]; omega
    have CP := Lib.hid (put_any (c := c) q (by omega) 4 w (by omega) HL.out)
    have ML := put4_len L q
    unfold scriptS
    obtain ⟨M, hM⟩ : ∃ M, putS L q 4 = M := ⟨_, rfl⟩
    rw [hM] at CP ML ⊢
    have S32 := Lib.hid (shaS_len M)
    have SB := Lib.hid (shaS_byt M)
    obtain ⟨H, hH⟩ : ∃ H, shaS M = H := ⟨_, rfl⟩
    rw [hH] at S32 SB ⊢
    have HHq := Lib.hid hH
    have lH := Lib.hid (show (vals H).length = 32 by rw [vals_length]; exact S32.out)
    clear hH hM
    go_enter Tryd.func8, Tryd.ntmps8
    go_wp2_with fail
    refine CP.out.mono ?_
    rintro e w1 ⟨A1, n1, c1, rfl, hc1, O⟩
    have hl1 := O.len
    have B1 := Lib.hid O.bel
    have cs := shaSum_m (c := c1) hl1 O.byt (by have := HL.out.len; omega) w1 (HD.out.later HD.out.lt O.bel) O.reads hc1
    rw [HHq.out] at cs
    have CS := Lib.hid cs
    clear CP O ML cs
    go_wp2_with fail
    refine CS.out.mono ?_
    rintro e w2 ⟨rfl, hb⟩
    have B2 := Lib.hid (B1.out.trans (hb.mono B1.out.size))
    clear hb CS B1
    go_wp2_with (refine wpList_store_ro rfl (.tmp 5) (.tmp 12) rfl rfl rfl row26 (Ro.new w2 27 (vals z32)) rfl lH.out (vals_one _) ?_)
    intro w3 R3 g3
    have B3 := Lib.hid (B2.out.trans ((box_store g3).mono B2.out.size))
    have HR3 := Lib.hid R3
    clear R3 g3 B2
    go_wp2_with fail
    have b4 := (Below.refl w3.heap.size w3).alloc (Nat.le_refl _) (.cells #[.int .u8 0, .int .u8 20] 5)
    have b5 := b4.alloc b4.size (.cells #[.slice (some ⟨w3.heap.size, 0, none⟩) 2 2, .slice (some ⟨w2.heap.size, 0, none⟩) 20 32] 22)
    have HB := HR3.out.bs SB.out
    have HB20 : Bs w3 (some ⟨w2.heap.size, 0, none⟩) 20 (H.take 20) := by
      have e : H = H.take 20 ++ H.drop 20 := (List.take_append_drop _ _).symm
      rw [S32.out] at HB
      rw [e] at HB
      exact HB.head (by rw [List.length_take, S32.out]; rfl)
    have CC := concat_any (q := w3.heap.size + 1) (c1 := 2) (c2 := 32) ((w3.alloc (.cells #[.int .u8 0, .int .u8 20] 5)).alloc (.cells #[.slice (some ⟨w3.heap.size, 0, none⟩) 2 2, .slice (some ⟨w2.heap.size, 0, none⟩) 20 32] 22))
      (by have h := heap_alloc_new (w3.alloc (.cells #[.int .u8 0, .int .u8 20] 5)) (.cells #[.slice (some ⟨w3.heap.size, 0, none⟩) 2 2, .slice (some ⟨w2.heap.size, 0, none⟩) 20 32] 22)
          rwa [World.size_alloc] at h) (by decide) (by decide)
      ((Bs.lit2 w3).later ((Below.refl _ _).alloc (Nat.le_refl _) _)) (HB20.later b5)
    refine CC.mono ?_
    rintro e w6 ⟨A6, n6, c6, rfl, hc6, O6⟩
    have G6 : Hid (GivesB w ([0, 20] ++ H.take 20) (.returned (.slice A6 n6 c6)) w6) := Lib.hid ⟨_, _, _, rfl, hc6, O6.weaken (B3.out.trans (b5.mono B3.out.size))⟩
    clear CC O6 b4 b5 HB HB20
    go_wp2_with fail
    go_ret
    exact G6.out

set_option maxRecDepth 100000 in
set_option maxHeartbeats 4000000 in
theorem refScript_any {A : Option Addr} {n c : Nat} {L : List Nat} {i : Int} (w : World) (hi : i ≤ 2147483648) (hn : n ≤ 1000) (hL : Bs w A n L) : Calls Tryd.prog 9 #[.slice A n c, .int .i64 i] w (GivesB w (scS L i)) := by
  unfold scS
  have HL := Lib.hid hL
  have GN := Lib.hid (gives_nil w)
  clear hL
  by_cases h0 : i < 0
  · have t1 : decide (i < 0) = true := decide_eq_true h0
    rw [if_pos h0]
    go_enter Tryd.func9, Tryd.ntmps9
    go_wp2_with fail
    go_ret
    exact GN.out
  · have t1 : decide (i < 0) = false := decide_eq_false h0
    rw [if_neg h0]
    obtain ⟨q, rfl⟩ : ∃ q : Nat, i = (q : Int) := ⟨i.toNat, by omega⟩
    rw [Int.toNat_natCast]
    have u32 : IntKind.u32.wrap (q : Int) = (q : Int) := by rw [IntKind.wrap_u32]; omega
    have uw : IntKind.u64.wrap (q : Int) = (q : Int) := by rw [IntKind.wrap_u64]; omega
    have ML := put4_len L q
    have O0 : Hid (Own w (.slice none 0 0) 0 [] w) := Lib.hid ⟨World.ownsRow_nil _ _ _ _, allB_nil, Below.refl _ _⟩
    unfold scriptS
    obtain ⟨M, hM⟩ : ∃ M, putS L q 4 = M := ⟨_, rfl⟩
    rw [hM] at ML ⊢
    have HMq := Lib.hid hM
    have S32 := Lib.hid (shaS_len M)
    have SB := Lib.hid (shaS_byt M)
    obtain ⟨H, hH⟩ : ∃ H, shaS M = H := ⟨_, rfl⟩
    rw [hH] at S32 SB ⊢
    have HHq := Lib.hid hH
    have lH := Lib.hid (show (vals H).length = 32 by rw [vals_length]; exact S32.out)
    clear hM hH
    go_enter Tryd.func9, Tryd.ntmps9
    go_wp2_with (refine wpList_app rfl (.tmp 9) (.tmp 10) rfl rfl O0.out rfl HL.out (by omega) ?_)
    intro A1 c1 w1 hc1 O1 g1
    have HO1 := Lib.hid O1
    clear O1 g1 O0
    go_wp2_with fail
    have CP := rput_any (c := c1) q (by omega) 4 w1 (by omega) HO1.out.reads
    rw [HMq.out] at CP
    refine CP.mono ?_
    rintro e w2 ⟨A2, n2, c2, rfl, hc2, O2⟩
    have hl2 := O2.len
    have B2 := Lib.hid (HO1.out.bel.trans (O2.bel.mono HO1.out.bel.size))
    have CS := refSum_any (c := c2) w2 (by have := HL.out.len; omega) O2.reads
    rw [HHq.out] at CS
    have HCS := Lib.hid CS
    clear O2 CP CS ML HO1
    go_wp2_with fail
    refine HCS.out.mono ?_
    rintro e w3 ⟨rfl, hb⟩
    have B3 := Lib.hid (B2.out.trans (hb.mono B2.out.size))
    clear hb HCS B2
    go_wp2_with (refine wpList_store_ro rfl (.tmp 6) (.tmp 17) rfl rfl rfl row26 (Ro.new w3 27 (vals z32)) rfl lH.out (vals_one _) ?_)
    intro w4 R4 g4
    have B4 := Lib.hid (B3.out.trans ((box_store g4).mono B3.out.size))
    have HR4 := Lib.hid R4
    clear R4 g4 B3
    have HB := HR4.out.bs SB.out
    have HB20 : Bs w4 (some ⟨w3.heap.size, 0, none⟩) 20 (H.take 20) := by
      have e : H = H.take 20 ++ H.drop 20 := (List.take_append_drop _ _).symm
      rw [S32.out] at HB
      rw [e] at HB
      exact HB.head (by rw [List.length_take, S32.out]; rfl)
    have OL := Lib.hid (Own.lit2 B4.out)
    have HX := Lib.hid (HB20.later ((Below.refl _ _).alloc (Nat.le_refl _) (.cells #[.int .u8 0, .int .u8 20] 5)))
    clear HB HB20
    go_wp2_with (refine wpList_app rfl (.tmp 18) (.tmp 19) rfl rfl OL.out rfl HX.out (by decide) ?_)
    intro A5 c5 w5 hc5 O5 g5
    have G6 : Hid (GivesB w ([0, 20] ++ H.take 20) (.returned (.slice A5 22 c5)) w5) := Lib.hid ⟨_, _, _, rfl, hc5, O5⟩
    clear O5 g5
    go_wp2_with fail
    go_ret
    exact G6.out

set_option maxRecDepth 100000 in
set_option maxHeartbeats 4000000 in
theorem hash_any {A : Option Addr} {n c : Nat} {L : List Nat} {i : Int} (w : World) (hLd : Laid w) (hi : i ≤ 2147483648) (hn : n ≤ 1000) (hL : Bs w A n L) : Calls Tryd.prog 10 #[.slice A n c, .int .i64 i] w fun e w' => e = .returned (.agg (vals (haS L i)).toArray) ∧ Below w.heap.size w w' := by
  unfold haS
  have HL := Lib.hid hL
  have HD := Lib.hid hLd
  have b1 := (Below.refl w.heap.size w).alloc (Nat.le_refl _) (.cells (vals z32).toArray 27)
  have HB := Lib.hid b1
  have RZ := Lib.hid (Ro.new w 27 (vals z32))
  have BZ : ∀ w, (Instr.build 27 #[]).run Tryd.prog w = .ok (.agg (vals z32).toArray) w := fun w => by kernel_rfl
  have lz := Lib.hid (show (vals z32).length = 32 from rfl)
  clear hL hLd b1
  by_cases h0 : i < 0
  · have t1 : decide (i < 0) = true := decide_eq_true h0
    rw [if_pos h0]
    go_enter Tryd.func10, Tryd.ntmps10
    go_wp2_with (refine wpList_store_ro (vs := vals z32) rfl (.tmp 4) (.tmp 7) rfl rfl rfl row26 RZ.out lz.out lz.out (vals_one _) ?_)
    intro w6 R6 g6
    go_wp2_with fail
    exact bodyPost_ret (results_ro Tryd.results10 _ rfl row26 R6 lz.out) rfl ⟨rfl, HB.out.grown g6 HB.out.size (fun q e => by injection e; omega)⟩
  · have t1 : decide (i < 0) = false := decide_eq_false h0
    rw [if_neg h0]
    have CS := script_any (c := c) (L := L) (i := i) _ (HD.out.later HD.out.lt HB.out) hi hn (HL.out.later HB.out)
    unfold scS at CS
    rw [if_neg h0] at CS
    obtain ⟨M, hM⟩ : ∃ M, scriptS L i.toNat = M := ⟨_, rfl⟩
    have l22 := scriptS_len L i.toNat
    rw [hM] at CS l22 ⊢
    have HCS := Lib.hid CS
    clear CS hM
    have lH := Lib.hid (show (vals (shaS M)).length = 32 by rw [vals_length]; exact shaS_len M)
    obtain ⟨H, hH⟩ : ∃ H, shaS M = H := ⟨_, rfl⟩
    rw [hH] at lH ⊢
    have HHq := Lib.hid hH
    clear hH
    go_enter Tryd.func10, Tryd.ntmps10
    go_wp2_with fail
    refine HCS.out.mono ?_
    rintro e w1 ⟨A1, n1, c1, rfl, hc1, O⟩
    have B1 := Lib.hid (HB.out.trans (O.bel.mono HB.out.size))
    have R1 := Lib.hid (RZ.out.later O.bel)
    have ct := shaSum_m (c := c1) O.len O.byt (by have := O.len; omega) w1 (HD.out.later HD.out.lt B1.out) O.reads hc1
    rw [HHq.out] at ct
    have CT := Lib.hid ct
    clear O HCS HB RZ ct
    go_wp2_with fail
    refine CT.out.mono ?_
    rintro e w2 ⟨rfl, hb⟩
    have B2 := Lib.hid (B1.out.trans (hb.mono B1.out.size))
    have R2 := Lib.hid (R1.out.later hb)
    clear hb CT B1 R1
    go_wp2_with (refine wpList_store_ro rfl (.tmp 4) (.tmp 11) rfl rfl rfl row26 R2.out lz.out lH.out (vals_one _) ?_)
    intro w6 R6 g6
    go_wp2_with fail
    exact bodyPost_ret (results_ro Tryd.results10 _ rfl row26 R6 lH.out) rfl ⟨rfl, B2.out.grown g6 B2.out.size (fun q e => by injection e; omega)⟩

set_option maxRecDepth 100000 in
set_option maxHeartbeats 4000000 in
theorem refHash_any {A : Option Addr} {n c : Nat} {L : List Nat} {i : Int} (w : World) (hi : i ≤ 2147483648) (hn : n ≤ 1000) (hL : Bs w A n L) : Calls Tryd.prog 11 #[.slice A n c, .int .i64 i] w fun e w' => e = .returned (.agg (vals (haS L i)).toArray) ∧ Below w.heap.size w w' := by
  unfold haS
  have HL := Lib.hid hL
  have b1 := (Below.refl w.heap.size w).alloc (Nat.le_refl _) (.cells (vals z32).toArray 27)
  have HB := Lib.hid b1
  have RZ := Lib.hid (Ro.new w 27 (vals z32))
  have lz := Lib.hid (show (vals z32).length = 32 from rfl)
  clear hL b1
  by_cases h0 : i < 0
  · have t1 : decide (i < 0) = true := decide_eq_true h0
    rw [if_pos h0]
    go_enter Tryd.func11, Tryd.ntmps11
    go_wp2_with (refine wpList_store_ro (vs := vals z32) rfl (.tmp 4) (.tmp 7) rfl rfl rfl row26 RZ.out lz.out lz.out (vals_one _) ?_)
    intro w6 R6 g6
    go_wp2_with fail
    exact bodyPost_ret (results_ro Tryd.results11 _ rfl row26 R6 lz.out) rfl ⟨rfl, HB.out.grown g6 HB.out.size (fun q e => by injection e; omega)⟩
  · have t1 : decide (i < 0) = false := decide_eq_false h0
    rw [if_neg h0]
    have CS := refScript_any (c := c) (L := L) (i := i) _ hi hn (HL.out.later HB.out)
    unfold scS at CS
    rw [if_neg h0] at CS
    obtain ⟨M, hM⟩ : ∃ M, scriptS L i.toNat = M := ⟨_, rfl⟩
    have l22 := scriptS_len L i.toNat
    rw [hM] at CS l22 ⊢
    have HCS := Lib.hid CS
    clear CS hM
    have lH := Lib.hid (show (vals (shaS M)).length = 32 by rw [vals_length]; exact shaS_len M)
    obtain ⟨H, hH⟩ : ∃ H, shaS M = H := ⟨_, rfl⟩
    rw [hH] at lH ⊢
    have HHq := Lib.hid hH
    clear hH
    go_enter Tryd.func11, Tryd.ntmps11
    go_wp2_with fail
    refine HCS.out.mono ?_
    rintro e w1 ⟨A1, n1, c1, rfl, hc1, O⟩
    have B1 := Lib.hid (HB.out.trans (O.bel.mono HB.out.size))
    have R1 := Lib.hid (RZ.out.later O.bel)
    have ct := refSum_any (c := c1) w1 (by have := O.len; omega) O.reads
    rw [HHq.out] at ct
    have CT := Lib.hid ct
    clear O HCS HB RZ ct
    go_wp2_with fail
    refine CT.out.mono ?_
    rintro e w2 ⟨rfl, hb⟩
    have B2 := Lib.hid (B1.out.trans (hb.mono B1.out.size))
    have R2 := Lib.hid (R1.out.later hb)
    clear hb CT B1 R1
    go_wp2_with (refine wpList_store_ro rfl (.tmp 4) (.tmp 11) rfl rfl rfl row26 R2.out lz.out lH.out (vals_one _) ?_)
    intro w6 R6 g6
    go_wp2_with fail
    exact bodyPost_ret (results_ro Tryd.results11 _ rfl row26 R6 lH.out) rfl ⟨rfl, B2.out.grown g6 B2.out.size (fun q e => by injection e; omega)⟩
end Go.Proofs.YthglegjnkhifeaaDoor
