/- MerkleFolds: where a branch leads, or that it proves nothing; which bytes may stand in the first row. No condition but that the tables lie as laid. -/
import Derived.Test.YtdenibigefchpaaDoorBrAll
namespace Go.Proofs.YtdenibigefchpaaDoor
open Go.RowKit

theorem leafS_ok (L : List Nat) : (leafS L).length = 32 ∧ AllB (leafS L) := by
  unfold leafS
  split
  · exact z32_ok
  · exact ⟨shaS_len _, shaS_byt _⟩

set_option maxRecDepth 100000 in
set_option maxHeartbeats 8000000 in
theorem folds_law {x : List Nat} {A : Option Addr} {n c : Nat} {l : List (List Nat)} {k : Int} {B : Option Addr} {m d : Nat} {M : List Nat} {w : World} (ox : x.length = 32 ∧ AllB x) (_ : n ≤ c) (_ : c ≤ 9223372036854775807) (hl : Gs w A n l) (hk : -9223372036854775808 ≤ k ∧ k ≤ 9223372036854775807) (hmd : m ≤ d) (_ : d ≤ 9223372036854775807) (hM : Bs w B m M) (hLd : Laid w) :
    Calls Tryd.prog 4 #[.agg (vals x).toArray, .slice A n c, .int .i64 k, .slice B m d] w fun e w' => e = .returned (.bool true) ∧ Below w.heap.size w w' := by
  have HD := Lib.hid hLd
  have HL := Lib.hid hl
  have HM := Lib.hid hM
  have OX := Lib.hid ox
  have B0 := Lib.hid ((Below.refl w.heap.size w).alloc (Nat.le_refl _) (.cells (vals x).toArray 24))
  have RX := Lib.hid (Ro.new w 24 (vals x))
  have lx := Lib.hid (show (vals x).length = 32 by rw [vals_length]; exact ox.1)
  clear hLd hl ox hM
  have fin : ∀ w1, Below w.heap.size w w1 → Calls Tryd.prog 9 #[] w1 fun e w' => e = .returned (.bool true) ∧ Below w.heap.size w w' := fun w1 b => (works_any w1 (HD.out.later HD.out.lt b)).mono fun e w' ⟨h1, h2⟩ => ⟨h1, b.trans (h2.mono b.size)⟩
  have FIN := Lib.hid fin
  clear fin
  go_enter Tryd.func4, Tryd.ntmps4
  by_cases hn : 300 < n
  · have t0 : decide ((300 : Int) < (n : Int)) = true := decide_eq_true (by omega)
    go_wp2_with fail
    refine (FIN.out _ B0.out).mono ?_
    rintro e w1 ⟨rfl, hb⟩
    have HB := Lib.hid hb
    clear hb
    go_wp2_with fail
    go_ret
    exact ⟨rfl, HB.out⟩
  have t0 : decide ((300 : Int) < (n : Int)) = false := decide_eq_false (by omega)
  by_cases hm : 300 < m
  · have t1 : decide ((300 : Int) < (m : Int)) = true := decide_eq_true (by omega)
    go_wp2_with fail
    refine (FIN.out _ B0.out).mono ?_
    rintro e w1 ⟨rfl, hb⟩
    have HB := Lib.hid hb
    clear hb
    go_wp2_with fail
    go_ret
    exact ⟨rfl, HB.out⟩
  have t1 : decide ((300 : Int) < (m : Int)) = false := decide_eq_false (by omega)
  have CF := Lib.hid (fun w1 (b : Below w.heap.size w w1) => foldC_any (c := c) (k := k) w1 (HD.out.later HD.out.lt b) OX.out hk.2 (HL.out.later b))
  have CG := Lib.hid (fun w1 (b : Below w.heap.size w w1) => refFoldC_any (c := c) (k := k) w1 OX.out hk.2 (HL.out.later b))
  have CL := Lib.hid (fun w1 (b : Below w.heap.size w w1) => leaf_any (c := d) w1 (HD.out.later HD.out.lt b) (by omega) hmd (HM.out.later b))
  have CK := Lib.hid (fun w1 (b : Below w.heap.size w w1) => refLeaf_any (c := d) w1 (by omega) hmd (HM.out.later b))
  have okV := (flV_ok (l := l) (k := k) OX.out).1
  have okS := (leafS_ok M).1
  have EQV := eq_same okV
  have EQS := eq_same okS
  obtain ⟨V, hV⟩ : ∃ V, flV x l k = V := ⟨_, rfl⟩
  obtain ⟨E, hE⟩ : ∃ E, flE x l k = E := ⟨_, rfl⟩
  obtain ⟨S, hS⟩ : ∃ S, leafS M = S := ⟨_, rfl⟩
  obtain ⟨F, hF⟩ : ∃ F : Int, ((leafE M : Nat) : Int) = F := ⟨_, rfl⟩
  rw [hV, hE] at CF CG
  rw [hS, hF] at CL CK
  rw [hV] at okV EQV
  rw [hS] at okS EQS
  have lV := Lib.hid (show (vals V).length = 32 by rw [vals_length]; exact okV)
  have lS := Lib.hid (show (vals S).length = 32 by rw [vals_length]; exact okS)
  have lz := Lib.hid (show (vals z32).length = 32 by rw [vals_length]; exact z32_ok.1)
  have e1 : (E == E) = true := beq_self_eq_true E
  have e2 : (F == F) = true := beq_self_eq_true F
  clear hV hE hS hF okV okS hk
  go_wp2_with (refine wpList_load_ro rfl (.tmp 4) rfl rfl row26 RX.out lx.out ?_)
  refine (CF.out _ B0.out).mono ?_
  rintro e w1 ⟨rfl, hb⟩
  replace RX := Lib.hid (RX.out.later hb)
  replace B0 := Lib.hid (B0.out.trans (hb.mono B0.out.size))
  clear hb
  go_wp2_with (refine wpList_store_ro rfl (.tmp 9) (.tmp 31) rfl rfl rfl row26 (Ro.new w1 24 (vals z32)) lz.out lV.out (vals_one _) ?_)
  intro w2 RZ gZ
  have hb := box_store gZ
  have R9 := Lib.hid RZ
  replace RX := Lib.hid (RX.out.later hb)
  replace B0 := Lib.hid (B0.out.trans (hb.mono B0.out.size))
  clear hb RZ gZ
  go_wp2_with (refine wpList_load_ro rfl (.tmp 4) rfl rfl row26 RX.out lx.out ?_)
  refine (CG.out _ B0.out).mono ?_
  rintro e w3 ⟨rfl, hb⟩
  replace RX := Lib.hid (RX.out.later hb)
  replace R9 := Lib.hid (R9.out.later hb)
  replace B0 := Lib.hid (B0.out.trans (hb.mono B0.out.size))
  clear hb
  go_wp2_with (refine wpList_store_ro rfl (.tmp 11) (.tmp 38) rfl rfl rfl row26 (Ro.new w3 24 (vals z32)) lz.out lV.out (vals_one _) ?_)
  intro w4 RZ gZ
  have hb := box_store gZ
  have R11 := Lib.hid RZ
  replace RX := Lib.hid (RX.out.later hb)
  replace R9 := Lib.hid (R9.out.later hb)
  replace B0 := Lib.hid (B0.out.trans (hb.mono B0.out.size))
  clear hb RZ gZ
  go_wp2_with fail
  refine (CL.out _ B0.out).mono ?_
  rintro e w5 ⟨rfl, hb⟩
  replace RX := Lib.hid (RX.out.later hb)
  replace R9 := Lib.hid (R9.out.later hb)
  replace R11 := Lib.hid (R11.out.later hb)
  replace B0 := Lib.hid (B0.out.trans (hb.mono B0.out.size))
  clear hb
  go_wp2_with (refine wpList_store_ro rfl (.tmp 13) (.tmp 43) rfl rfl rfl row26 (Ro.new w5 24 (vals z32)) lz.out lS.out (vals_one _) ?_)
  intro w6 RZ gZ
  have hb := box_store gZ
  have R13 := Lib.hid RZ
  replace RX := Lib.hid (RX.out.later hb)
  replace R9 := Lib.hid (R9.out.later hb)
  replace R11 := Lib.hid (R11.out.later hb)
  replace B0 := Lib.hid (B0.out.trans (hb.mono B0.out.size))
  clear hb RZ gZ
  go_wp2_with fail
  refine (CK.out _ B0.out).mono ?_
  rintro e w7 ⟨rfl, hb⟩
  replace RX := Lib.hid (RX.out.later hb)
  replace R9 := Lib.hid (R9.out.later hb)
  replace R11 := Lib.hid (R11.out.later hb)
  replace R13 := Lib.hid (R13.out.later hb)
  replace B0 := Lib.hid (B0.out.trans (hb.mono B0.out.size))
  clear hb
  go_wp2_with (refine wpList_store_ro rfl (.tmp 15) (.tmp 48) rfl rfl rfl row26 (Ro.new w7 24 (vals z32)) lz.out lS.out (vals_one _) ?_)
  intro w8 RZ gZ
  have hb := box_store gZ
  have R15 := Lib.hid RZ
  replace RX := Lib.hid (RX.out.later hb)
  replace R9 := Lib.hid (R9.out.later hb)
  replace R11 := Lib.hid (R11.out.later hb)
  replace R13 := Lib.hid (R13.out.later hb)
  replace B0 := Lib.hid (B0.out.trans (hb.mono B0.out.size))
  clear hb RZ gZ
  go_wp2_with (first | (refine wpList_load_ro rfl (.tmp 9) rfl rfl row26 R9.out lV.out ?_) | (refine wpList_load_ro rfl (.tmp 11) rfl rfl row26 R11.out lV.out ?_) | (refine BigFrame.wpList_want (by rfl) fun K hK => wp_load_ro (.tmp 13) rfl rfl row26 R13.out lS.out (hK _ _ ?_)) | (refine BigFrame.wpList_want (by rfl) fun K hK => wp_load_ro (.tmp 15) rfl rfl row26 R15.out lS.out (hK _ _ ?_)))
  refine (FIN.out _ B0.out).mono ?_
  rintro e w9 ⟨rfl, hb⟩
  have HB := Lib.hid hb
  clear hb
  go_wp2_with fail
  go_ret
  exact ⟨rfl, HB.out⟩
end Go.Proofs.YtdenibigefchpaaDoor
