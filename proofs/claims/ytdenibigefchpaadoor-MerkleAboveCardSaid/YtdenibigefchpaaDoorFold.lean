/- merkle.Fold where the number goes with the branch: the root to which it leads, or that it proves nothing. No condition but that the tables lie as laid. -/
import Derived.Test.YtdenibigefchpaaDoorRefTwice
namespace Go.Proofs.YtdenibigefchpaaDoor
open Go.RowKit

/-- What Fold gives of a number that goes with the branch. -/
def foldV : Option (List Nat) → List Nat
  | none => z32
  | some r => r
def foldE : Option (List Nat) → Nat
  | none => 15
  | some _ => 0
structure FoA (w : World) (id : List Nat) (br : List (List Nat)) (k0 : Nat) (j q : Nat) (x : List Nat) (wr : World) : Prop where
  eq : fold joinS x (br.drop j) q = fold joinS id br k0
  id : Ro wr w.heap.size 24 (vals x)
  ok : x.length = 32 ∧ AllB x
  res : Ro wr (w.heap.size + 1) 24 (vals z32)
  bel : Below w.heap.size w wr

set_option maxRecDepth 100000 in
set_option maxHeartbeats 4000000 in
theorem fold_any {A : Option Addr} {n c k : Nat} {x : List Nat} {l : List (List Nat)} (w : World) (hLd : Laid w) (ox : x.length = 32 ∧ AllB x) (hn : n ≤ 32) (hk2 : k ≤ 9223372036854775807) (hsh : ((k : Int) / 2 ^ n) = 0) (hL : Gs w A n l) :
    Calls Tryd.prog 19 #[.agg (vals x).toArray, .slice A n c, .int .i64 (k : Nat)] w fun e w' => e = .returned (.tuple #[.agg (vals (foldV (fold joinS x l k))).toArray, .int .i64 (foldE (fold joinS x l k) : Nat)]) ∧ Below w.heap.size w w' := by
  have z1 := (Below.refl w.heap.size w).alloc (Nat.le_refl _) (.cells (vals x).toArray 24)
  have z2 := z1.alloc z1.size (.cells (vals z32).toArray 24)
  have r2 := Ro.new (w.alloc (.cells (vals x).toArray 24)) 24 (vals z32)
  rw [World.size_alloc] at r2
  have F0 : Hid (FoA w x l k 0 k x ((w.alloc (.cells (vals x).toArray 24)).alloc (.cells (vals z32).toArray 24))) := Lib.hid ⟨rfl, (Ro.new w _ _).alloc _, ox, r2, z2⟩
  have HL := Lib.hid hL
  have HN := Lib.hid hL.len
  have HD := Lib.hid hLd
  have lz := Lib.hid (show (vals z32).length = 32 by rw [vals_length]; exact z32_ok.1)
  obtain ⟨R, hR⟩ : ∃ R, fold joinS x l k = R := ⟨_, rfl⟩
  rw [hR]
  have HR := Lib.hid hR
  have t1 : decide ((32 : Int) < (n : Int)) = false := decide_eq_false (by omega)
  have t2 : decide ((k : Int) < 0) = false := decide_eq_false (by omega)
  clear z1 z2 r2 hL hLd hR
  go_enter Tryd.func19, Tryd.ntmps19
  go_wp2_with fail
  go_loopw [2, 28] (fun kv iv wr => ∃ (j q : Nat) (y : List Nat), kv = .int .i64 (q : Nat) ∧ iv = .int .i64 (j : Nat) ∧ j ≤ n ∧ q ≤ 9223372036854775807 ∧ FoA w x l k j q y wr) (fun _ iv _ => n - (intOf iv).toNat)
  case atStart => exact ⟨0, k, x, rfl, rfl, Nat.zero_le _, hk2, F0.out⟩
  case round =>
    clear F0 t2 hsh
    obtain ⟨j, q, y, rfl, rfl, hj, hq, F⟩ := hrel
    have HF := Lib.hid F
    clear F
    by_cases hlt : j < n
    · have HG := Lib.hid (HL.out.later HF.out.bel)
      obtain ⟨b, o, rfl, hb, _⟩ := HG.out.cel (by omega)
      have ad := add_at b o
      have R0 := (HG.out.at_ hlt).2
      have ok := nt_ok HG.out.ok (k := j) (by rw [HN.out]; exact hlt)
      have dr : l.drop j = nt l j :: l.drop (j + 1) := by rw [List.drop_eq_getElem_cons (by rw [HN.out]; exact hlt), nt_get]
      have fe := HF.out.eq
      rw [dr] at fe
      obtain ⟨h, hh⟩ : ∃ h, nt l j = h := ⟨_, rfl⟩
      rw [hh] at R0 ok fe
      obtain ⟨r, hr⟩ : ∃ r, q / 2 = r := ⟨_, rfl⟩
      have HRR := Lib.hid hr
      have FE := Lib.hid fe
      have ll := Lib.hid (show (vals h).length = 32 by rw [vals_length]; exact ok.1)
      have ly := Lib.hid (show (vals y).length = 32 by rw [vals_length]; exact HF.out.ok.1)
      have OK := Lib.hid ok
      have R1 := Lib.hid (range_later R0 hb ((Below.refl _ _).alloc (Nat.le_refl _) (.cells (vals z32).toArray 24)))
      have HR0 := Lib.hid R0
      have RN := Lib.hid (Ro.new wr 24 (vals z32))
      have d1 : (q : Int) / 2 = (r : Int) := by omega
      clear R0 ok dr fe hh hr hb
      go_wp2_with (first | (refine wpList_load_part rfl (.tmp 30) rfl rfl row26 HR0.out ll.out ?_) | (refine wpList_store_ro rfl (.tmp 9) (.tmp 31) rfl rfl rfl row26 RN.out rfl ll.out (vals_one _) ?_))
      intro w6 R6 g6
      have b6 := box_store g6
      have RH := Lib.hid R6
      have RI := Lib.hid (HF.out.id.later b6)
      have RS := Lib.hid (HF.out.res.later b6)
      have B6 := Lib.hid (HF.out.bel.trans (b6.mono HF.out.bel.size))
      have LT : Hid (w.heap.size + 2 ≤ wr.heap.size) := Lib.hid HF.out.res.lt
      clear R6 g6 b6 R1 RN HR0
      by_cases he : q % 2 = 0
      · have FN : Hid (fold joinS (joinS y h) (l.drop (j + 1)) r = fold joinS x l k) := Lib.hid (by rw [← FE.out, fold, if_pos he, HRR.out])
        have e1 : (((q : Int) % 2) == 0) = true := by rw [beq_iff_eq]; omega
        have CJ := Lib.hid (join_any HF.out.ok OK.out w6 (HD.out.later HD.out.lt B6.out))
        have HJ := Lib.hid (joinS_ok y h)
        obtain ⟨I, hI⟩ : ∃ I, joinS y h = I := ⟨_, rfl⟩
        rw [hI] at FN CJ HJ
        have li := Lib.hid (show (vals I).length = 32 by rw [vals_length]; exact HJ.out.1)
        clear hI
        go_wp2_with (first | (refine wpList_load_ro rfl (.tmp 3) rfl rfl row26 RI.out ly.out ?_) | (refine wpList_load_ro rfl (.tmp 9) rfl rfl row26 RH.out ll.out ?_))
        refine CJ.out.mono ?_
        rintro e w8 ⟨rfl, hb8⟩
        have RI8 := Lib.hid (RI.out.later hb8)
        have RS8 := Lib.hid (RS.out.later hb8)
        have B8 := Lib.hid (B6.out.trans (hb8.mono B6.out.size))
        clear hb8 RI RS RH B6 CJ
        go_wp2_with (refine wpList_store_ro rfl (.tmp 3) (.tmp 41) rfl rfl rfl row26 RI8.out ly.out li.out (vals_one _) ?_)
        intro w9 R9 g9
        have F9 : Hid (FoA w x l k (j + 1) r I w9) := Lib.hid ⟨FN.out, R9, HJ.out, RS8.out.far g9 (fun e => by injection e; omega), B8.out.grown g9 B8.out.size (fun q e => by injection e; omega)⟩
        clear R9 g9 RI8 RS8 B8
        go_wp2_with fail
        exact ⟨⟨j + 1, r, I, by go_num, by go_num, by omega, by have := HRR.out; omega, F9.out⟩, by simp [intOf]; omega⟩
      · have e1 : (((q : Int) % 2) == 0) = false := by rw [beq_eq_false_iff_ne]; omega
        have EQ := fun w => eq_hash HF.out.ok.1 OK.out.1 w
        by_cases hyh : y = h
        · have FN : Hid (fold joinS x l k = none) := Lib.hid (by rw [← FE.out, fold, if_neg he, if_pos hyh])
          rw [eqB_yes hyh] at EQ
          have e3 : R = none := HR.out.symm.trans FN.out
          have HE3 := Lib.hid e3
          clear e3 hyh FN
          go_wp2_with (first | (refine wpList_load_ro rfl (.tmp 3) rfl rfl row26 RI.out ly.out ?_) | (refine wpList_load_ro rfl (.tmp 9) rfl rfl row26 RH.out ll.out ?_) | (refine wpList_store_ro (vs := vals z32) rfl (.tmp 6) (.tmp 46) rfl rfl rfl row26 RS.out lz.out lz.out (vals_one _) ?_))
          intro w7 R7 g7
          go_wp2_with fail
          exact bodyPost_ret (results_ro2 Tryd.results19 _ rfl row26 R7 lz.out rfl) rfl ⟨by rw [HE3.out]; rfl, B6.out.grown g7 B6.out.size (fun q e => by injection e; omega)⟩
        · have FN : Hid (fold joinS (joinS h y) (l.drop (j + 1)) r = fold joinS x l k) := Lib.hid (by rw [← FE.out, fold, if_neg he, if_neg hyh, HRR.out])
          rw [eqB_no hyh] at EQ
          have CJ := Lib.hid (join_any OK.out HF.out.ok w6 (HD.out.later HD.out.lt B6.out))
          have HJ := Lib.hid (joinS_ok h y)
          obtain ⟨I, hI⟩ : ∃ I, joinS h y = I := ⟨_, rfl⟩
          rw [hI] at FN CJ HJ
          have li := Lib.hid (show (vals I).length = 32 by rw [vals_length]; exact HJ.out.1)
          clear hI hyh
          go_wp2_with (first | (refine wpList_load_ro rfl (.tmp 3) rfl rfl row26 RI.out ly.out ?_) | (refine wpList_load_ro rfl (.tmp 9) rfl rfl row26 RH.out ll.out ?_))
          refine CJ.out.mono ?_
          rintro e w8 ⟨rfl, hb8⟩
          have RI8 := Lib.hid (RI.out.later hb8)
          have RS8 := Lib.hid (RS.out.later hb8)
          have B8 := Lib.hid (B6.out.trans (hb8.mono B6.out.size))
          clear hb8 RI RS RH B6 CJ
          go_wp2_with (refine wpList_store_ro rfl (.tmp 3) (.tmp 34) rfl rfl rfl row26 RI8.out ly.out li.out (vals_one _) ?_)
          intro w9 R9 g9
          have F9 : Hid (FoA w x l k (j + 1) r I w9) := Lib.hid ⟨FN.out, R9, HJ.out, RS8.out.far g9 (fun e => by injection e; omega), B8.out.grown g9 B8.out.size (fun q e => by injection e; omega)⟩
          clear R9 g9 RI8 RS8 B8
          go_wp2_with fail
          exact ⟨⟨j + 1, r, I, by go_num, by go_num, by omega, by have := HRR.out; omega, F9.out⟩, by simp [intOf]; omega⟩
    · obtain rfl : j = n := by omega
      have fe := HF.out.eq
      rw [List.drop_of_length_le (by rw [HN.out]; exact Nat.le_refl _), fold, HR.out] at fe
      have FE := Lib.hid fe
      have ly := Lib.hid (show (vals y).length = 32 by rw [vals_length]; exact HF.out.ok.1)
      clear fe
      go_wp2_with (first | (refine wpList_load_ro rfl (.tmp 3) rfl rfl row26 HF.out.id ly.out ?_) | (refine wpList_store_ro rfl (.tmp 6) (.tmp 50) rfl rfl rfl row26 HF.out.res lz.out ly.out (vals_one _) ?_))
      intro w7 R7 g7
      go_wp2_with fail
      exact bodyPost_ret (results_ro2 Tryd.results19 _ rfl row26 R7 ly.out rfl) rfl ⟨by rw [← FE.out]; rfl, HF.out.bel.grown g7 HF.out.bel.size (fun q e => by injection e; omega)⟩
end Go.Proofs.YtdenibigefchpaaDoor
