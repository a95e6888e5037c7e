/- DiskKeeps: behind On a file has what was synced, and a beginning of what was written behind it. No condition but the machine's reach. -/
import Derived.Test.YtgnomopiofpknaaKpW
namespace Go.Proofs.Ytgnomopiofpknaa
open Go.RowKit

set_option maxRecDepth 100000 in
set_option maxHeartbeats 8000000 in
theorem keeps_law {V0 V1 : Nat → Value} {a l : Nat → Pcs} {P : Option Addr} {np cp : Nat} {p : List Int} {w : World} (h0 : ∀ k, k < 2 → RowIn w (V0 k) (a k)) (h1 : ∀ k, k < 2 → RowIn w (V1 k) (l k)) (hp1 : np ≤ cp) (hp2 : np ≤ 140737488351232) (hp3 : cp ≤ 9223372036854775807) (hp : Zs w P np p) :
    Calls Try.prog 4 #[.agg [V0 0, V0 1].toArray, .agg [V1 0, V1 1].toArray, .slice P np cp] w fun e w' => e = .returned (.bool true) ∧ Below w.heap.size w w' := by
  obtain ⟨C0, hC0⟩ : ∃ C0, [V0 0, V0 1] = C0 := ⟨_, rfl⟩
  obtain ⟨C1, hC1⟩ : ∃ C1, [V1 0, V1 1] = C1 := ⟨_, rfl⟩
  rw [hC0, hC1]
  have HC0 := Lib.hid hC0
  have HC1 := Lib.hid hC1
  have H0 := Lib.hid h0
  have H1 := Lib.hid h1
  have HP := Lib.hid hp
  clear h0 h1 hp hC0 hC1
  go_enter Try.func4, Try.ntmps4
  go_wp2_with fail
  obtain ⟨g, hg⟩ : ∃ g, w.heap.size = g := ⟨_, rfl⟩
  have B2 : Below w.heap.size w ((w.alloc (.cells C0.toArray 40)).alloc (.cells C1.toArray 40)) := ((Below.refl _ w).alloc (Nat.le_refl _) _).alloc (by rw [World.size_alloc]; omega) _
  have R0 : Ro ((w.alloc (.cells C0.toArray 40)).alloc (.cells C1.toArray 40)) g 40 C0 := by have n := Ro.new w 40 C0; rw [hg] at n; exact n.alloc _
  have R1 : Ro ((w.alloc (.cells C0.toArray 40)).alloc (.cells C1.toArray 40)) (g + 1) 40 C1 := by have n := Ro.new (w.alloc (.cells C0.toArray 40)) 40 C1; rw [World.size_alloc, hg] at n; exact n
  obtain ⟨w2, hw2⟩ : ∃ w2, (w.alloc (.cells C0.toArray 40)).alloc (.cells C1.toArray 40) = w2 := ⟨_, rfl⟩
  rw [hw2] at B2 R0 R1 ⊢
  have HG := Lib.hid hg
  rw [hg]
  clear hg hw2
  refine (new_p (X := fun b => b = g ∨ b = g + 1) B2 (fun k hk => by rcases hk with rfl | rfl <;> first | exact R0.lt | exact R1.lt) (m := 16384) (by decide) (by decide)).mono ?_
  rintro e w3 ⟨d, rfl, hd, D', g3⟩
  have D3 := Lib.hid D'
  have R03 := Lib.hid (R0.later g3)
  have R13 := Lib.hid (R1.later g3)
  clear D' g3 R0 R1 B2 hd
  go_wp2_with fail
  obtain ⟨h, hh⟩ : ∃ h, w3.heap.size = h := ⟨_, rfl⟩
  have HA : Hid (KAt w d g h V0 V1 a l 0 0 0 ((w3.alloc (.cells #[.string ⟨#[]⟩, .string ⟨#[]⟩] 41)).alloc (.cells #[.string ⟨#[]⟩, .string ⟨#[]⟩] 41))) := Lib.hid (by
    have D3 := D3.out
    have hb1 := (Below.refl _ w3).alloc (Nat.le_refl _) (.cells #[.string ⟨#[]⟩, .string ⟨#[]⟩] 41)
    have hb2 := hb1.alloc (by rw [World.size_alloc]; omega) (.cells #[.string ⟨#[]⟩, .string ⟨#[]⟩] 41)
    have B4 := D3.bel.trans (hb2.mono D3.bel.size)
    have n1 := Ro.new w3 41 [.string ⟨#[]⟩, .string ⟨#[]⟩]
    have n2 := Ro.new (w3.alloc (.cells #[.string ⟨#[]⟩, .string ⟨#[]⟩] 41)) 41 [.string ⟨#[]⟩, .string ⟨#[]⟩]
    rw [hh] at n1
    rw [World.size_alloc, hh] at n2
    have e := strs_nil a l
    have lg := R13.out.lt
    refine ⟨newD 16384, D3.wide (Kept.of_below hb2) B4 (fun b hb => ?_), KpS.new _ rfl, ⟨B4, by rw [HG.out]; exact Nat.le_refl _, by omega, ?_, ?_, ?_, ?_⟩, tot_nil a l, by omega, fun k hk => absurd hk (by omega)⟩
    · rw [World.size_alloc, World.size_alloc]
      rcases hb with q | q | q | q
      · exact .inl (.inl q)
      · exact .inl (.inr q)
      · exact .inr ⟨by omega, by omega⟩
      · exact .inr ⟨by omega, by omega⟩
    · rw [HC0.out]; exact R03.out.later hb2
    · rw [HC1.out]; exact R13.out.later hb2
    · rw [e.1]; exact n1.alloc _
    · rw [e.2]; exact n2)
  rw [hh]
  obtain ⟨w4, hw4⟩ : ∃ w4, (w3.alloc (.cells #[.string ⟨#[]⟩, .string ⟨#[]⟩] 41)).alloc (.cells #[.string ⟨#[]⟩, .string ⟨#[]⟩] 41) = w4 := ⟨_, rfl⟩
  rw [hw4] at HA ⊢
  clear hh hw4 D3 R03 R13
  go_loopw [9, 12] (fun n i wr => ∃ f z : Nat, f ≤ 2 ∧ i = .int .i64 (f : Nat) ∧ n = .int .i64 (z : Nat) ∧ KAt w d g h V0 V1 a l f 0 z wr) (fun _ i _ => 2 - (intOf i).toNat)
  case atStart => exact ⟨0, 0, by omega, rfl, rfl, HA.out⟩
  case round =>
    obtain ⟨f, z, hf, rfl, rfl, K1⟩ := hrel
    have HK := Lib.hid K1
    clear K1 HA
    by_cases hf2 : f < 2
    · have t1 : decide ((f : Int) < 2) = true := decide_eq_true (by omega)
      go_wp2_with fail
      obtain ⟨A0, n0, c0, e0, _, hn0, _, r0⟩ := (H0.out f hf2).at_
      obtain ⟨A1, n1, c1, e1, _, hn1, _, r1⟩ := (H1.out f hf2).at_
      have hl0 := r0.len
      have hl1 := r1.len
      have E0 := Lib.hid e0
      have E1 := Lib.hid e1
      have qa : wr.cell? ⟨g, f, none⟩ = some (.slice A0 n0 c0) := by
        obtain ⟨_, _, _, k, _⟩ := HK.out
        rw [k.ca hf2, e0]
      have qb : wr.cell? ⟨g + 1, f, none⟩ = some (.slice A1 n1 c1) := by
        obtain ⟨_, _, _, k, _⟩ := HK.out
        rw [k.cb hf2, e1]
      clear e0 e1 r0 r1
      by_cases h60 : n0 + n1 ≤ 60
      · have t2 : decide (60 < (n0 : Int) + (n1 : Int)) = false := decide_eq_false (by omega)
        have t3 : decide ((n0 : Int) + (n1 : Int) > 60) = false := decide_eq_false (by omega)
        go_region
        have HK2 := Lib.hid (HK.out.later (Below.refl _ _).drew)
        obtain ⟨wd, hwd⟩ : ∃ wd, wr.drew = wd := ⟨_, rfl⟩
        rw [hwd] at HK2 ⊢
        clear qa qb HK hwd t2 t3
        go_wp2_with fail
        go_loopw [9, 13] (fun n i wr => ∃ i' z : Nat, i' ≤ n0 + n1 ∧ i = .int .i64 (i' : Nat) ∧ n = .int .i64 (z : Nat) ∧ KAt w d g h V0 V1 a l f i' z wr) (fun _ i _ => n0 + n1 - (intOf i).toNat)
        case atStart => exact ⟨0, z, by omega, rfl, rfl, HK2.out⟩
        case round =>
          obtain ⟨i, z2, hi, rfl, rfl, K3⟩ := hrel
          have HK := Lib.hid K3
          clear K3 HK2
          have qa : wr.cell? ⟨g, f, none⟩ = some (.slice A0 n0 c0) := by
            obtain ⟨_, _, _, k, _⟩ := HK.out
            rw [k.ca hf2, E0.out]
          have qb : wr.cell? ⟨g + 1, f, none⟩ = some (.slice A1 n1 c1) := by
            obtain ⟨_, _, _, k, _⟩ := HK.out
            rw [k.cb hf2, E1.out]
          by_cases hin : i < n0 + n1
          · have t4 : decide ((i : Int) < (n0 : Int) + (n1 : Int)) = true := decide_eq_true (by omega)
            go_wp2_with fail
            go_region
            have HK3 := Lib.hid (HK.out.later (Below.refl _ _).drew)
            obtain ⟨wd, hwd⟩ : ∃ wd, wr.drew = wd := ⟨_, rfl⟩
            rw [hwd] at HK3 ⊢
            clear HK qa qb hwd t4
            have HK := HK3
            clear HK3
            have qa : wd.cell? ⟨g, f, none⟩ = some (.slice A0 n0 c0) := by obtain ⟨_, _, _, k, _⟩ := HK.out; rw [k.ca hf2, E0.out]
            have qb : wd.cell? ⟨g + 1, f, none⟩ = some (.slice A1 n1 c1) := by obtain ⟨_, _, _, k, _⟩ := HK.out; rw [k.cb hf2, E1.out]
            by_cases hia : i < n0
            · have t5 : decide ((i : Int) < (n0 : Int)) = true := decide_eq_true (by omega)
              obtain ⟨x, B, cb, rfl, hl, hc, hb1, hb2, hb3, hbs, hbb⟩ := (H0.out f hf2).at E0.out HK.out.bel (k := i) (by omega)
              have hpc : piece a l f i = (a f).getD i [] := by unfold piece; rw [dif_pos (by omega), List.getD_eq_getElem?_getD, List.getElem?_eq_getElem (by omega)]; rfl
              obtain ⟨L, hL⟩ : ∃ L, (a f).getD i [] = L := ⟨_, rfl⟩
              rw [hL] at hpc hc hb1 hb2 hbs hbb
              obtain ⟨nl, hnl⟩ : ∃ nl, L.length = nl := ⟨_, rfl⟩
              rw [hnl] at hc hb1 hb2 hbs hbb
              have HPC := Lib.hid hpc
              have HBS := Lib.hid hbs
              have HBB := Lib.hid hbb
              have HNL := Lib.hid hnl
              clear hpc hbs hbb hL hnl
              have rs : ∀ u, Below wd.heap.size wd u → (convert 33 9 (.slice B nl cb)).run Try.prog u = .ok (.string (strB L)) u := fun u b => run_str ((HBS.out.later HK.out.bel).later b)
              have rs1 := rs wd.drew (Below.refl _ _).drew
              have RS := Lib.hid rs
              clear rs
              obtain ⟨X, hX⟩ : ∃ X, sN a f i f = X := ⟨_, rfl⟩
              have qs : wd.cell? ⟨h, f, none⟩ = some (.string (strB X)) := by obtain ⟨_, _, _, k, _⟩ := HK.out; rw [k.cs hf2, hX]
              have zs : wd.frozen? ⟨h, f, none⟩ = false := by obtain ⟨_, _, _, k, _⟩ := HK.out; exact k.s.free f
              have HXL : Hid (X.length ≤ 16384) := Lib.hid (by
                obtain ⟨_, _, _, k, ht, hz, _⟩ := HK.out
                rw [← ht] at hz
                rw [← hX]
                unfold tot at hz
                rcases (by omega : f = 0 ∨ f = 1) with rfl | rfl <;> omega)
              have sz : (strB X).size + (strB L).size ≤ 9223372036854775807 := by rw [strB_size, strB_size, HNL.out]; have := HXL.out; omega
              have HX := Lib.hid hX
              clear hX
              go_wp2_with fail
              go_region
              have HS := Lib.hid ((HK.out.sets hf2 (by omega) (s := strB X ++ strB L) (by rw [strB_app, HX.out, HPC.out])).later (Below.refl _ _).drew)
              obtain ⟨ws, hws⟩ : ∃ ws, (wd.setCell { block := h, off := f } (Value.string (strB X ++ strB L))).drew = ws := ⟨_, rfl⟩
              rw [hws] at HS ⊢
              clear qa qb qs zs sz rs1 hc HK hws t5
              have qa : ws.cell? ⟨g, f, none⟩ = some (.slice (some x) n0 c0) := by obtain ⟨_, _, _, k, _⟩ := HS.out; rw [k.ca hf2, E0.out]
              have hz2 : z2 ≤ 16384 := by obtain ⟨_, _, _, _, _, q, _⟩ := HS.out; exact q
              by_cases hz : z2 + nl ≤ 16384
              · have t6 : decide (16384 < (z2 : Int) + (nl : Int)) = false := decide_eq_false (by omega)
                have t7 : decide ((z2 : Int) + (nl : Int) > 16384) = false := decide_eq_false (by omega)
                have t8 : decide ((i : Int) = (n0 : Int)) = false := decide_eq_false (by omega)
                have t9 : ((i : Int) == (n0 : Int)) = false := by rw [beq_eq_false_iff_ne]; omega
                go_wp2_with fail
                refine (HS.out.write hf2 (by omega) (by omega) (by omega) HPC.out hz (HBS.out.later HS.out.bel) HBB.out hb1 hb3).mono ?_
                rintro e w7 ⟨rfl, K7⟩
                have H7 := Lib.hid K7
                clear K7
                go_wp2_with fail
                go_roundw
                case rel => exact ⟨i + 1, z2 + nl, by omega, by go_num, by go_num, H7.out⟩
                case measure => simp [intOf]; omega
              · have t6 : decide (16384 < (z2 : Int) + (nl : Int)) = true := decide_eq_true (by omega)
                have t7 : decide ((z2 : Int) + (nl : Int) > 16384) = true := decide_eq_true (by omega)
                have HB := Lib.hid HS.out.bel
                go_wp2_with fail
                refine (works_any _).mono ?_
                rintro e w6 ⟨rfl, hb⟩
                have HB6 := Lib.hid (HB.out.trans (hb.mono HB.out.size))
                clear hb
                go_wp2_with fail
                go_ret
                exact ⟨rfl, HB6.out⟩
            · by_cases hie : i = n0
              · have t5 : decide ((i : Int) < (n0 : Int)) = false := decide_eq_false (by omega)
                obtain ⟨x, B, cb, rfl, hl, hc, hb1, hb2, hb3, hbs, hbb⟩ := (H1.out f hf2).at E1.out HK.out.bel (k := 0) (by omega)
                rw [show x.add 0 = x from rfl] at hc
                have hpc : piece a l f i = (l f).getD 0 [] := by unfold piece; rw [dif_neg (by omega)]; congr 1; omega
                obtain ⟨L, hL⟩ : ∃ L, (l f).getD 0 [] = L := ⟨_, rfl⟩
                rw [hL] at hpc hc hb1 hb2 hbs hbb
                obtain ⟨nl, hnl⟩ : ∃ nl, L.length = nl := ⟨_, rfl⟩
                rw [hnl] at hc hb1 hb2 hbs hbb
                have HPC := Lib.hid hpc
                have HBS := Lib.hid hbs
                have HBB := Lib.hid hbb
                have HNL := Lib.hid hnl
                clear hpc hbs hbb hL hnl
                have rs : ∀ u, Below wd.heap.size wd u → (convert 33 9 (.slice B nl cb)).run Try.prog u = .ok (.string (strB L)) u := fun u b => run_str ((HBS.out.later HK.out.bel).later b)
                have rs1 := rs wd.drew (Below.refl _ _).drew
                have rs2 := rs wd.drew.drew (Below.refl _ _).drew.drew
                have RS := Lib.hid rs
                clear rs
                obtain ⟨X, hX⟩ : ∃ X, tN a l f i f = X := ⟨_, rfl⟩
                have qs : wd.cell? ⟨h + 1, f, none⟩ = some (.string (strB X)) := by obtain ⟨_, _, _, k, _⟩ := HK.out; rw [k.ct hf2, hX]
                have zs : wd.frozen? ⟨h + 1, f, none⟩ = false := by obtain ⟨_, _, _, k, _⟩ := HK.out; exact k.t.free f
                have HXL : Hid (X.length ≤ 16384) := Lib.hid (by
                  obtain ⟨_, _, _, k, ht, hz, _⟩ := HK.out
                  rw [← ht] at hz
                  rw [← hX]
                  unfold tot at hz
                  rcases (by omega : f = 0 ∨ f = 1) with rfl | rfl <;> omega)
                have sz : (strB X).size + (strB L).size ≤ 9223372036854775807 := by rw [strB_size, strB_size, HNL.out]; have := HXL.out; omega
                have HX := Lib.hid hX
                clear hX
                go_wp2_with fail
                go_region
                go_wp2_with fail
                go_region
                have HS := Lib.hid ((HK.out.sett hf2 (by omega) (by omega) (s := strB X ++ strB L) (by rw [strB_app, HX.out, HPC.out])).later (Below.refl _ _).drew.drew)
                obtain ⟨ws, hws⟩ : ∃ ws, (wd.setCell { block := h + 1, off := f } (Value.string (strB X ++ strB L))).drew.drew = ws := ⟨_, rfl⟩
                rw [hws] at HS ⊢
                clear qa qb qs zs sz rs1 hc HK hws t5 rs2
                have qa : ws.cell? ⟨g, f, none⟩ = some (.slice A0 n0 c0) := by obtain ⟨_, _, _, k, _⟩ := HS.out; rw [k.ca hf2, E0.out]
                have hz2 : z2 ≤ 16384 := by obtain ⟨_, _, _, _, _, q, _⟩ := HS.out; exact q
                by_cases hz : z2 + nl ≤ 16384
                · have t6 : decide (16384 < (z2 : Int) + (nl : Int)) = false := decide_eq_false (by omega)
                  have t7 : decide ((z2 : Int) + (nl : Int) > 16384) = false := decide_eq_false (by omega)
                  have t8 : decide ((i : Int) = (n0 : Int)) = true := decide_eq_true (by omega)
                  have t9 : ((i : Int) == (n0 : Int)) = true := by rw [beq_iff_eq]; omega
                  go_wp2_with fail
                  refine (HS.out.sync hf2 (by omega)).mono ?_
                  rintro e w6 ⟨rfl, K6, _⟩
                  have H6 := Lib.hid K6
                  clear K6 qa HS
                  go_wp2_with fail
                  obtain rfl : i = (a f).length := by omega
                  refine (H6.out.write hf2 (by omega) (by omega) HPC.out hz (HBS.out.later H6.out.bel) HBB.out hb1 hb3).mono ?_
                  rintro e w7 ⟨rfl, K7⟩
                  have H7 := Lib.hid K7
                  clear K7
                  go_wp2_with fail
                  go_roundw
                  case rel => exact ⟨(a f).length + 1, z2 + nl, by omega, by go_num, by go_num, H7.out⟩
                  case measure => simp [intOf]; omega
                · have t6 : decide (16384 < (z2 : Int) + (nl : Int)) = true := decide_eq_true (by omega)
                  have t7 : decide ((z2 : Int) + (nl : Int) > 16384) = true := decide_eq_true (by omega)
                  have HB := Lib.hid HS.out.bel
                  go_wp2_with fail
                  refine (works_any _).mono ?_
                  rintro e w6 ⟨rfl, hb⟩
                  have HB6 := Lib.hid (HB.out.trans (hb.mono HB.out.size))
                  clear hb
                  go_wp2_with fail
                  go_ret
                  exact ⟨rfl, HB6.out⟩
              · have t5 : decide ((i : Int) < (n0 : Int)) = false := decide_eq_false (by omega)
                obtain ⟨x, B, cb, rfl, hl, hc, hb1, hb2, hb3, hbs, hbb⟩ := (H1.out f hf2).at E1.out HK.out.bel (k := (i - n0)) (by omega)
                have hpc : piece a l f i = (l f).getD (i - n0) [] := by unfold piece; rw [dif_neg (by omega)]; congr 1; omega
                obtain ⟨L, hL⟩ : ∃ L, (l f).getD (i - n0) [] = L := ⟨_, rfl⟩
                rw [hL] at hpc hc hb1 hb2 hbs hbb
                obtain ⟨nl, hnl⟩ : ∃ nl, L.length = nl := ⟨_, rfl⟩
                rw [hnl] at hc hb1 hb2 hbs hbb
                have HPC := Lib.hid hpc
                have HBS := Lib.hid hbs
                have HBB := Lib.hid hbb
                have HNL := Lib.hid hnl
                clear hpc hbs hbb hL hnl
                have rs : ∀ u, Below wd.heap.size wd u → (convert 33 9 (.slice B nl cb)).run Try.prog u = .ok (.string (strB L)) u := fun u b => run_str ((HBS.out.later HK.out.bel).later b)
                have rs1 := rs wd.drew (Below.refl _ _).drew
                have rs2 := rs wd.drew.drew (Below.refl _ _).drew.drew
                have RS := Lib.hid rs
                clear rs
                obtain ⟨X, hX⟩ : ∃ X, tN a l f i f = X := ⟨_, rfl⟩
                have qs : wd.cell? ⟨h + 1, f, none⟩ = some (.string (strB X)) := by obtain ⟨_, _, _, k, _⟩ := HK.out; rw [k.ct hf2, hX]
                have zs : wd.frozen? ⟨h + 1, f, none⟩ = false := by obtain ⟨_, _, _, k, _⟩ := HK.out; exact k.t.free f
                have HXL : Hid (X.length ≤ 16384) := Lib.hid (by
                  obtain ⟨_, _, _, k, ht, hz, _⟩ := HK.out
                  rw [← ht] at hz
                  rw [← hX]
                  unfold tot at hz
                  rcases (by omega : f = 0 ∨ f = 1) with rfl | rfl <;> omega)
                have sz : (strB X).size + (strB L).size ≤ 9223372036854775807 := by rw [strB_size, strB_size, HNL.out]; have := HXL.out; omega
                have HX := Lib.hid hX
                clear hX
                go_wp2_with fail
                go_region
                go_wp2_with fail
                go_region
                have HS := Lib.hid ((HK.out.sett hf2 (by omega) (by omega) (s := strB X ++ strB L) (by rw [strB_app, HX.out, HPC.out])).later (Below.refl _ _).drew.drew)
                obtain ⟨ws, hws⟩ : ∃ ws, (wd.setCell { block := h + 1, off := f } (Value.string (strB X ++ strB L))).drew.drew = ws := ⟨_, rfl⟩
                rw [hws] at HS ⊢
                clear qa qb qs zs sz rs1 hc HK hws t5 rs2
                have qa : ws.cell? ⟨g, f, none⟩ = some (.slice A0 n0 c0) := by obtain ⟨_, _, _, k, _⟩ := HS.out; rw [k.ca hf2, E0.out]
                have hz2 : z2 ≤ 16384 := by obtain ⟨_, _, _, _, _, q, _⟩ := HS.out; exact q
                by_cases hz : z2 + nl ≤ 16384
                · have t6 : decide (16384 < (z2 : Int) + (nl : Int)) = false := decide_eq_false (by omega)
                  have t7 : decide ((z2 : Int) + (nl : Int) > 16384) = false := decide_eq_false (by omega)
                  have t8 : decide ((i : Int) = (n0 : Int)) = false := decide_eq_false (by omega)
                  have t9 : ((i : Int) == (n0 : Int)) = false := by rw [beq_eq_false_iff_ne]; omega
                  go_wp2_with fail
                  refine (HS.out.write hf2 (by omega) (by omega) (by omega) HPC.out hz (HBS.out.later HS.out.bel) HBB.out hb1 hb3).mono ?_
                  rintro e w7 ⟨rfl, K7⟩
                  have H7 := Lib.hid K7
                  clear K7
                  go_wp2_with fail
                  go_roundw
                  case rel => exact ⟨i + 1, z2 + nl, by omega, by go_num, by go_num, H7.out⟩
                  case measure => simp [intOf]; omega
                · have t6 : decide (16384 < (z2 : Int) + (nl : Int)) = true := decide_eq_true (by omega)
                  have t7 : decide ((z2 : Int) + (nl : Int) > 16384) = true := decide_eq_true (by omega)
                  have HB := Lib.hid HS.out.bel
                  go_wp2_with fail
                  refine (works_any _).mono ?_
                  rintro e w6 ⟨rfl, hb⟩
                  have HB6 := Lib.hid (HB.out.trans (hb.mono HB.out.size))
                  clear hb
                  go_wp2_with fail
                  go_ret
                  exact ⟨rfl, HB6.out⟩
          · have t4 : decide ((i : Int) < (n0 : Int) + (n1 : Int)) = false := decide_eq_false (by omega)
            go_wp2_with fail
            go_region
            have HK3 : Hid (KAt w d g h V0 V1 a l f ((a f).length + (l f).length) z2 wr.drew) := Lib.hid (by
              have e : i = (a f).length + (l f).length := by omega
              rw [← e]
              exact HK.out.later (Below.refl _ _).drew)
            obtain ⟨wd, hwd⟩ : ∃ wd, wr.drew = wd := ⟨_, rfl⟩
            rw [hwd] at HK3 ⊢
            clear HK qa qb hwd t4
            have qb : wd.cell? ⟨g + 1, f, none⟩ = some (.slice A1 n1 c1) := by obtain ⟨_, _, _, k, _⟩ := HK3.out; rw [k.cb hf2, E1.out]
            by_cases hn1z : n1 = 0
            · have t5 : decide ((n1 : Int) = 0) = true := decide_eq_true (by omega)
              have t6 : ((n1 : Int) == 0) = true := by rw [beq_iff_eq]; omega
              have HZ := Lib.hid hn1z
              clear hn1z
              go_wp2_with fail
              refine (HK3.out.sync0 hf2 (by have := HZ.out; omega) (by omega)).mono ?_
              rintro e w6 ⟨rfl, K6⟩
              have H6 := Lib.hid K6
              clear K6
              go_wp2_with fail
              go_roundw
              case rel => exact ⟨f + 1, z2, by omega, by go_num, rfl, H6.out⟩
              case measure => simp [intOf]; omega
            · have t5 : decide ((n1 : Int) = 0) = false := decide_eq_false (by omega)
              have t6 : ((n1 : Int) == 0) = false := by rw [beq_eq_false_iff_ne]; omega
              have HZ := Lib.hid hn1z
              clear hn1z
              go_wp2_with fail
              go_roundw
              case rel => exact ⟨f + 1, z2, by omega, by go_num, rfl, HK3.out.step hf2 (by have := HZ.out; omega) (by omega)⟩
              case measure => simp [intOf]; omega
      · have t2 : decide (60 < (n0 : Int) + (n1 : Int)) = true := decide_eq_true (by omega)
        have t3 : decide ((n0 : Int) + (n1 : Int) > 60) = true := decide_eq_true (by omega)
        go_region
        have HB := Lib.hid (HK.out.later (Below.refl _ _).drew).bel
        go_wp2_with fail
        refine (works_any _).mono ?_
        rintro e w5 ⟨rfl, hb⟩
        have HB5 := Lib.hid (HB.out.trans (hb.mono HB.out.size))
        clear hb
        go_wp2_with fail
        go_ret
        exact ⟨rfl, HB5.out⟩
    · have t1 : decide ((f : Int) < 2) = false := decide_eq_false (by omega)
      have HK2 : Hid (KAt w d g h V0 V1 a l 2 0 z wr) := Lib.hid ((show f = 2 by omega) ▸ HK.out)
      clear HK
      obtain ⟨S, D, K, X, ht, hz, h6⟩ := HK2.out
      have hroom : S.room = 16384 - z := by rw [K.room, ht]
      obtain ⟨q, hq⟩ : ∃ q, 16384 - z = q := ⟨_, rfl⟩
      rw [hq] at hroom
      have hqz : (q : Int) = 16384 - (z : Int) := by omega
      have tq : ((q : Int) == 16384 - (z : Int)) = true := by rw [beq_iff_eq]; exact hqz
      have td : decide ((q : Int) = 16384 - (z : Int)) = true := decide_eq_true hqz
      have hof : S.goOff = (0, { S with off := true }) := by unfold Dk.goOff; rw [if_neg (by rw [K.live.off]; decide)]
      have hcn : S.cnt ≤ 120 := K.cnt h6 (by omega)
      obtain ⟨S2, hon, L2, c2, at2⟩ := K.on p
      have D1 := Lib.hid D
      have X1 := Lib.hid X
      have HR := Lib.hid hroom
      have HOF := Lib.hid hof
      have HON := Lib.hid hon
      have HL2 := Lib.hid L2
      have HAT := Lib.hid at2
      have HQ := Lib.hid hqz
      clear D K X ht hroom hof hon L2 at2 hq hqz HK2 h6
      go_wp2_with fail
      refine (room_p D1.out HR.out).mono ?_
      rintro e w5 ⟨rfl, D', g5⟩
      have D5 := Lib.hid D'
      have X5 := Lib.hid (X1.out.keep (Kept.of_below g5) D'.bel)
      clear D' g5 D1 X1
      go_wp2_with fail
      refine (off_p D5.out (x := 0) (S' := { S with off := true }) (by rw [HOF.out]) (by rw [HOF.out])).mono ?_
      rintro e w6 ⟨rfl, D', K'⟩
      have D6 := Lib.hid D'
      have X6 := Lib.hid (X5.out.keep K' D'.bel)
      clear D' K' D5 X5
      go_wp2_with fail
      have hcn6 : ({ S with off := true } : Dk).cnt ≤ 1073741823 := by show S.cnt ≤ _; omega
      refine (on_p D6.out hcn6 (HP.out.later D6.out.bel) (fun h0 x e => by
        obtain ⟨x', e', hb, _⟩ := HP.out.cel 0 h0
        rw [e] at e'
        injection e' with e'
        subst e'
        exact .inr hb) hp1 hp3 (x := 0) (S' := S2) (by rw [HON.out]) (by rw [HON.out])).mono ?_
      rintro e w7 ⟨rfl, D', K'⟩
      have D7 := Lib.hid D'
      have X7 := Lib.hid (X6.out.keep K' D'.bel)
      clear D' K' D6 X6 tq td hcn6
      go_wp2_with fail
      go_loopw [15] (fun i wr => ∃ f3 : Nat, f3 ≤ 2 ∧ i = .int .i64 (f3 : Nat) ∧ Dp w d (XK g h) S2 wr ∧ Kb w g h V0 V1 (sN a 2 0) (tN a l 2 0) wr) (fun i _ => 2 - (intOf i).toNat)
      case atStart => exact ⟨0, by omega, rfl, D7.out, X7.out⟩
      case round =>
        obtain ⟨f3, hf3, rfl, D', X'⟩ := hrel
        have D8 := Lib.hid D'
        have X8 := Lib.hid X'
        clear D' X' D7 X7
        by_cases hf4 : f3 < 2
        · have t2 : decide ((f3 : Int) < 2) = true := decide_eq_true (by omega)
          obtain ⟨At, hAt⟩ : ∃ At, (a f3).flatten = At := ⟨_, rfl⟩
          obtain ⟨Tt, hTt⟩ : ∃ Tt, (l f3).flatten = Tt := ⟨_, rfl⟩
          obtain ⟨v, hv⟩ : ∃ v, pick p f3 = v := ⟨_, rfl⟩
          have HSA := Lib.hid (show sN a 2 0 f3 = At by rw [sN_all hf4, hAt])
          have HTA := Lib.hid (show tN a l 2 0 f3 = Tt by rw [tN_all hf4, hTt])
          have qs : wr.cell? ⟨h, f3, none⟩ = some (.string (strB At)) := by rw [X8.out.cs hf4, sN_all hf4, hAt]
          have qt : wr.cell? ⟨h + 1, f3, none⟩ = some (.string (strB Tt)) := by rw [X8.out.ct hf4, tN_all hf4, hTt]
          have st := strB_size Tt
          have hat := HAT.out f3 hf4
          rw [hAt, hTt, hv] at hat
          have HAT3 := Lib.hid hat
          have hvr := pick_rng HP.out.rng f3
          rw [hv] at hvr
          clear hat hAt hTt
          by_cases hfp : f3 < np
          · have t3 : decide ((f3 : Int) < (np : Int)) = true := decide_eq_true (by omega)
            obtain ⟨x, rfl, hxb, hxc⟩ := (HP.out.later D8.out.bel).cel f3 hfp
            rw [hv] at hxc
            clear hv
            go_wp2_with fail
            go_region
            rw [clamp_eq]
            generalize (if v < 0 then (0 : Int) else v) = mx
            obtain ⟨kk, hkk⟩ : ∃ kk, min v.toNat Tt.length = kk := ⟨_, rfl⟩
            have HKK : Hid (Tt.take v.toNat = Tt.take kk) := Lib.hid (by rw [← hkk, take_min])
            have hkl : kk ≤ Tt.length := by omega
            rw [hkk]
            have D9 := Lib.hid (D8.out.later (Below.refl _ _).drew)
            have X9 := Lib.hid (X8.out.keep (Kept.of_below (Below.refl _ _).drew) (D8.out.later (Below.refl _ _).drew).bel)
            obtain ⟨wd, hwd⟩ : ∃ wd, wr.drew = wd := ⟨_, rfl⟩
            rw [hwd] at D9 X9 ⊢
            clear D8 X8 qs qt hwd hkk hxc
            have qs : wd.cell? ⟨h, f3, none⟩ = some (.string (strB At)) := by rw [X9.out.cs hf4, HSA.out]
            have qt : wd.cell? ⟨h + 1, f3, none⟩ = some (.string (strB Tt)) := by rw [X9.out.ct hf4, HTA.out]
            have HS2 := Lib.hid (show S2.read (f3 : Int) = (At ++ Tt.take kk, 0) from (HL2.out.read (i := f3) (by omega)).trans (by rw [HAT3.out, HKK.out]))
            have HAB : Hid (AllB (At ++ Tt.take kk) ∧ At.length + (Tt.take kk).length ≤ 4194304) := Lib.hid (by
              have ok := D9.out.ok
              have o := ok.at_ f3
              have q := allB_appl o.b.1 o.b.2
              have r := o.len
              have m := ok.most
              have e : appl (S2.at f3).sure (S2.at f3).loose = At ++ Tt.take kk := by rw [← HKK.out]; exact HAT3.out
              rw [e] at q
              have e2 : (S2.at f3).at = At ++ Tt.take kk := by rw [HAT3.out, HKK.out]
              rw [e2, List.length_append] at r
              exact ⟨q, by omega⟩)
            have szf : (9223372036854775807 < (strB At).size + kk) = False := by rw [strB_size]; have h := HAB.out.2; rw [List.length_take, Nat.min_eq_left hkl] at h; exact eq_false (by omega)
            have CF := Lib.hid (stands_p (D9.out.later (Below.refl _ _).drew) (by rw [c2]; decide) (f3 : Int) HAB.out.1 (s := strB At ++ (strB Tt).extract 0 kk) (by rw [strB_take, strB_app]) HS2.out)
            go_wp2_with fail
            have i2 : (f3 : Int) < 2 := by omega
            go_region_law (first | (go_simp; (with_reducible refine (CF.out).mono ?_); rintro e w9 ⟨rfl, D', g9⟩; have D10 := Lib.hid D'; have G10 := Lib.hid g9; clear D' g9; go_simp))
            all_goals have HX10 := Lib.hid (X9.out.keep (Kept.of_below (((Below.refl _ _).drew).trans (G10.out.mono (Nat.le_refl _)))) D10.out.bel)
            all_goals go_wp2_with fail
            all_goals go_roundw
            all_goals first | exact ⟨f3 + 1, by omega, by go_num, D10.out, HX10.out⟩ | (simp [intOf]; omega)
          · have t3 : decide ((f3 : Int) < (np : Int)) = false := decide_eq_false (by omega)
            have HKK : Hid (Tt.take v.toNat = Tt.take 0) := Lib.hid (by
              have e : v = 0 := by rw [← hv]; exact pick_none (by have := HP.out.len; omega)
              rw [e]; rfl)
            clear hv
            have D9 := D8
            have X9 := X8
            clear D8 X8 qs qt
            have qs : wr.cell? ⟨h, f3, none⟩ = some (.string (strB At)) := by rw [X9.out.cs hf4, HSA.out]
            have qt : wr.cell? ⟨h + 1, f3, none⟩ = some (.string (strB Tt)) := by rw [X9.out.ct hf4, HTA.out]
            have HS2 := Lib.hid (show S2.read (f3 : Int) = (At ++ Tt.take 0, 0) from (HL2.out.read (i := f3) (by omega)).trans (by rw [HAT3.out, HKK.out]))
            have HAB : Hid (AllB (At ++ Tt.take 0) ∧ At.length + (Tt.take 0).length ≤ 4194304) := Lib.hid (by
              have ok := D9.out.ok
              have o := ok.at_ f3
              have q := allB_appl o.b.1 o.b.2
              have r := o.len
              have m := ok.most
              have e : appl (S2.at f3).sure (S2.at f3).loose = At ++ Tt.take 0 := by rw [← HKK.out]; exact HAT3.out
              rw [e] at q
              have e2 : (S2.at f3).at = At ++ Tt.take 0 := by rw [HAT3.out, HKK.out]
              rw [e2, List.length_append] at r
              exact ⟨q, by omega⟩)
            have szf : (9223372036854775807 < (strB At).size) = False := by rw [strB_size]; have := HAB.out.2; exact eq_false (by omega)
            have sz : (strB At).size ≤ 9223372036854775807 := by rw [strB_size]; have := HAB.out.2; omega
            have CF := Lib.hid (stands_p (D9.out.later (Below.refl _ _).drew) (by rw [c2]; decide) (f3 : Int) HAB.out.1 (s := strB At) (by rw [List.take_zero, List.append_nil]) HS2.out)
            go_wp2_with fail
            have i2 : (f3 : Int) < 2 := by omega
            go_region_law (first | (go_simp; (with_reducible refine (CF.out).mono ?_); rintro e w9 ⟨rfl, D', g9⟩; have D10 := Lib.hid D'; have G10 := Lib.hid g9; clear D' g9; go_simp))
            all_goals have HX10 := Lib.hid (X9.out.keep (Kept.of_below (((Below.refl _ _).drew).trans (G10.out.mono (Nat.le_refl _)))) D10.out.bel)
            all_goals go_wp2_with fail
            all_goals go_roundw
            all_goals first | exact ⟨f3 + 1, by omega, by go_num, D10.out, HX10.out⟩ | (simp [intOf]; omega)
        · have t2 : decide ((f3 : Int) < 2) = false := decide_eq_false (by omega)
          go_wp2_with fail
          refine (works_any _).mono ?_
          rintro e w8 ⟨rfl, hb⟩
          have HB8 := Lib.hid (D8.out.bel.trans (hb.mono D8.out.bel.size))
          clear hb
          go_wp2_with fail
          go_ret
          exact ⟨rfl, HB8.out⟩
end Go.Proofs.Ytgnomopiofpknaa
