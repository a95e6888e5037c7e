/- DiskEnds: all is kept, or nothing. No condition but the machine's reach. -/
import Derived.Test.YtgnomopiofpknaaEnE
namespace Go.Proofs.Ytgnomopiofpknaa
open Go.RowKit

set_option maxRecDepth 100000 in
set_option maxHeartbeats 8000000 in
theorem ends_law {A B : Option Addr} {n c m e : Nat} {l k : List StepD} {w : World} (hn : n ≤ 140737488351232) (hm : m ≤ 140737488351232) (hL : Rows w anyP 5 StepR A n l) (hK : Rows w anyP 5 StepR B m k) :
    Calls Try.prog 5 #[.slice A n c, .slice B m e] w fun e w' => e = .returned (.bool true) ∧ Below w.heap.size w w' := by
  have HL := Lib.hid hL
  have HK := Lib.hid hK
  have CH1 := Lib.hid (heavy_any (c := c) w hn hL)
  have CH2 : Hid (∀ u, Below w.heap.size w u → Calls Try.prog 8 #[.slice B m e] u fun e w' => e = .returned (.bool (decide (8192 < wts k))) ∧ Below u.heap.size u w') := Lib.hid fun u g => heavy_any u hm (hK.later stepM g)
  clear hL hK
  by_cases h1 : 8192 < wts l
  · rw [decide_eq_true h1] at CH1
    go_enter Try.func5, Try.ntmps5
    go_wp2_with fail
    refine (CH1.out).mono ?_
    rintro e w1 ⟨rfl, hb⟩
    have B1 := Lib.hid hb
    clear hb
    go_wp2_with fail
    refine (works_any _).mono ?_
    rintro e w2 ⟨rfl, hb⟩
    have B2 := Lib.hid (B1.out.trans (hb.mono B1.out.size))
    clear hb
    go_wp2_with fail
    go_ret
    exact ⟨rfl, B2.out⟩
  · rw [decide_eq_false h1] at CH1
    by_cases h2 : 8192 < wts k
    · rw [decide_eq_true h2] at CH2
      go_enter Try.func5, Try.ntmps5
      go_wp2_with fail
      refine (CH1.out).mono ?_
      rintro e w1 ⟨rfl, hb⟩
      have B1 := Lib.hid hb
      clear hb
      go_wp2_with fail
      refine (CH2.out _ B1.out).mono ?_
      rintro e w2 ⟨rfl, hb⟩
      have B2 := Lib.hid (B1.out.trans (hb.mono B1.out.size))
      clear hb B1
      go_wp2_with fail
      refine (works_any _).mono ?_
      rintro e w3 ⟨rfl, hb⟩
      have B3 := Lib.hid (B2.out.trans (hb.mono B2.out.size))
      clear hb
      go_wp2_with fail
      go_ret
      exact ⟨rfl, B3.out⟩
    · rw [decide_eq_false h2] at CH2
      go_enter Try.func5, Try.ntmps5
      go_wp2_with fail
      refine (CH1.out).mono ?_
      rintro e w1 ⟨rfl, hb⟩
      have B1 := Lib.hid hb
      clear hb
      go_wp2_with fail
      refine (CH2.out _ B1.out).mono ?_
      rintro e w2 ⟨rfl, hb⟩
      have B2 := Lib.hid (B1.out.trans (hb.mono B1.out.size))
      clear hb B1
      go_wp2_with fail
      have e0 : ({ data := #[] } : ByteArray) = ByteArray.empty := rfl
      obtain ⟨g, hg⟩ : ∃ g, w2.heap.size = g := ⟨_, rfl⟩
      have X0 : Bx w g ⟨#[]⟩ ⟨#[]⟩ ⟨#[]⟩ ⟨#[]⟩ ((w2.alloc (.cells #[.string ⟨#[]⟩, .string ⟨#[]⟩] 41)).alloc (.cells #[.string ⟨#[]⟩, .string ⟨#[]⟩] 41)) := by
        have n1 := Ro.new w2 41 [.string ⟨#[]⟩, .string ⟨#[]⟩]
        have n2 := Ro.new (w2.alloc (.cells #[.string ⟨#[]⟩, .string ⟨#[]⟩] 41)) 41 [.string ⟨#[]⟩, .string ⟨#[]⟩]
        rw [World.size_alloc, hg] at n2
        rw [hg] at n1
        have s2 := B2.out.size
        exact ⟨(B2.out.alloc s2 _).alloc (by rw [World.size_alloc]; omega) _, by omega, n1.alloc _, n2⟩
      obtain ⟨w3, hw3⟩ : ∃ w3, (w2.alloc (.cells #[.string ⟨#[]⟩, .string ⟨#[]⟩] 41)).alloc (.cells #[.string ⟨#[]⟩, .string ⟨#[]⟩] 41) = w3 := ⟨_, rfl⟩
      rw [hw3] at X0 ⊢
      rw [hg]
      have HX := Lib.hid X0
      clear X0 hw3 hg B2 e0
      go_loopw [7] (fun i wr => ∃ (q : Nat) (a0 a1 b0 b1 : ByteArray), q ≤ 2 ∧ i = .int .i64 (q : Nat) ∧ Bx w g a0 a1 b0 b1 wr) (fun i _ => 2 - (intOf i).toNat)
      case atStart => exact ⟨0, _, _, _, _, by omega, rfl, HX.out⟩
      case round =>
        obtain ⟨q, a0, a1, b0, b1, hq, rfl, X1⟩ := hrel
        clear HX
        have HX := Lib.hid X1
        clear X1
        by_cases hq2 : q < 2
        · have t1 : decide ((q : Int) < 2) = true := decide_eq_true (by omega)
          go_wp2_with fail
          refine (new_p (X := XB g) HX.out.bel HX.out.lt (m := 4096) (by decide) (by decide)).mono ?_
          rintro e w4 ⟨d, rfl, hd, D', g4⟩
          have C0 := Lib.hid (show ChAt w d g a0 a1 b0 b1 (newD 4096) l 0 w4 from ⟨_, D', Chgd.refl (live_new 4096), rfl, HX.out.keep (Kept.of_below g4) D'.bel⟩)
          clear D' g4 HX hd
          go_wp2_with fail
          go_loopw [10] (fun i wr => ∃ j : Nat, j ≤ n ∧ i = .int .i64 (j : Nat) ∧ ChAt w d g a0 a1 b0 b1 (newD 4096) l j wr) (fun i _ => n - (intOf i).toNat)
          case atStart => exact ⟨0, Nat.zero_le _, rfl, C0.out⟩
          case round =>
            obtain ⟨j, hj, rfl, C1⟩ := hrel
            have HC := Lib.hid C1
            clear C1 C0
            by_cases hjn : j < n
            · have t2 : decide ((j : Int) < (n : Int)) = true := decide_eq_true (by omega)
              obtain ⟨b, o, rfl⟩ := rows_some HL.out (by omega)
              obtain ⟨V, hV, hr, CC⟩ := HC.out.step HL.out (by have := HL.out.len; omega) (by omega) (by decide)
              have HR := Lib.hid hr
              have HCC := Lib.hid CC
              clear hr CC
              go_wp2_with (refine wpList_plain rfl fun _ hK => wp_load_part rfl (.tmp 49) rfl rfl rowStep HR.out hV (hK _ _ ?_))
              refine (HCC.out).mono ?_
              rintro e w5 ⟨rfl, C2⟩
              have HC2 := Lib.hid C2
              clear C2
              go_wp2_with fail
              go_roundw
              case rel => exact ⟨j + 1, by omega, by go_num, HC2.out⟩
              case measure => simp [intOf]; omega
            · have t2 : decide ((j : Int) < (n : Int)) = false := decide_eq_false (by omega)
              obtain ⟨S, D5, C5, hS, X5⟩ := HC.out
              have HLv := Lib.hid C5.live
              have HCn : Hid (S.cnt ≤ 8192) := Lib.hid (by have := C5.cnt; have := wts_take l j; have : (newD 4096).cnt = 0 := rfl; omega)
              have HS := Lib.hid (show SyAt w d g a0 a1 S 0 wr from ⟨b0, b1, D5, X5, fun h => absurd h (by omega), fun h => absurd h (by omega)⟩)
              clear D5 C5 hS X5 HC
              go_wp2_with fail
              go_loopw [11] (fun i wr => ∃ f : Nat, f ≤ 2 ∧ i = .int .i64 (f : Nat) ∧ SyAt w d g a0 a1 S f wr) (fun i _ => 2 - (intOf i).toNat)
              case atStart => exact ⟨0, by omega, rfl, HS.out⟩
              case round =>
                obtain ⟨f, hf, rfl, Y1⟩ := hrel
                have HY := Lib.hid Y1
                clear Y1 HS
                rcases (by omega : f = 0 ∨ f = 1 ∨ f = 2) with rfl | rfl | rfl
                · obtain ⟨b0', b1', D6, X6, h0, h1'⟩ := HY.out
                  have hsy : (Sy S 0).sync 0 = (0, Sy S 1) := (HLv.out.sy 0).sync (i := 0) (by omega)
                  have hrd : (Sy S 1).read 0 = (S.f.at, 0) := (HLv.out.sy 1).read (i := 0) (by omega)
                  have hcn := HCn.out
                  have hsc := sy_cnt S
                  have D6' := Lib.hid D6
                  have X6' := Lib.hid X6
                  have H0 := Lib.hid h0
                  clear D6 X6 h0 h1'
                  go_wp2_with fail
                  refine (sync_p D6'.out (by omega) 0 (x := 0) (S' := Sy S 1) (by rw [hsy]) (by rw [hsy])).mono ?_
                  rintro e w6 ⟨rfl, D', K'⟩
                  have D7 := Lib.hid D'
                  have X7 := Lib.hid (X6'.out.keep K' D'.bel)
                  clear D' K' D6' X6'
                  go_wp2_with fail
                  refine (read_p D7.out (by omega) 0 hrd).mono ?_
                  rintro e w7 ⟨A7, n7, c7, rfl, h7, hb7, D', g7⟩
                  have rs := run_str (c := c7) hb7
                  have D8 := Lib.hid D'
                  have X8 := Lib.hid (X7.out.keep (Kept.of_below g7) D'.bel)
                  have q8 := X8.out.b.cell (k := 0) rfl
                  have z8 := X8.out.b.free 0
                  have HN : Hid (SyAt w d g a0 a1 S 1 (w7.setCell ⟨g + 1, 0, none⟩ (.string (strB S.f.at)))) := Lib.hid (by
                    have D7 := D8.out
                    have X7 := X8.out
                    have h0 := H0.out
                    exact ⟨_, _, D7.box (.inr rfl) X7.lo _ _, (X7.set _).1, fun _ => rfl, fun h => absurd h (by omega)⟩)
                  clear D' g7 hb7 D7 X7 hsy hrd
                  go_wp2_with fail
                  go_roundw
                  case rel => exact ⟨1, by omega, by go_num, HN.out⟩
                  case measure => simp [intOf]
                · obtain ⟨b0', b1', D6, X6, h0, h1'⟩ := HY.out
                  have hsy : (Sy S 1).sync 1 = (0, Sy S 2) := (HLv.out.sy 1).sync (i := 1) (by omega)
                  have hrd : (Sy S 2).read 1 = (S.g.at, 0) := (HLv.out.sy 2).read (i := 1) (by omega)
                  have hcn := HCn.out
                  have hsc := sy_cnt S
                  have D6' := Lib.hid D6
                  have X6' := Lib.hid X6
                  have H0 := Lib.hid h0
                  clear D6 X6 h0 h1'
                  go_wp2_with fail
                  refine (sync_p D6'.out (by omega) 1 (x := 0) (S' := Sy S 2) (by rw [hsy]) (by rw [hsy])).mono ?_
                  rintro e w6 ⟨rfl, D', K'⟩
                  have D7 := Lib.hid D'
                  have X7 := Lib.hid (X6'.out.keep K' D'.bel)
                  clear D' K' D6' X6'
                  go_wp2_with fail
                  refine (read_p D7.out (by omega) 1 hrd).mono ?_
                  rintro e w7 ⟨A7, n7, c7, rfl, h7, hb7, D', g7⟩
                  have rs := run_str (c := c7) hb7
                  have D8 := Lib.hid D'
                  have X8 := Lib.hid (X7.out.keep (Kept.of_below g7) D'.bel)
                  have q8 := X8.out.b.cell (k := 1) rfl
                  have z8 := X8.out.b.free 1
                  have HN : Hid (SyAt w d g a0 a1 S 2 (w7.setCell ⟨g + 1, 1, none⟩ (.string (strB S.g.at)))) := Lib.hid (by
                    have D7 := D8.out
                    have X7 := X8.out
                    have h0 := H0.out
                    exact ⟨_, _, D7.box (.inr rfl) X7.lo _ _, (X7.set _).2.1, fun _ => h0 (by omega), fun _ => rfl⟩)
                  clear D' g7 hb7 D7 X7 hsy hrd
                  go_wp2_with fail
                  go_roundw
                  case rel => exact ⟨2, by omega, by go_num, HN.out⟩
                  case measure => simp [intOf]
                · obtain ⟨b0', b1', D6, X6, h0, h1'⟩ := HY.out
                  obtain rfl := h0 (by omega)
                  obtain rfl := h1' (by omega)
                  have hl2 : Live (Sy S 2) := HLv.out.sy 2
                  have C3 := Lib.hid (show ChAt w d g a0 a1 (strB S.f.at) (strB S.g.at) (Sy S 2) k 0 wr from ⟨_, D6, Chgd.refl hl2, rfl, X6⟩)
                  have hc2 : (Sy S 2).cnt ≤ 8192 := by rw [(sy_cnt S).2.2]; omega
                  clear D6 X6 h0 h1' HY hl2
                  rw [show ((2 : Nat) : Int) = (2 : Int) from rfl]
                  go_wp2_with fail
                  go_loopw [14] (fun i wr => ∃ j : Nat, j ≤ m ∧ i = .int .i64 (j : Nat) ∧ ChAt w d g a0 a1 (strB S.f.at) (strB S.g.at) (Sy S 2) k j wr) (fun i _ => m - (intOf i).toNat)
                  case atStart => exact ⟨0, Nat.zero_le _, rfl, C3.out⟩
                  case round =>
                    obtain ⟨j2, hj2, rfl, C1⟩ := hrel
                    have HC := Lib.hid C1
                    clear C1 C3
                    by_cases hjm : j2 < m
                    · have t3 : decide ((j2 : Int) < (m : Int)) = true := decide_eq_true (by omega)
                      obtain ⟨b, o, rfl⟩ := rows_some HK.out (by omega)
                      obtain ⟨V, hV, hr, CC⟩ := HC.out.step HK.out (by have := HK.out.len; omega) (by omega) hc2
                      have HR := Lib.hid hr
                      have HCC := Lib.hid CC
                      clear hr CC
                      go_wp2_with (refine wpList_plain rfl fun _ hK => wp_load_part rfl (.tmp 79) rfl rfl rowStep HR.out hV (hK _ _ ?_))
                      refine (HCC.out).mono ?_
                      rintro e w5 ⟨rfl, C2⟩
                      have HC2 := Lib.hid C2
                      clear C2
                      go_wp2_with fail
                      go_roundw
                      case rel => exact ⟨j2 + 1, by omega, by go_num, HC2.out⟩
                      case measure => simp [intOf]; omega
                    · have t3 : decide ((j2 : Int) < (m : Int)) = false := decide_eq_false (by omega)
                      obtain ⟨T, D5, C5, hT, X5⟩ := HC.out
                      have HLt := Lib.hid C5.live
                      have HCt : Hid (T.cnt ≤ 8192) := Lib.hid (by have := C5.cnt; have := wts_take k j2; have := (sy_cnt S).2.2; omega)
                      have HG := Lib.hid C5
                      have HU0 := Lib.hid (show RdAt w d g (strB S.f.at) (strB S.g.at) T 0 wr from ⟨a0, a1, D5, X5, fun h => absurd h (by omega), fun h => absurd h (by omega)⟩)
                      clear D5 C5 hT X5 HC
                      go_wp2_with fail
                      go_loopw [15] (fun i wr => ∃ f : Nat, f ≤ 2 ∧ i = .int .i64 (f : Nat) ∧ RdAt w d g (strB S.f.at) (strB S.g.at) T f wr) (fun i _ => 2 - (intOf i).toNat)
                      case atStart => exact ⟨0, by omega, rfl, HU0.out⟩
                      case round =>
                        obtain ⟨f, hf, rfl, Y1⟩ := hrel
                        have HU := Lib.hid Y1
                        clear Y1 HU0
                        rcases (by omega : f = 0 ∨ f = 1 ∨ f = 2) with rfl | rfl | rfl
                        · obtain ⟨a0', a1', D6, X6, h0, h1'⟩ := HU.out
                          have hrd : T.read 0 = (T.f.at, 0) := (HLt.out).read (i := 0) (by omega)
                          have hcn := HCt.out
                          have D6' := Lib.hid D6
                          have X6' := Lib.hid X6
                          have H0 := Lib.hid h0
                          clear D6 X6 h0 h1'
                          go_wp2_with fail
                          refine (read_p D6'.out (by omega) 0 hrd).mono ?_
                          rintro e w7 ⟨A7, n7, c7, rfl, h7, hb7, D', g7⟩
                          have rs := run_str (c := c7) hb7
                          have D8 := Lib.hid D'
                          have X8 := Lib.hid (X6'.out.keep (Kept.of_below g7) D'.bel)
                          have q8 := X8.out.a.cell (k := 0) rfl
                          have z8 := X8.out.a.free 0
                          have HN : Hid (RdAt w d g (strB S.f.at) (strB S.g.at) T 1 (w7.setCell ⟨g, 0, none⟩ (.string (strB T.f.at)))) := Lib.hid (by
                            have D7 := D8.out
                            have X7 := X8.out
                            have h0 := H0.out
                            exact ⟨_, _, D7.box (.inl rfl) X7.lo _ _, (X7.set _).2.2.1, fun _ => rfl, fun h => absurd h (by omega)⟩)
                          clear D' g7 hb7 D6' X6' hrd
                          go_wp2_with fail
                          go_roundw
                          case rel => exact ⟨1, by omega, by go_num, HN.out⟩
                          case measure => simp [intOf]
                        · obtain ⟨a0', a1', D6, X6, h0, h1'⟩ := HU.out
                          have hrd : T.read 1 = (T.g.at, 0) := (HLt.out).read (i := 1) (by omega)
                          have hcn := HCt.out
                          have D6' := Lib.hid D6
                          have X6' := Lib.hid X6
                          have H0 := Lib.hid h0
                          clear D6 X6 h0 h1'
                          go_wp2_with fail
                          refine (read_p D6'.out (by omega) 1 hrd).mono ?_
                          rintro e w7 ⟨A7, n7, c7, rfl, h7, hb7, D', g7⟩
                          have rs := run_str (c := c7) hb7
                          have D8 := Lib.hid D'
                          have X8 := Lib.hid (X6'.out.keep (Kept.of_below g7) D'.bel)
                          have q8 := X8.out.a.cell (k := 1) rfl
                          have z8 := X8.out.a.free 1
                          have HN : Hid (RdAt w d g (strB S.f.at) (strB S.g.at) T 2 (w7.setCell ⟨g, 1, none⟩ (.string (strB T.g.at)))) := Lib.hid (by
                            have D7 := D8.out
                            have X7 := X8.out
                            have h0 := H0.out
                            exact ⟨_, _, D7.box (.inl rfl) X7.lo _ _, (X7.set _).2.2.2, fun _ => h0 (by omega), fun _ => rfl⟩)
                          clear D' g7 hb7 D6' X6' hrd
                          go_wp2_with fail
                          go_roundw
                          case rel => exact ⟨2, by omega, by go_num, HN.out⟩
                          case measure => simp [intOf]
                        · obtain ⟨a0', a1', D6, X6, h0, h1'⟩ := HU.out
                          obtain rfl := h0 (by omega)
                          obtain rfl := h1' (by omega)
                          have hof : T.goOff = (0, { T with off := true }) := by unfold Dk.goOff; rw [if_neg (by rw [HLt.out.off]; decide)]
                          have D6' := Lib.hid D6
                          have X6' := Lib.hid X6
                          clear D6 X6 h0 h1' HU
                          rw [show ((2 : Nat) : Int) = (2 : Int) from rfl]
                          go_wp2_with fail
                          refine (off_p D6'.out (x := 0) (S' := { T with off := true }) (by rw [hof]) (by rw [hof])).mono ?_
                          rintro e w8 ⟨rfl, D', K'⟩
                          have D8 := Lib.hid D'
                          have X8 := Lib.hid (X6'.out.keep K' D'.bel)
                          clear D' K' D6' X6' hof
                          go_wp2_with (refine wpList_load_ro rfl (.tmp 5) rfl rfl rowTwo X8.out.a rfl ?_)
                          · have hwt : wts (k.take j2) ≤ 8192 := by have := wts_take k j2; omega
                            obtain ⟨S9, hon, L9, c9, f9, g9⟩ := on_great HG.out (by rfl) (by rfl) hwt
                            have HA := Lib.hid D8.out.ok.at_f
                            have W9 := Lib.hid (Wt.start D8.out X8.out (.cells #[.int .i64 1073741824, .int .i64 1073741824] 3) (strB T.f.at) (strB T.g.at))
                            obtain ⟨s, hs⟩ : ∃ s, w8.heap.size = s := ⟨_, rfl⟩
                            have HZ : Hid (Zs ((w8.alloc (.cells #[.string (strB T.f.at), .string (strB T.g.at)] 41)).alloc (.cells #[.int .i64 1073741824, .int .i64 1073741824] 3)) (some ⟨s + 1, 0, none⟩) 2 [1073741824, 1073741824]) := Lib.hid (by
                              have r := Ro.new (w8.alloc (.cells #[.string (strB T.f.at), .string (strB T.g.at)] 41)) 3 [.int .i64 1073741824, .int .i64 1073741824]
                              rw [World.size_alloc, hs] at r
                              exact zs_two r (by decide) (by decide))
                            rw [hs] at W9 ⊢
                            have hcn : ({ T with off := true } : Dk).cnt ≤ 8192 := HCt.out
                            refine (on_p W9.out.D (by omega) HZ.out (fun _ a e => by injection e with e; subst e; exact .inl (.inr ⟨by show s ≤ s + 1; omega, Nat.le_refl _⟩)) (Nat.le_refl 2) (by decide) (x := 0) (S' := S9) (by rw [hon]) (by rw [hon])).mono ?_
                            rintro e w10 ⟨rfl, D', K'⟩
                            have W10 := Lib.hid (W9.out.step D' K')
                            clear D' K' HZ
                            have q0 := W10.out.c.cell (k := 0) rfl
                            have HR0 := Lib.hid (show S9.read 0 = (T.f.at, 0) from (L9.read (i := 0) (.inl rfl)).trans (by show (S9.f.at, (0 : Int)) = _; rw [f9]))
                            have HR1 := Lib.hid (show S9.read 1 = (T.g.at, 0) from (L9.read (i := 1) (.inr rfl)).trans (by show (S9.g.at, (0 : Int)) = _; rw [g9]))
                            clear hon L9 f9 g9 hcn W9
                            go_wp2_with fail
                            refine (stands_p W10.out.D (by omega) 0 HA.out.1 rfl HR0.out).mono ?_
                            rintro e w11 ⟨rfl, D', g11⟩
                            have W11 := Lib.hid (W10.out.step D' (Kept.of_below g11))
                            clear D' g11 q0 W10
                            have q1 := W11.out.c.cell (k := 1) rfl
                            go_wp2_with fail
                            refine (stands_p W11.out.D (by omega) 1 HA.out.2 rfl HR1.out).mono ?_
                            rintro e w12 ⟨rfl, D', g12⟩
                            have HX12 := Lib.hid (W11.out.step D' (Kept.of_below g12)).X
                            clear D' g12 q1 W11
                            go_wp2_with fail
                            go_roundw
                            case rel => exact ⟨q + 1, _, _, _, _, by omega, by go_num, HX12.out⟩
                            case measure => simp [intOf]; omega
                          · obtain ⟨S9, hon, L9, c9, f9, g9⟩ := on_none HG.out
                            have HA := Lib.hid (show AllB S.f.at ∧ AllB S.g.at from by have := HG.out; have h := D8.out.ok; exact ⟨by have e := this.f; have h := h.bf.1; rw [e] at h; exact h, by have e := this.g; have h := h.bg.1; rw [e] at h; exact h⟩)
                            have W9 := Lib.hid (Wt.start1 D8.out X8.out (strB T.f.at) (strB T.g.at))
                            have hgs : Hid (g + 1 < w8.heap.size) := Lib.hid X8.out.b.lt
                            obtain ⟨s, hs⟩ : ∃ s, w8.heap.size = s := ⟨_, rfl⟩
                            rw [hs] at W9 hgs
                            have hcn : ({ T with off := true } : Dk).cnt ≤ 8192 := HCt.out
                            refine (on_p W9.out.D (by omega) (Zs.nil _ _) (fun h => absurd h (by omega)) (Nat.le_refl 0) (by decide) (x := 0) (S' := S9) (by rw [hon]) (by rw [hon])).mono ?_
                            rintro e w10 ⟨rfl, D', K'⟩
                            have W10 := Lib.hid (W9.out.step D' K')
                            clear D' K'
                            have HR0 := Lib.hid (show S9.read 0 = (S.f.at, 0) from (L9.read (i := 0) (.inl rfl)).trans (by show (S9.f.at, (0 : Int)) = _; rw [f9]; rfl))
                            have HR1 := Lib.hid (show S9.read 1 = (S.g.at, 0) from (L9.read (i := 1) (.inr rfl)).trans (by show (S9.g.at, (0 : Int)) = _; rw [g9]; rfl))
                            clear hon L9 f9 g9 hcn W9
                            go_wp2_with (first | refine wpList_load_ro rfl (.tmp 6) rfl rfl rowTwo W10.out.X.b rfl ?_ | refine wpList_store_ro rfl (.tmp 18) (.tmp 107) rfl rfl rfl rowTwo W10.out.c rfl rfl (by simp [Value.oneCell']) ?_)
                            intro w13 R13 G13
                            have W13 := Lib.hid (W10.out.put R13 G13 hgs.out)
                            clear R13 G13 W10
                            have q0 := W13.out.c.cell (k := 0) rfl
                            go_wp2_with fail
                            refine (stands_p W13.out.D (by omega) 0 HA.out.1 rfl HR0.out).mono ?_
                            rintro e w11 ⟨rfl, D', g11⟩
                            have W11 := Lib.hid (W13.out.step D' (Kept.of_below g11))
                            clear D' g11 q0 W13
                            have q1 := W11.out.c.cell (k := 1) rfl
                            go_wp2_with fail
                            refine (stands_p W11.out.D (by omega) 1 HA.out.2 rfl HR1.out).mono ?_
                            rintro e w12 ⟨rfl, D', g12⟩
                            have HX12 := Lib.hid (W11.out.step D' (Kept.of_below g12)).X
                            clear D' g12 q1 W11
                            go_wp2_with fail
                            go_roundw
                            case rel => exact ⟨q + 1, _, _, _, _, by omega, by go_num, HX12.out⟩
                            case measure => simp [intOf]; omega
        · have t1 : decide ((q : Int) < 2) = false := decide_eq_false (by omega)
          go_wp2_with fail
          refine (works_any _).mono ?_
          rintro e w4 ⟨rfl, hb⟩
          have HB := Lib.hid (HX.out.bel.trans (hb.mono HX.out.bel.size))
          clear hb
          go_wp2_with fail
          go_ret
          exact ⟨rfl, HB.out⟩
end Go.Proofs.Ytgnomopiofpknaa
