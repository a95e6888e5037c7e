/- Open: a vault on a disk, found or made. No condition but bounds on what is loose. -/
import Derived.Test.YtjcphpmlekfhdaaGreatDoorGi
import Derived.Deep.RegionHeld3
namespace Go.Proofs.YtjcphpmlekfhdaaGreatDoor
open Go.RowKit

set_option maxRecDepth 100000 in
set_option maxHeartbeats 4000000 in
theorem open_off {w0 w : World} {d : Nat} {X : Nat → Prop} {S : Dk} (D : Dp w0 d X S w) (hcnt : S.cnt ≤ 1000000000) (ho : S.off = true) :
    Calls Tryz.prog 11 #[.pointer (some ⟨d, 0, none⟩)] w (OpenQ w0 d X w 8 S 0 0 []) := by
  have hr : S.read 0 = ([], 8) := by
    have e : S.ask 0 = 8 := by unfold Dk.ask; rw [if_pos ho]
    unfold Dk.read
    rw [e]
    rfl
  obtain ⟨w1, hw1⟩ : ∃ w1, w1 = (w.alloc (.cells #[.pointer (some ⟨d, 0, none⟩)] 26)).alloc (.cells #[.slice none 0 0, .slice none 0 0] 81) := ⟨_, rfl⟩
  have b1 : Below w.heap.size w w1 := by rw [hw1]; exact ((Below.refl _ _).alloc (Nat.le_refl _) _).alloc (by simp) _
  have x1 : w1.cell? ⟨w.heap.size, 0, none⟩ = some (.pointer (some ⟨d, 0, none⟩)) := by
    rw [hw1]
    exact ((Ro.new w 26 [.pointer (some ⟨d, 0, none⟩)]).alloc _).cell rfl
  have RD := Lib.hid (read_o (D.later b1) (by omega) 0 hr)
  have HD := Lib.hid D
  have B1 := Lib.hid b1
  clear b1 D hr
  go_enter Tryz.func11, Tryz.ntmps11
  go_wp2_with fail
  rw [← hw1]
  clear hw1
  refine wp_loop_rounds 1 ?_
  rw [rounds_succ]
  go_wp2_with fail
  refine (RD.out).mono ?_
  rintro e w2 ⟨A0, n0, k0, rfl, _, _, _, _, b2⟩
  have HB2 := Lib.hid (Below.both B1.out b2)
  clear b2
  go_wp2_with fail
  go_returns
  exact .inl ⟨by decide, rfl, HD.out.later HB2.out, Kept.of_below HB2.out⟩

set_option maxRecDepth 100000 in
set_option maxHeartbeats 8000000 in
theorem open_on {w0 w : World} {d : Nat} {X : Nat → Prop} {S : Dk} (hLd : Laid w0) (D : Dp w0 d X S w) (hX : ∀ b, X b → b < w.heap.size) (hcnt : S.cnt ≤ 1000000000) (ho : S.off = false) :
    Calls Tryz.prog 11 #[.pointer (some ⟨d, 0, none⟩)] w (OpenQ w0 d X w (openS S).1 (openS S).2.1 (openS S).2.2.1 (openS S).2.2.2.1 (openS S).2.2.2.2) := by
  obtain ⟨P, hP⟩ : ∃ P, openS S = P := ⟨_, rfl⟩
  have HPP := Lib.hid hP
  rw [hP]
  clear hP
  have hr : ∀ i : Nat, i = 0 ∨ i = 1 → S.read (i : Int) = ((S.at i).at, 0) := fun i hi => by
    have e : S.ask (i : Int) = 0 := Dk.ask_on ho hi
    unfold Dk.read
    rw [e]
    rfl
  have hle := at_len D.ok
  have hw0 : w0.heap.size ≤ w.heap.size := D.bel.size
  obtain ⟨w1, hw1⟩ : ∃ w1, w1 = (w.alloc (.cells #[.pointer (some ⟨d, 0, none⟩)] 26)).alloc (.cells #[.slice none 0 0, .slice none 0 0] 81) := ⟨_, rfl⟩
  have b1 : Below w.heap.size w w1 := by rw [hw1]; exact ((Below.refl _ _).alloc (Nat.le_refl _) _).alloc (by simp) _
  have z1 : w1.heap.size = w.heap.size + 2 := by rw [hw1]; simp
  have r1 : Ro w1 w.heap.size 26 [.pointer (some ⟨d, 0, none⟩)] := by
    rw [hw1]
    exact (Ro.new w 26 [.pointer (some ⟨d, 0, none⟩)]).alloc _
  have r5 : Ro w1 (w.heap.size + 1) 81 [.slice none 0 0, .slice none 0 0] := by
    rw [hw1]
    have := Ro.new (w.alloc (.cells #[.pointer (some ⟨d, 0, none⟩)] 26)) 81 [.slice none 0 0, .slice none 0 0]
    rwa [World.size_alloc] at this
  have D1 : Dp w0 d (fun b => X b ∨ (w.heap.size ≤ b ∧ b < w1.heap.size)) S w1 := D.wide (Kept.of_below b1) (D.bel.trans (b1.mono D.bel.size)) fun b q => q
  have x1 := r1.cell (k := 0) rfl
  have RD0 := Lib.hid (read_o D1 (by omega) 0 (hr 0 (.inl rfl)))
  have HR := Lib.hid hr
  have HD := Lib.hid D
  have HD1 := Lib.hid D1
  have HB1 := Lib.hid b1
  have HR1 := Lib.hid r1
  have HR5 := Lib.hid r5
  have HZ1 := Lib.hid z1
  have HLE := Lib.hid hle
  clear b1 z1 r1 r5 D1 D hr hle
  go_enter Tryz.func11, Tryz.ntmps11
  go_wp2_with fail
  rw [← hw1]
  clear hw1
  refine wp_loop_rounds 3 ?_
  rw [rounds_succ]
  go_wp2_with fail
  refine (RD0.out).mono ?_
  rintro e w2 ⟨A0, n0, k0, rfl, hc0, hm0, s0, u0, b2⟩
  have r52 := HR5.out.later b2
  have c50 := r52.cell (k := 0) rfl
  have f50 := r52.free 0
  obtain ⟨w3, hw3⟩ : ∃ w3, w3 = w2.setCell ⟨w.heap.size + 1, 0, none⟩ (.slice A0 n0 k0) := ⟨_, rfl⟩
  have hne0 : ∀ a, A0 = some a → a.block ≠ w.heap.size + 1 := fun a e => by have := u0 a e; have := HZ1.out; omega
  have s03 : Bs w3 A0 n0 (S.at 0).at := by rw [hw3]; exact s0.box hne0 _
  have D3 : Dp w0 d (fun b => X b ∨ (w.heap.size ≤ b ∧ b < w1.heap.size)) S w3 := by rw [hw3]; exact (HD1.out.later b2).box (.inr ⟨by omega, by have := HZ1.out; omega⟩) (by omega) _
  have r53 : Ro w3 (w.heap.size + 1) 81 [.slice A0 n0 k0, .slice none 0 0] := by rw [hw3]; exact r52.set 0 _
  have r13 : Ro w3 w.heap.size 26 [.pointer (some ⟨d, 0, none⟩)] := by rw [hw3]; exact (HR1.out.later b2).other (by omega) _
  have b3 : Below w.heap.size w w3 := by rw [hw3]; exact (Below.both HB1.out b2).setCell (p := ⟨w.heap.size + 1, 0, none⟩) (by show w.heap.size ≤ w.heap.size + 1; omega) _
  have z3 : w1.heap.size ≤ w3.heap.size := by rw [hw3]; have := b2.size; simpa [World.setCell] using this
  have RD1 := Lib.hid (read_o D3 (by omega) 1 (HR.out 1 (.inr rfl)))
  have x3 := r13.cell (k := 0) rfl
  have s0s : w3.heap.size = w2.heap.size := by rw [hw3]; simp [World.setCell]
  have HS0 := Lib.hid (And.intro s03 (show ∀ a, A0 = some a → w1.heap.size ≤ a.block ∧ a.block < w3.heap.size from fun a e => by rw [s0s]; exact u0 a e))
  clear s0s
  have HD3 := Lib.hid D3
  have HR53 := Lib.hid r53
  have HR13 := Lib.hid r13
  have HB3 := Lib.hid b3
  have HZ3 := Lib.hid z3
  clear s0 u0 b2 r52 hne0 s03 D3 r53 r13 b3 z3 x1
  go_wp2_with fail
  rw [← hw3]
  clear hw3 c50 f50
  rw [rounds_succ]
  go_wp2_with fail
  refine (RD1.out).mono ?_
  rintro e w4 ⟨A1, n1, k1, rfl, hc1, hm1, s1, u1, b4⟩
  have r54 := HR53.out.later b4
  have c51 := r54.cell (k := 1) rfl
  have f51 := r54.free 1
  obtain ⟨w5, hw5⟩ : ∃ w5, w5 = w4.setCell ⟨w.heap.size + 1, 1, none⟩ (.slice A1 n1 k1) := ⟨_, rfl⟩
  have hn0 : ∀ a, A0 = some a → a.block ≠ w.heap.size + 1 := fun a e => by have := HS0.out.2 a e; have := HZ1.out; omega
  have hn1 : ∀ a, A1 = some a → a.block ≠ w.heap.size + 1 := fun a e => by have := u1 a e; have := HZ1.out; have := HZ3.out; omega
  have s05 : Bs w5 A0 n0 (S.at 0).at := by rw [hw5]; exact (HS0.out.1.later b4).box hn0 _
  have s15 : Bs w5 A1 n1 (S.at 1).at := by rw [hw5]; exact s1.box hn1 _
  have D5 : Dp w0 d (fun b => X b ∨ (w.heap.size ≤ b ∧ b < w1.heap.size)) S w5 := by rw [hw5]; exact (HD3.out.later b4).box (.inr ⟨by omega, by have := HZ1.out; omega⟩) (by omega) _
  have r55 : Ro w5 (w.heap.size + 1) 81 [.slice A0 n0 k0, .slice A1 n1 k1] := by rw [hw5]; exact r54.set 1 _
  have r15 : Ro w5 w.heap.size 26 [.pointer (some ⟨d, 0, none⟩)] := by rw [hw5]; exact (HR13.out.later b4).other (by omega) _
  have b5 : Below w.heap.size w w5 := by rw [hw5]; exact (Below.both HB3.out b4).setCell (p := ⟨w.heap.size + 1, 1, none⟩) (by show w.heap.size ≤ w.heap.size + 1; omega) _
  have z5 : w1.heap.size ≤ w5.heap.size ∧ (∀ a, A1 = some a → w1.heap.size ≤ a.block ∧ a.block < w5.heap.size) ∧ (∀ a, A0 = some a → a.block < w5.heap.size) := by
    have h0 : w5.heap.size = w4.heap.size := by rw [hw5]; simp [World.setCell]
    have h1 := b4.size
    have h2 := HZ3.out
    refine ⟨by rw [hw5]; have : w1.heap.size ≤ w4.heap.size := by omega
               simpa [World.setCell] using this, fun a e => by have := u1 a e; omega, fun a e => by have := HS0.out.2 a e; omega⟩
  have l0 := s05.len
  have l1 := s15.len
  have g0 : n0 ≤ 4194304 := by rw [← l0]; exact HLE.out 0
  have g1 : n1 ≤ 4194304 := by rw [← l1]; exact HLE.out 1
  have HS5 := Lib.hid (show Bs w5 A0 n0 (S.at 0).at ∧ Bs w5 A1 n1 (S.at 1).at ∧ (∀ a, A0 = some a → w1.heap.size ≤ a.block) from ⟨s05, s15, fun a e => (HS0.out.2 a e).1⟩)
  have HD5 := Lib.hid D5
  have HR55 := Lib.hid r55
  have HR15 := Lib.hid r15
  have HB5 := Lib.hid b5
  have HZ5 := Lib.hid z5
  clear s1 u1 b4 r54 hn0 hn1 s05 s15 D5 r55 r15 b5 z5 x3 HS0 HD3 HR53 HR13 HB3 HZ3 l0 l1
  go_wp2_with fail
  rw [← hw5]
  clear hw5 c51 f51
  rw [rounds_succ]
  obtain ⟨w7, hw7⟩ : ∃ w7, w7 = (w5.alloc (.cells #[.int .i64 (-1)] 3)).alloc (.cells #[.int .u64 0, .slice none 0 0, .int .i64 0] 83) := ⟨_, rfl⟩
  have b57 : Below w5.heap.size w5 w7 := by rw [hw7]; exact ((Below.refl _ _).alloc (Nat.le_refl _) _).alloc (by simp) _
  have z7 : w7.heap.size = w5.heap.size + 2 := by rw [hw7]; simp
  obtain ⟨P9, hP9⟩ : ∃ P9, w5.heap.size = P9 := ⟨_, rfl⟩
  have r9 : Ro w7 P9 3 [.int .i64 (-1)] := by
    rw [hw7, ← hP9]
    exact (Ro.new w5 3 [.int .i64 (-1)]).alloc _
  have r10 : Ro w7 (P9 + 1) 83 [.int .u64 0, .slice none 0 0, .int .i64 0] := by
    rw [hw7, ← hP9]
    have := Ro.new (w5.alloc (.cells #[.int .i64 (-1)] 3)) 83 [.int .u64 0, .slice none 0 0, .int .i64 0]
    rwa [World.size_alloc] at this
  have r57 := HR55.out.later b57
  have x50 := r57.cell (k := 0) rfl
  rw [hw7] at x50
  have x51 := r57.cell (k := 1) rfl
  rw [hw7] at x51
  have b7 : Below w.heap.size w w7 := Below.both HB5.out b57
  obtain ⟨K, hK⟩ : ∃ K, w7.heap.size = K := ⟨_, rfl⟩
  have hP9K : P9 + 1 < K := by omega
  have hP90 : w.heap.size + 1 < P9 := by have := HZ5.out; have := HZ1.out; omega
  obtain ⟨X7, hX7⟩ : ∃ X7 : Nat → Prop, X7 = fun b => X b ∨ (w.heap.size ≤ b ∧ b < K) := ⟨_, rfl⟩
  have hX7' : ∀ b, X7 b ↔ (X b ∨ (w.heap.size ≤ b ∧ b < K)) := fun b => by rw [hX7]
  have D7 : Dp w0 d X7 S w7 := HD.out.wide (Kept.of_below b7) (HD.out.bel.trans (b7.mono HD.out.bel.size)) fun b q => by
    have := (hX7' b).1 q
    rw [hK]
    exact this
  have h7 : ∀ b, w.heap.size ≤ b → b < K → X7 b := fun b h1 h2 => (hX7' b).2 (.inr ⟨h1, h2⟩)
  have hA0 : ∀ a, A0 = some a → a.block ≠ P9 ∧ a.block ≠ P9 + 1 := fun a e => by have := HZ5.out.2.2 a e; omega
  have hA1 : ∀ a, A1 = some a → a.block ≠ P9 ∧ a.block ≠ P9 + 1 := fun a e => by have := HZ5.out.2.1 a e; omega
  have J0 : OpJ w0 w d X7 S K P9 A0 A1 n0 n1 k0 k1 0 (-1) 0 (.slice none 0 0) 0 w7 :=
    ⟨b7, Nat.le_of_eq hK.symm, HR15.out.later b57, r57, r9, r10, ⟨rfl, rfl⟩, D7, HS5.out.1.later b57, HS5.out.2.1.later b57⟩
  have HJ0 := Lib.hid J0
  have H7 := Lib.hid h7
  have HA := Lib.hid (And.intro hA0 hA1)
  have HX7 := Lib.hid hX7'
  have HKK := Lib.hid hK
  have hKP : P9 + 2 = K := by omega
  clear J0 h7 hA0 hA1 hX7' hX7 b57 z7 r9 r10 r57 b7 D7 hK
  go_wp2_with fail
  rw [← hw7]
  clear hw7 x50 x51
  go_loopw [37] (fun i wr => ∃ k : Nat, k ≤ 2 ∧ i = .int .i64 (k : Nat) ∧ ∃ F G v good, OpJ w0 w d X7 S K P9 A0 A1 n0 n1 k0 k1 k F G v good wr) (fun i _ => 2 - (intOf i).toNat)
  case atStart => exact ⟨0, by decide, rfl, _, _, _, _, HJ0.out⟩
  case round =>
    obtain ⟨k, hk, rfl, F, G, v, good, J⟩ := hrel
    have hk3 : k = 0 ∨ k = 1 ∨ k = 2 := by omega
    rcases hk3 with rfl | rfl | rfl
    · have CT := Lib.hid (content_any (f := 0) (c := k0) wr (hLd.later hLd.lt J.dp.bel) (by decide) (by omega) hc0 hm0 J.b0)
      have HJ := Lib.hid J
      have i0 : ∀ u : World, (Instr.index 81 (.agg #[.slice A0 n0 k0, .slice A1 n1 k1]) (.int .i64 0)).run Tryz.prog u = .ok (.slice A0 n0 k0) u := fun _ => by kernel_rfl
      clear J
      go_wp2_with fail
      refine (CT.out).mono ?_
      rintro e w8 ⟨b8, g, sA, sn, sc, good', rfl, hs⟩
      dsimp only [contV]
      have J8 := HJ.out.later b8
      have HJ8 := Lib.hid J8
      have HB8 := Lib.hid b8
      have x10 := J8.r10.cell (k := 0) rfl
      cases hS : soundS 0 (S.at 0).at with
      | none =>
        have NX := Lib.hid (J8.next (bestS_none (Ls := fun i => (S.at i).at) hS))
        have ba := Lib.hid ((Below.refl w8.heap.size w8).alloc (Nat.le_refl _) (.cells #[.int .u64 (g : Nat), .slice sA sn sc, .int .i64 (good' : Nat)] 83))
        clear hs J8 b8 hS CT HJ
        dsimp only [Option.isSome]
        go_wp2_with fail
        go_roundw
        case rel => exact ⟨0 + 1, by decide, rfl, F, G, v, good, NX.out.later ba.out⟩
        case measure => simp [intOf]
      | some x =>
        obtain ⟨rfl, rfl, O⟩ := hs x hS
        have ba := Lib.hid ((Below.refl w8.heap.size w8).alloc (Nat.le_refl _) (.cells #[.int .u64 (x.1 : Nat), .slice sA sn sc, .int .i64 (x.2.2 : Nat)] 83))
        have J9 := J8.later ba.out
        have hG := J8.best.gen
        by_cases hlt : G < x.1
        · have t9 : decide ((G : Int) < (x.1 : Int)) = true := decide_eq_true (by omega)
          have O2 : OwnRw 40 1 ByR w (fun b => K ≤ b) (.slice sA sn sc) x.2.1.length x.2.1 (w8.alloc (.cells #[.int .u64 (x.1 : Nat), .slice sA sn sc, .int .i64 (x.2.2 : Nat)] 83)) :=
            ((OwnRw.weak byM O fun b hb _ => Nat.le_trans HJ.out.size hb).later byM ba.out).base HJ.out.bel.size J9.bel
          have NX := Lib.hid (J9.better hP9K hP90 hw0 H7.out HA.out.1 HA.out.2 (bestS_less (Ls := fun i => (S.at i).at) hS (by rw [← hG]; exact hlt)) O2 (fun q e => Nat.le_trans HJ.out.size (O.new q e).1))
          have y9 := J9.r9.cell (k := 0) rfl
          have y10 := J9.r10.cell (k := 0) rfl
          have y11 := J9.r10.cell (k := 1) rfl
          have y12 := J9.r10.cell (k := 2) rfl
          have f9 := J9.r9.free 0
          have f10 := J9.r10.free 0
          have f11 := J9.r10.free 1
          have f12 := J9.r10.free 2
          have hne : P9 ≠ w8.heap.size ∧ P9 + 1 ≠ w8.heap.size := by have := J8.size; omega
          obtain ⟨hne1, hne2⟩ := hne
          obtain ⟨xg, hxg⟩ : ∃ xg, x.1 = xg := ⟨_, rfl⟩
          obtain ⟨xd, hxd⟩ : ∃ xd, x.2.2 = xd := ⟨_, rfl⟩
          rw [hxg, hxd] at y9 y10 y11 y12 f9 f10 f11 f12 NX
          rw [hxg] at t9 hlt
          have hltn : decide (G < xg) = true := decide_eq_true hlt
          rw [hxg, hxd]
          clear hs J8 b8 hS CT HJ O2 O J9 hG ba hxg hxd
          dsimp only [Option.isSome]
          go_wp2_with fail
          go_region
          go_wp2_with fail
          go_roundw
          case rel => exact ⟨0 + 1, by decide, rfl, _, _, _, _, NX.out.later ((Below.refl _ _).drew)⟩
          case measure => simp [intOf]
        · have t9 : decide ((G : Int) < (x.1 : Int)) = false := decide_eq_false (by omega)
          have NX := Lib.hid (J9.next (bestS_more (Ls := fun i => (S.at i).at) hS (by rw [← hG]; exact hlt)))
          have y10 := J9.r10.cell (k := 0) rfl
          obtain ⟨xg, hxg⟩ : ∃ xg, x.1 = xg := ⟨_, rfl⟩
          obtain ⟨xd, hxd⟩ : ∃ xd, x.2.2 = xd := ⟨_, rfl⟩
          rw [hxg, hxd] at y10 NX
          rw [hxg] at t9 hlt
          have hltn : decide (G < xg) = false := decide_eq_false hlt
          rw [hxg, hxd]
          clear hs J8 b8 hS CT HJ O J9 hG ba hxg hxd
          dsimp only [Option.isSome]
          go_wp2_with fail
          go_roundw
          case rel => exact ⟨0 + 1, by decide, rfl, F, G, v, good, NX.out⟩
          case measure => simp [intOf]
    · have CT := Lib.hid (content_any (f := 1) (c := k1) wr (hLd.later hLd.lt J.dp.bel) (by decide) (by omega) hc1 hm1 J.b1)
      have HJ := Lib.hid J
      have i0 : ∀ u : World, (Instr.index 81 (.agg #[.slice A0 n0 k0, .slice A1 n1 k1]) (.int .i64 1)).run Tryz.prog u = .ok (.slice A1 n1 k1) u := fun _ => by kernel_rfl
      clear J
      go_wp2_with fail
      refine (CT.out).mono ?_
      rintro e w8 ⟨b8, g, sA, sn, sc, good', rfl, hs⟩
      dsimp only [contV]
      have J8 := HJ.out.later b8
      have HJ8 := Lib.hid J8
      have HB8 := Lib.hid b8
      have x10 := J8.r10.cell (k := 0) rfl
      cases hS : soundS 1 (S.at 1).at with
      | none =>
        have NX := Lib.hid (J8.next (bestS_none (Ls := fun i => (S.at i).at) hS))
        have ba := Lib.hid ((Below.refl w8.heap.size w8).alloc (Nat.le_refl _) (.cells #[.int .u64 (g : Nat), .slice sA sn sc, .int .i64 (good' : Nat)] 83))
        clear hs J8 b8 hS CT HJ
        dsimp only [Option.isSome]
        go_wp2_with fail
        go_roundw
        case rel => exact ⟨1 + 1, by decide, rfl, F, G, v, good, NX.out.later ba.out⟩
        case measure => simp [intOf]
      | some x =>
        obtain ⟨rfl, rfl, O⟩ := hs x hS
        have ba := Lib.hid ((Below.refl w8.heap.size w8).alloc (Nat.le_refl _) (.cells #[.int .u64 (x.1 : Nat), .slice sA sn sc, .int .i64 (x.2.2 : Nat)] 83))
        have J9 := J8.later ba.out
        have hG := J8.best.gen
        by_cases hlt : G < x.1
        · have t9 : decide ((G : Int) < (x.1 : Int)) = true := decide_eq_true (by omega)
          have O2 : OwnRw 40 1 ByR w (fun b => K ≤ b) (.slice sA sn sc) x.2.1.length x.2.1 (w8.alloc (.cells #[.int .u64 (x.1 : Nat), .slice sA sn sc, .int .i64 (x.2.2 : Nat)] 83)) :=
            ((OwnRw.weak byM O fun b hb _ => Nat.le_trans HJ.out.size hb).later byM ba.out).base HJ.out.bel.size J9.bel
          have NX := Lib.hid (J9.better hP9K hP90 hw0 H7.out HA.out.1 HA.out.2 (bestS_less (Ls := fun i => (S.at i).at) hS (by rw [← hG]; exact hlt)) O2 (fun q e => Nat.le_trans HJ.out.size (O.new q e).1))
          have y9 := J9.r9.cell (k := 0) rfl
          have y10 := J9.r10.cell (k := 0) rfl
          have y11 := J9.r10.cell (k := 1) rfl
          have y12 := J9.r10.cell (k := 2) rfl
          have f9 := J9.r9.free 0
          have f10 := J9.r10.free 0
          have f11 := J9.r10.free 1
          have f12 := J9.r10.free 2
          have hne : P9 ≠ w8.heap.size ∧ P9 + 1 ≠ w8.heap.size := by have := J8.size; omega
          obtain ⟨hne1, hne2⟩ := hne
          obtain ⟨xg, hxg⟩ : ∃ xg, x.1 = xg := ⟨_, rfl⟩
          obtain ⟨xd, hxd⟩ : ∃ xd, x.2.2 = xd := ⟨_, rfl⟩
          rw [hxg, hxd] at y9 y10 y11 y12 f9 f10 f11 f12 NX
          rw [hxg] at t9 hlt
          have hltn : decide (G < xg) = true := decide_eq_true hlt
          rw [hxg, hxd]
          clear hs J8 b8 hS CT HJ O2 O J9 hG ba hxg hxd
          dsimp only [Option.isSome]
          go_wp2_with fail
          go_region
          go_wp2_with fail
          go_roundw
          case rel => exact ⟨1 + 1, by decide, rfl, _, _, _, _, NX.out.later ((Below.refl _ _).drew)⟩
          case measure => simp [intOf]
        · have t9 : decide ((G : Int) < (x.1 : Int)) = false := decide_eq_false (by omega)
          have NX := Lib.hid (J9.next (bestS_more (Ls := fun i => (S.at i).at) hS (by rw [← hG]; exact hlt)))
          have y10 := J9.r10.cell (k := 0) rfl
          obtain ⟨xg, hxg⟩ : ∃ xg, x.1 = xg := ⟨_, rfl⟩
          obtain ⟨xd, hxd⟩ : ∃ xd, x.2.2 = xd := ⟨_, rfl⟩
          rw [hxg, hxd] at y10 NX
          rw [hxg] at t9 hlt
          have hltn : decide (G < xg) = false := decide_eq_false hlt
          rw [hxg, hxd]
          clear hs J8 b8 hS CT HJ O J9 hG ba hxg hxd
          dsimp only [Option.isSome]
          go_wp2_with fail
          go_roundw
          case rel => exact ⟨1 + 1, by decide, rfl, F, G, v, good, NX.out⟩
          case measure => simp [intOf]
    · have x9 := J.r9.cell (k := 0) rfl
      have x1 := J.r1.cell (k := 0) rfl
      have x50 := J.r5.cell (k := 0) rfl
      have x51 := J.r5.cell (k := 1) rfl
      have l0 := J.b0.len
      have l1 := J.b1.len
      have hX7r : ∀ b, X7 b → b < wr.heap.size := fun b hb => by
        have h1 := J.bel.size
        have h2 := J.size
        rcases (HX7.out b).1 hb with h | h
        · have := hX b h; omega
        · omega
      have HJ := Lib.hid J
      have HL := Lib.hid (And.intro l0 l1)
      have HXr := Lib.hid hX7r
      clear l0 l1 hX7r
      cases hB : bestS (fun i => (S.at i).at) 2 with
      | none =>
        have hb := J.best
        rw [hB] at hb
        obtain ⟨rfl, rfl⟩ := hb
        obtain ⟨x, S', hxs⟩ : ∃ x S', seqS (beginL n1 n0) S = (x, S') := ⟨_, _, rfl⟩
        have hO : openS S = (x, S', 1, 1, []) := by
          unfold openS
          rw [if_neg (by rw [ho]; decide), hB]
          show (_, _, _, _, _) = _
          have e : seqS (beginL S.g.at.length S.f.at.length) S = (x, S') := by rw [← hxs, ← HL.out.1, ← HL.out.2]; rfl
          rw [e]
        obtain rfl : P = (x, S', 1, 1, []) := by rw [← HPP.out]; exact hO
        have BG := Lib.hid (vbegin_any (A0 := A0) (A1 := A1) (c0 := k0) (c1 := k1) hLd HXr.out J.dp (fun i hi => Nat.le_trans (cnt_begin _ _ _ i hi) (by omega)) hxs)
        clear J hxs hO hB HPP
        go_wp2_with fail
        refine (BG.out).mono ?_
        rintro e W (⟨hx, rfl, D9, K9⟩ | ⟨rfl, v9, r9, rfl, hv, V9, rfl, D9, K9⟩)
        · have Q9 : Hid (OpenQ w0 d X w x S' 1 1 [] (.returned (.tuple #[.pointer none, .slice none 0 0, .int .i64 x])) W) := Lib.hid (.inl ⟨hx, rfl, D9.narrow fun b hb => (HX7.out b).2 (.inl hb), (Kept.of_below HJ.out.bel).trans' (K9.narrow fun b hb => (HX7.out b).2 (.inl hb))⟩)
          clear D9 K9
          go_wp2_with fail
          go_returns
          exact Q9.out
        · have Q9 : Hid (OpenQ w0 d X w 0 S' 1 1 [] (.returned (.tuple #[.pointer (some ⟨v9, 0, none⟩), .slice none 0 0, .int .i64 0])) W) := Lib.hid (.inr ⟨rfl, v9, _, fun _ => False, rfl, Nat.le_trans HJ.out.bel.size hv, V9, ⟨none, 0, rfl, Nat.le_refl _, Rows.nil _ _ _ _ _⟩, fun b hb => hb.elim, D9.narrow fun b hb => by
              rcases hb with hb | hb | hb
              · exact .inl ((HX7.out b).2 (.inl hb))
              · exact .inr hb
              · exact hb.elim, (Kept.of_below HJ.out.bel).trans' (K9.narrow fun b hb => (HX7.out b).2 (.inl hb))⟩)
          clear D9 K9 V9
          go_wp2_with fail
          go_returns
          exact Q9.out
      | some y =>
        obtain ⟨f, g, recs, gd⟩ := y
        have hf2 := bestS_file hB
        have hb := J.best
        rw [hB] at hb
        dsimp only at hb hf2
        obtain ⟨rfl, rfl, rfl, OW, hnew⟩ := hb
        have x100 := J.r10.cell (k := 0) rfl
        have x101 := J.r10.cell (k := 1) rfl
        have x102 := J.r10.cell (k := 2) rfl
        have HOW := Lib.hid (And.intro OW hnew)
        have HB := Lib.hid hB
        clear OW hnew J hB
        have hf01 : f = 0 ∨ f = 1 := by omega
        rcases hf01 with rfl | rfl
        · have Q0 : Hid (∀ w', Below wr.heap.size wr w' → w'.cell? ⟨P9, 0, none⟩ = some (.int .i64 ((0 : Nat) : Int)) ∧ w'.cell? ⟨w.heap.size + 1, 0, none⟩ = some (.slice A0 n0 k0) ∧ w'.cell? ⟨w.heap.size + 1, 1, none⟩ = some (.slice A1 n1 k1)) := Lib.hid fun w' b =>
            ⟨(b.cell (p := ⟨P9, 0, none⟩) (World.block_lt_of_cell? _ _ x9)).trans x9, (b.cell (p := ⟨w.heap.size + 1, 0, none⟩) (World.block_lt_of_cell? _ _ x50)).trans x50, (b.cell (p := ⟨w.heap.size + 1, 1, none⟩) (World.block_lt_of_cell? _ _ x51)).trans x51⟩
          go_wp2_with fail
          have hz2 : IntKind.i64.wrap (1 : Int) = 1 := by decide
          have hz3 : IntKind.i64.wrap (0 : Int) = 0 := by decide
          go_region_held3 (fun w' => w'.cell? ⟨P9, 0, none⟩ = some (.int .i64 ((0 : Nat) : Int)) ∧ w'.cell? ⟨w.heap.size + 1, 0, none⟩ = some (.slice A0 n0 k0) ∧ w'.cell? ⟨w.heap.size + 1, 1, none⟩ = some (.slice A1 n1 k1))
            (first | exact Q0.out _ (by repeat (first | exact Below.refl _ _ | (refine Below.drew ?_) | (refine Below.alloc ?_ (by simp <;> omega) _) | (refine Below.setCell ?_ (by simp <;> omega) _))))
            (first | fail)
          all_goals (
            first
              | (obtain ⟨w9, h1⟩ : ∃ w9, w9 = ((wr.alloc (.cells #[.slice A0 n0 k0] 40)).alloc (.cells #[.slice A1 n1 k1] 40)).drew := ⟨_, rfl⟩
                 obtain ⟨bo, h2⟩ : ∃ bo, bo = wr.heap.size := ⟨_, rfl⟩
                 obtain ⟨bp, h3⟩ : ∃ bp, bp = wr.heap.size + 1 := ⟨_, rfl⟩
                 rw [← h1, ← h3, ← h2]
                 have F9 : Below wr.heap.size wr w9 ∧ Ro w9 bo 40 [.slice A0 n0 k0] ∧ Ro w9 bp 40 [.slice A1 n1 k1] ∧ wr.heap.size ≤ bo ∧ wr.heap.size ≤ bp := by
                   rw [h1, h2, h3]
                   refine ⟨(((Below.refl _ _).alloc (Nat.le_refl _) _).alloc (by simp) _).drew, (((Ro.new wr 40 [.slice A0 n0 k0]).alloc _).later (Below.refl _ _).drew), ?_, Nat.le_refl _, by omega⟩
                   have := (Ro.new (wr.alloc (.cells #[.slice A0 n0 k0] 40)) 40 [.slice A1 n1 k1]).later (Below.refl _ _).drew
                   rwa [World.size_alloc] at this
                 clear h1 h2 h3)
              | (obtain ⟨w9, h1⟩ : ∃ w9, w9 = ((wr.alloc (.cells #[.slice A1 n1 k1] 40)).alloc (.cells #[.slice A0 n0 k0] 40)).drew := ⟨_, rfl⟩
                 obtain ⟨bp, h2⟩ : ∃ bo, bo = wr.heap.size := ⟨_, rfl⟩
                 obtain ⟨bo, h3⟩ : ∃ bp, bp = wr.heap.size + 1 := ⟨_, rfl⟩
                 rw [← h1, ← h3, ← h2]
                 have F9 : Below wr.heap.size wr w9 ∧ Ro w9 bo 40 [.slice A0 n0 k0] ∧ Ro w9 bp 40 [.slice A1 n1 k1] ∧ wr.heap.size ≤ bo ∧ wr.heap.size ≤ bp := by
                   rw [h1, h2, h3]
                   refine ⟨(((Below.refl _ _).alloc (Nat.le_refl _) _).alloc (by simp) _).drew, ?_, (((Ro.new wr 40 [.slice A1 n1 k1]).alloc _).later (Below.refl _ _).drew), by omega, Nat.le_refl _⟩
                   have := (Ro.new (wr.alloc (.cells #[.slice A1 n1 k1] 40)) 40 [.slice A0 n0 k0]).later (Below.refl _ _).drew
                   rwa [World.size_alloc] at this
                 clear h1 h2 h3)
            obtain ⟨b9, ro9, rp9, hbo, hbp⟩ := F9
            obtain ⟨w10, hw10⟩ : ∃ w10, w10 = w9.alloc (.cells #[fnV (32, #[.pointer (some ⟨w.heap.size, 0, none⟩), .pointer (some ⟨P9, 0, none⟩), .pointer (some ⟨bo, 0, none⟩), .pointer (some ⟨P9 + 1, 0, none⟩)]), fnV (34, #[.pointer (some ⟨w.heap.size, 0, none⟩), .pointer (some ⟨P9, 0, none⟩)]), fnV (36, #[.pointer (some ⟨w.heap.size, 0, none⟩), .pointer (some ⟨P9, 0, none⟩), .pointer (some ⟨bp, 0, none⟩)])] 54) := ⟨_, rfl⟩
            have b10 : Below w9.heap.size w9 w10 := by rw [hw10]; exact (Below.refl _ _).alloc (Nat.le_refl _) _
            have z10 : w10.heap.size = w9.heap.size + 1 := by rw [hw10]; simp
            have R10 : Ro w10 w9.heap.size 54 [fnV (32, #[.pointer (some ⟨w.heap.size, 0, none⟩), .pointer (some ⟨P9, 0, none⟩), .pointer (some ⟨bo, 0, none⟩), .pointer (some ⟨P9 + 1, 0, none⟩)]), fnV (34, #[.pointer (some ⟨w.heap.size, 0, none⟩), .pointer (some ⟨P9, 0, none⟩)]), fnV (36, #[.pointer (some ⟨w.heap.size, 0, none⟩), .pointer (some ⟨P9, 0, none⟩), .pointer (some ⟨bp, 0, none⟩)])] := by rw [hw10]; exact Ro.new w9 _ _
            have J10 := HJ.out.later (Below.both b9 b10)
            have D10 : Dp w0 d (fun b => X b ∨ (w.heap.size ≤ b ∧ b < w10.heap.size)) S w10 := HD.out.wide (Kept.of_below J10.bel) (HD.out.bel.trans (J10.bel.mono HD.out.bel.size)) fun b q => q
            have s9 := b9.size
            have sJ := HJ.out.bel.size
            have sK := HJ.out.size
            obtain ⟨x, S', hxs⟩ : ∃ x S', seqS (openL 0 n0 n1 good) S = (x, S') := ⟨_, _, rfl⟩
            have hbo9 := ro9.lt
            have hbp9 := rp9.lt
            have ST := Lib.hid (open_steps D10 (f := 0) (bd := w.heap.size) (bx := P9) (bo := bo) (bp := bp) (bc := P9 + 1) (bl := w9.heap.size) (by decide) (.inr ⟨Nat.le_refl _, by omega⟩) (.inr ⟨by omega, by omega⟩) (.inr ⟨by omega, by omega⟩) (.inr ⟨by omega, by omega⟩) (.inr ⟨by omega, by omega⟩) (.inr ⟨by omega, by omega⟩)
              (J10.r1.cell rfl) (J10.r9.cell rfl) ((ro9.later b10).cell rfl) ((rp9.later b10).cell rfl) (J10.r10.cell rfl) (J10.r10.cell rfl)
              (fun i hi => by
                have e : i = 0 ∨ i = 1 ∨ i = 2 := by omega
                rcases e with rfl | rfl | rfl <;> exact R10.cell rfl) (fun i hi => Nat.le_trans (cnt_open _ _ _ _ _ i hi) (by omega)) hxs)
            have hO : openS S = (x, S', 0, G, recs) := by
              unfold openS
              rw [if_neg (by rw [ho]; decide), HB.out]
              show (_, _, _, _, _) = _
              have e : seqS (openL 0 (S.at 0).at.length (S.at (1 - 0)).at.length good) S = (x, S') := by
                rw [← hxs, ← HL.out.1, ← HL.out.2]
                first | rfl | done
              rw [e]
            obtain rfl : P = (x, S', 0, G, recs) := by rw [← HPP.out]; exact hO
            have HJ10 := Lib.hid J10
            have HD10 := Lib.hid D10
            have B10 := Lib.hid (Below.both b9 b10)
            have Z10 := Lib.hid (show wr.heap.size ≤ w9.heap.size ∧ w10.heap.size = w9.heap.size + 1 ∧ w.heap.size ≤ wr.heap.size ∧ K ≤ wr.heap.size from ⟨s9, z10, sJ, sK⟩)
            unfold fnV at hw10
            dsimp only at hw10
            clear b9 ro9 rp9 hbo hbp b10 z10 R10 J10 D10 s9 sJ sK hbo9 hbp9 hxs hO HPP x9 x1 x50 x51 x100 x101 x102
            go_wp2_with fail
            rw [← hw10]
            clear hw10
            refine (ST.out).mono ?_
            rintro e w11 ⟨rfl, d11, k11⟩
            have D11 := Lib.hid d11
            have K11 := Lib.hid k11
            have kc : ∀ b k v, w.heap.size ≤ b → b < w10.heap.size → w10.cell? ⟨b, k, none⟩ = some v → w11.cell? ⟨b, k, none⟩ = some v := fun b k v h1 h2 h3 => (K11.out.cell (a := ⟨b, k, none⟩) (Or.inr ⟨h1, h2⟩) h2).trans h3
            have q1 := kc _ _ _ (Nat.le_refl _) (HJ10.out.r1.lt) (HJ10.out.r1.cell (k := 0) rfl)
            have q9 := kc _ _ _ (by omega) (HJ10.out.r9.lt) (HJ10.out.r9.cell (k := 0) rfl)
            have q10 := kc _ _ _ (by omega) (HJ10.out.r10.lt) (HJ10.out.r10.cell (k := 0) rfl)
            have q11 := kc _ _ _ (by omega) (HJ10.out.r10.lt) (HJ10.out.r10.cell (k := 1) rfl)
            clear d11 k11 kc
            by_cases hx : x = 0
            · subst hx
              have ow := HOW.out.1
              obtain ⟨vA, vc, rfl, hvc⟩ := ow.shape
              obtain ⟨rl, hrl⟩ : ∃ rl, recs.length = rl := ⟨_, rfl⟩
              rw [hrl] at q11
              have Q11 : Hid (∀ w', Below w11.heap.size w11 w' → w'.cell? ⟨w.heap.size, 0, none⟩ = some (.pointer (some ⟨d, 0, none⟩)) ∧ w'.cell? ⟨P9, 0, none⟩ = some (.int .i64 ((0 : Nat) : Int)) ∧ w'.cell? ⟨P9 + 1, 0, none⟩ = some (.int .u64 (G : Nat)) ∧ w'.cell? ⟨P9 + 1, 1, none⟩ = some (.slice vA rl vc)) := Lib.hid fun w' b =>
                ⟨(b.cell (p := ⟨w.heap.size, 0, none⟩) (World.block_lt_of_cell? _ _ q1)).trans q1, (b.cell (p := ⟨P9, 0, none⟩) (World.block_lt_of_cell? _ _ q9)).trans q9, (b.cell (p := ⟨P9 + 1, 0, none⟩) (World.block_lt_of_cell? _ _ q10)).trans q10, (b.cell (p := ⟨P9 + 1, 1, none⟩) (World.block_lt_of_cell? _ _ q11)).trans q11⟩
              obtain ⟨w12, hw12⟩ : ∃ w12, w12 = (w11.alloc (.cells (vtV d 0 G rl false).toArray 90)).drew := ⟨_, rfl⟩
              have Q9 : Hid (OpenQ w0 d X w 0 S' 0 G recs (.returned (.tuple #[.pointer (some ⟨w11.heap.size, 0, none⟩), .slice vA rl vc, .int .i64 0])) w12) := Lib.hid (by
                have ba : Below w11.heap.size w11 w12 := by rw [hw12]; exact ((Below.refl _ _).alloc (Nat.le_refl _) _).drew
                have z12 : w12.heap.size = w11.heap.size + 1 := by rw [hw12]; simp
                have V12 : Ro w12 w11.heap.size 90 (vtV d 0 G rl false) := by rw [hw12]; exact (Ro.new w11 _ _).later (Below.refl _ _).drew
                have s10 := Z10.out
                have s11 := K11.out.size
                have hY : ∀ b, (K ≤ b ∧ b < wr.heap.size) → w.heap.size ≤ b ∧ b < w10.heap.size := fun b h => by
                  have := HKK.out
                  omega
                have rw_ := Rows.weak (Q := fun b => K ≤ b ∧ b < wr.heap.size) byM (OwnRw.reads byM ow) fun b hb hl => by
                  rcases hb with hb | hb
                  · exact ⟨hb, hl⟩
                  · refine ⟨?_, hl⟩
                    cases vA with
                    | none => cases hb
                    | some a =>
                      injection hb with hb
                      subst hb
                      exact HOW.out.2 _ rfl
                have r10 := Rows.later byM rw_ B10.out
                have r11 := r10.keep byM (K11.out.narrow fun b hb => .inr (hY b hb))
                have r12 := Rows.later byM r11 ba
                refine .inr ⟨rfl, w11.heap.size, _, fun b => K ≤ b ∧ b < wr.heap.size, rfl, by omega, by rw [hrl]; exact V12, ⟨vA, vc, by rw [hrl], by rw [hrl] at hvc ⊢; exact hvc, r12⟩, fun b hb => ?_, ?_, ((Kept.of_below HJ10.out.bel).trans' (K11.out.narrow fun b hb => .inl hb)).trans' (Kept.of_below ba)⟩
                · have := hY b hb
                  omega
                · refine D11.out.wide (Kept.of_below ba) (D11.out.bel.trans (ba.mono D11.out.bel.size)) fun b q => ?_
                  rcases q with q | q | q
                  · exact .inl (.inl q)
                  · exact .inr ⟨by omega, by omega⟩
                  · exact .inl (.inr (hY b q)))
              unfold vtV at hw12
              rw [show ((0 : Nat) : Int) = 0 from rfl] at hw12
              clear q1 q9 q10 q11 ow
              go_wp2_with fail
              go_region_held3 (fun w' => w'.cell? ⟨w.heap.size, 0, none⟩ = some (.pointer (some ⟨d, 0, none⟩)) ∧ w'.cell? ⟨P9, 0, none⟩ = some (.int .i64 ((0 : Nat) : Int)) ∧ w'.cell? ⟨P9 + 1, 0, none⟩ = some (.int .u64 (G : Nat)) ∧ w'.cell? ⟨P9 + 1, 1, none⟩ = some (.slice vA rl vc))
                (first | exact Q11.out _ (by repeat (first | exact Below.refl _ _ | (refine Below.drew ?_) | (refine Below.alloc ?_ (by simp <;> omega) _) | (refine Below.setCell ?_ (by simp <;> omega) _))))
                (first | fail)
              all_goals rw [← hw12]
              all_goals clear hw12
              all_goals go_wp2_with fail
              all_goals go_returns
              all_goals exact Q9.out
            · have t1 : (x != 0) = true := by rw [bne_iff_ne]; exact hx
              have Q9 : Hid (OpenQ w0 d X w x S' 0 G recs (.returned (.tuple #[.pointer none, .slice none 0 0, .int .i64 x])) w11) := Lib.hid (.inl ⟨hx, rfl, D11.out.narrow fun b hb => .inl hb, (Kept.of_below HJ10.out.bel).trans' (K11.out.narrow fun b hb => .inl hb)⟩)
              go_wp2_with fail
              go_returns
              exact Q9.out)
        · have Q0 : Hid (∀ w', Below wr.heap.size wr w' → w'.cell? ⟨P9, 0, none⟩ = some (.int .i64 ((1 : Nat) : Int)) ∧ w'.cell? ⟨w.heap.size + 1, 0, none⟩ = some (.slice A0 n0 k0) ∧ w'.cell? ⟨w.heap.size + 1, 1, none⟩ = some (.slice A1 n1 k1)) := Lib.hid fun w' b =>
            ⟨(b.cell (p := ⟨P9, 0, none⟩) (World.block_lt_of_cell? _ _ x9)).trans x9, (b.cell (p := ⟨w.heap.size + 1, 0, none⟩) (World.block_lt_of_cell? _ _ x50)).trans x50, (b.cell (p := ⟨w.heap.size + 1, 1, none⟩) (World.block_lt_of_cell? _ _ x51)).trans x51⟩
          go_wp2_with fail
          have hz2 : IntKind.i64.wrap (1 : Int) = 1 := by decide
          have hz3 : IntKind.i64.wrap (0 : Int) = 0 := by decide
          go_region_held3 (fun w' => w'.cell? ⟨P9, 0, none⟩ = some (.int .i64 ((1 : Nat) : Int)) ∧ w'.cell? ⟨w.heap.size + 1, 0, none⟩ = some (.slice A0 n0 k0) ∧ w'.cell? ⟨w.heap.size + 1, 1, none⟩ = some (.slice A1 n1 k1))
            (first | exact Q0.out _ (by repeat (first | exact Below.refl _ _ | (refine Below.drew ?_) | (refine Below.alloc ?_ (by simp <;> omega) _) | (refine Below.setCell ?_ (by simp <;> omega) _))))
            (first | fail)
          all_goals (
            first
              | (obtain ⟨w9, h1⟩ : ∃ w9, w9 = ((wr.alloc (.cells #[.slice A1 n1 k1] 40)).alloc (.cells #[.slice A0 n0 k0] 40)).drew := ⟨_, rfl⟩
                 obtain ⟨bo, h2⟩ : ∃ bo, bo = wr.heap.size := ⟨_, rfl⟩
                 obtain ⟨bp, h3⟩ : ∃ bp, bp = wr.heap.size + 1 := ⟨_, rfl⟩
                 rw [← h1, ← h3, ← h2]
                 have F9 : Below wr.heap.size wr w9 ∧ Ro w9 bo 40 [.slice A1 n1 k1] ∧ Ro w9 bp 40 [.slice A0 n0 k0] ∧ wr.heap.size ≤ bo ∧ wr.heap.size ≤ bp := by
                   rw [h1, h2, h3]
                   refine ⟨(((Below.refl _ _).alloc (Nat.le_refl _) _).alloc (by simp) _).drew, (((Ro.new wr 40 [.slice A1 n1 k1]).alloc _).later (Below.refl _ _).drew), ?_, Nat.le_refl _, by omega⟩
                   have := (Ro.new (wr.alloc (.cells #[.slice A1 n1 k1] 40)) 40 [.slice A0 n0 k0]).later (Below.refl _ _).drew
                   rwa [World.size_alloc] at this
                 clear h1 h2 h3)
              | (obtain ⟨w9, h1⟩ : ∃ w9, w9 = ((wr.alloc (.cells #[.slice A0 n0 k0] 40)).alloc (.cells #[.slice A1 n1 k1] 40)).drew := ⟨_, rfl⟩
                 obtain ⟨bp, h2⟩ : ∃ bo, bo = wr.heap.size := ⟨_, rfl⟩
                 obtain ⟨bo, h3⟩ : ∃ bp, bp = wr.heap.size + 1 := ⟨_, rfl⟩
                 rw [← h1, ← h3, ← h2]
                 have F9 : Below wr.heap.size wr w9 ∧ Ro w9 bo 40 [.slice A1 n1 k1] ∧ Ro w9 bp 40 [.slice A0 n0 k0] ∧ wr.heap.size ≤ bo ∧ wr.heap.size ≤ bp := by
                   rw [h1, h2, h3]
                   refine ⟨(((Below.refl _ _).alloc (Nat.le_refl _) _).alloc (by simp) _).drew, ?_, (((Ro.new wr 40 [.slice A0 n0 k0]).alloc _).later (Below.refl _ _).drew), by omega, Nat.le_refl _⟩
                   have := (Ro.new (wr.alloc (.cells #[.slice A0 n0 k0] 40)) 40 [.slice A1 n1 k1]).later (Below.refl _ _).drew
                   rwa [World.size_alloc] at this
                 clear h1 h2 h3)
            obtain ⟨b9, ro9, rp9, hbo, hbp⟩ := F9
            obtain ⟨w10, hw10⟩ : ∃ w10, w10 = w9.alloc (.cells #[fnV (32, #[.pointer (some ⟨w.heap.size, 0, none⟩), .pointer (some ⟨P9, 0, none⟩), .pointer (some ⟨bo, 0, none⟩), .pointer (some ⟨P9 + 1, 0, none⟩)]), fnV (34, #[.pointer (some ⟨w.heap.size, 0, none⟩), .pointer (some ⟨P9, 0, none⟩)]), fnV (36, #[.pointer (some ⟨w.heap.size, 0, none⟩), .pointer (some ⟨P9, 0, none⟩), .pointer (some ⟨bp, 0, none⟩)])] 54) := ⟨_, rfl⟩
            have b10 : Below w9.heap.size w9 w10 := by rw [hw10]; exact (Below.refl _ _).alloc (Nat.le_refl _) _
            have z10 : w10.heap.size = w9.heap.size + 1 := by rw [hw10]; simp
            have R10 : Ro w10 w9.heap.size 54 [fnV (32, #[.pointer (some ⟨w.heap.size, 0, none⟩), .pointer (some ⟨P9, 0, none⟩), .pointer (some ⟨bo, 0, none⟩), .pointer (some ⟨P9 + 1, 0, none⟩)]), fnV (34, #[.pointer (some ⟨w.heap.size, 0, none⟩), .pointer (some ⟨P9, 0, none⟩)]), fnV (36, #[.pointer (some ⟨w.heap.size, 0, none⟩), .pointer (some ⟨P9, 0, none⟩), .pointer (some ⟨bp, 0, none⟩)])] := by rw [hw10]; exact Ro.new w9 _ _
            have J10 := HJ.out.later (Below.both b9 b10)
            have D10 : Dp w0 d (fun b => X b ∨ (w.heap.size ≤ b ∧ b < w10.heap.size)) S w10 := HD.out.wide (Kept.of_below J10.bel) (HD.out.bel.trans (J10.bel.mono HD.out.bel.size)) fun b q => q
            have s9 := b9.size
            have sJ := HJ.out.bel.size
            have sK := HJ.out.size
            obtain ⟨x, S', hxs⟩ : ∃ x S', seqS (openL 1 n1 n0 good) S = (x, S') := ⟨_, _, rfl⟩
            have hbo9 := ro9.lt
            have hbp9 := rp9.lt
            have ST := Lib.hid (open_steps D10 (f := 1) (bd := w.heap.size) (bx := P9) (bo := bo) (bp := bp) (bc := P9 + 1) (bl := w9.heap.size) (by decide) (.inr ⟨Nat.le_refl _, by omega⟩) (.inr ⟨by omega, by omega⟩) (.inr ⟨by omega, by omega⟩) (.inr ⟨by omega, by omega⟩) (.inr ⟨by omega, by omega⟩) (.inr ⟨by omega, by omega⟩)
              (J10.r1.cell rfl) (J10.r9.cell rfl) ((ro9.later b10).cell rfl) ((rp9.later b10).cell rfl) (J10.r10.cell rfl) (J10.r10.cell rfl)
              (fun i hi => by
                have e : i = 0 ∨ i = 1 ∨ i = 2 := by omega
                rcases e with rfl | rfl | rfl <;> exact R10.cell rfl) (fun i hi => Nat.le_trans (cnt_open _ _ _ _ _ i hi) (by omega)) hxs)
            have hO : openS S = (x, S', 1, G, recs) := by
              unfold openS
              rw [if_neg (by rw [ho]; decide), HB.out]
              show (_, _, _, _, _) = _
              have e : seqS (openL 1 (S.at 1).at.length (S.at (1 - 1)).at.length good) S = (x, S') := by
                rw [← hxs, ← HL.out.1, ← HL.out.2]
                first | rfl | done
              rw [e]
            obtain rfl : P = (x, S', 1, G, recs) := by rw [← HPP.out]; exact hO
            have HJ10 := Lib.hid J10
            have HD10 := Lib.hid D10
            have B10 := Lib.hid (Below.both b9 b10)
            have Z10 := Lib.hid (show wr.heap.size ≤ w9.heap.size ∧ w10.heap.size = w9.heap.size + 1 ∧ w.heap.size ≤ wr.heap.size ∧ K ≤ wr.heap.size from ⟨s9, z10, sJ, sK⟩)
            unfold fnV at hw10
            dsimp only at hw10
            clear b9 ro9 rp9 hbo hbp b10 z10 R10 J10 D10 s9 sJ sK hbo9 hbp9 hxs hO HPP x9 x1 x50 x51 x100 x101 x102
            go_wp2_with fail
            rw [← hw10]
            clear hw10
            refine (ST.out).mono ?_
            rintro e w11 ⟨rfl, d11, k11⟩
            have D11 := Lib.hid d11
            have K11 := Lib.hid k11
            have kc : ∀ b k v, w.heap.size ≤ b → b < w10.heap.size → w10.cell? ⟨b, k, none⟩ = some v → w11.cell? ⟨b, k, none⟩ = some v := fun b k v h1 h2 h3 => (K11.out.cell (a := ⟨b, k, none⟩) (Or.inr ⟨h1, h2⟩) h2).trans h3
            have q1 := kc _ _ _ (Nat.le_refl _) (HJ10.out.r1.lt) (HJ10.out.r1.cell (k := 0) rfl)
            have q9 := kc _ _ _ (by omega) (HJ10.out.r9.lt) (HJ10.out.r9.cell (k := 0) rfl)
            have q10 := kc _ _ _ (by omega) (HJ10.out.r10.lt) (HJ10.out.r10.cell (k := 0) rfl)
            have q11 := kc _ _ _ (by omega) (HJ10.out.r10.lt) (HJ10.out.r10.cell (k := 1) rfl)
            clear d11 k11 kc
            by_cases hx : x = 0
            · subst hx
              have ow := HOW.out.1
              obtain ⟨vA, vc, rfl, hvc⟩ := ow.shape
              obtain ⟨rl, hrl⟩ : ∃ rl, recs.length = rl := ⟨_, rfl⟩
              rw [hrl] at q11
              have Q11 : Hid (∀ w', Below w11.heap.size w11 w' → w'.cell? ⟨w.heap.size, 0, none⟩ = some (.pointer (some ⟨d, 0, none⟩)) ∧ w'.cell? ⟨P9, 0, none⟩ = some (.int .i64 ((1 : Nat) : Int)) ∧ w'.cell? ⟨P9 + 1, 0, none⟩ = some (.int .u64 (G : Nat)) ∧ w'.cell? ⟨P9 + 1, 1, none⟩ = some (.slice vA rl vc)) := Lib.hid fun w' b =>
                ⟨(b.cell (p := ⟨w.heap.size, 0, none⟩) (World.block_lt_of_cell? _ _ q1)).trans q1, (b.cell (p := ⟨P9, 0, none⟩) (World.block_lt_of_cell? _ _ q9)).trans q9, (b.cell (p := ⟨P9 + 1, 0, none⟩) (World.block_lt_of_cell? _ _ q10)).trans q10, (b.cell (p := ⟨P9 + 1, 1, none⟩) (World.block_lt_of_cell? _ _ q11)).trans q11⟩
              obtain ⟨w12, hw12⟩ : ∃ w12, w12 = (w11.alloc (.cells (vtV d 1 G rl false).toArray 90)).drew := ⟨_, rfl⟩
              have Q9 : Hid (OpenQ w0 d X w 0 S' 1 G recs (.returned (.tuple #[.pointer (some ⟨w11.heap.size, 0, none⟩), .slice vA rl vc, .int .i64 0])) w12) := Lib.hid (by
                have ba : Below w11.heap.size w11 w12 := by rw [hw12]; exact ((Below.refl _ _).alloc (Nat.le_refl _) _).drew
                have z12 : w12.heap.size = w11.heap.size + 1 := by rw [hw12]; simp
                have V12 : Ro w12 w11.heap.size 90 (vtV d 1 G rl false) := by rw [hw12]; exact (Ro.new w11 _ _).later (Below.refl _ _).drew
                have s10 := Z10.out
                have s11 := K11.out.size
                have hY : ∀ b, (K ≤ b ∧ b < wr.heap.size) → w.heap.size ≤ b ∧ b < w10.heap.size := fun b h => by
                  have := HKK.out
                  omega
                have rw_ := Rows.weak (Q := fun b => K ≤ b ∧ b < wr.heap.size) byM (OwnRw.reads byM ow) fun b hb hl => by
                  rcases hb with hb | hb
                  · exact ⟨hb, hl⟩
                  · refine ⟨?_, hl⟩
                    cases vA with
                    | none => cases hb
                    | some a =>
                      injection hb with hb
                      subst hb
                      exact HOW.out.2 _ rfl
                have r10 := Rows.later byM rw_ B10.out
                have r11 := r10.keep byM (K11.out.narrow fun b hb => .inr (hY b hb))
                have r12 := Rows.later byM r11 ba
                refine .inr ⟨rfl, w11.heap.size, _, fun b => K ≤ b ∧ b < wr.heap.size, rfl, by omega, by rw [hrl]; exact V12, ⟨vA, vc, by rw [hrl], by rw [hrl] at hvc ⊢; exact hvc, r12⟩, fun b hb => ?_, ?_, ((Kept.of_below HJ10.out.bel).trans' (K11.out.narrow fun b hb => .inl hb)).trans' (Kept.of_below ba)⟩
                · have := hY b hb
                  omega
                · refine D11.out.wide (Kept.of_below ba) (D11.out.bel.trans (ba.mono D11.out.bel.size)) fun b q => ?_
                  rcases q with q | q | q
                  · exact .inl (.inl q)
                  · exact .inr ⟨by omega, by omega⟩
                  · exact .inl (.inr (hY b q)))
              unfold vtV at hw12
              rw [show ((1 : Nat) : Int) = 1 from rfl] at hw12
              clear q1 q9 q10 q11 ow
              go_wp2_with fail
              go_region_held3 (fun w' => w'.cell? ⟨w.heap.size, 0, none⟩ = some (.pointer (some ⟨d, 0, none⟩)) ∧ w'.cell? ⟨P9, 0, none⟩ = some (.int .i64 ((1 : Nat) : Int)) ∧ w'.cell? ⟨P9 + 1, 0, none⟩ = some (.int .u64 (G : Nat)) ∧ w'.cell? ⟨P9 + 1, 1, none⟩ = some (.slice vA rl vc))
                (first | exact Q11.out _ (by repeat (first | exact Below.refl _ _ | (refine Below.drew ?_) | (refine Below.alloc ?_ (by simp <;> omega) _) | (refine Below.setCell ?_ (by simp <;> omega) _))))
                (first | fail)
              all_goals rw [← hw12]
              all_goals clear hw12
              all_goals go_wp2_with fail
              all_goals go_returns
              all_goals exact Q9.out
            · have t1 : (x != 0) = true := by rw [bne_iff_ne]; exact hx
              have Q9 : Hid (OpenQ w0 d X w x S' 1 G recs (.returned (.tuple #[.pointer none, .slice none 0 0, .int .i64 x])) w11) := Lib.hid (.inl ⟨hx, rfl, D11.out.narrow fun b hb => .inl hb, (Kept.of_below HJ10.out.bel).trans' (K11.out.narrow fun b hb => .inl hb)⟩)
              go_wp2_with fail
              go_returns
              exact Q9.out)
/-- Open, of whatever disk. -/
theorem open_any {w0 w : World} {d : Nat} {X : Nat → Prop} {S : Dk} (hLd : Laid w0) (D : Dp w0 d X S w) (hX : ∀ b, X b → b < w.heap.size) (hcnt : S.cnt ≤ 1000000000) :
    Calls Tryz.prog 11 #[.pointer (some ⟨d, 0, none⟩)] w (OpenQ w0 d X w (openS S).1 (openS S).2.1 (openS S).2.2.1 (openS S).2.2.2.1 (openS S).2.2.2.2) := by
  by_cases ho : S.off = true
  · have e : openS S = (8, S, 0, 0, []) := by unfold openS; rw [if_pos ho]
    rw [e]
    exact open_off D hcnt ho
  · exact open_on hLd D hX hcnt (by simpa using ho)
end Go.Proofs.YtjcphpmlekfhdaaGreatDoor
