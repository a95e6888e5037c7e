/- The compression of a piece, as the code does it. No condition but that the tables hold what the text lays. -/
import Derived.Test.YtimjmmiajgfblaaGreatDoorGab
import Derived.Deep.QuietTactic
import Derived.BigQuiet
import Derived.WalkSmall

namespace Go.Proofs.YtimjmmiajgfblaaGreatDoor
open Go.RowKit

/-- The two tables hold what the program's text lays. -/
structure Laid (w : World) : Prop where
  start : ∃ T fr, w.heap[2]? = some (.cells (u32s h0).toArray T fr)
  roots : ∃ T fr, w.heap[3]? = some (.cells (u32s kTab).toArray T fr)
theorem Laid.lt {w : World} (h : Laid w) : 4 ≤ w.heap.size := by
  obtain ⟨T, fr, h1⟩ := h.roots
  exact (Array.getElem?_eq_some_iff.1 h1).1
theorem Laid.later {w w1 : World} {B : Nat} (h : Laid w) (hB : 4 ≤ B) (g : Below B w w1) : Laid w1 := by
  obtain ⟨T, fr, h1⟩ := h.start
  obtain ⟨T', fr', h2⟩ := h.roots
  exact ⟨⟨T, fr, (g.block 2 (by omega)).trans h1⟩, ⟨T', fr', (g.block 3 (by omega)).trans h2⟩⟩
theorem Laid.root {w : World} (h : Laid w) {k : Nat} (hk : k < 64) : w.cell? ⟨3, k, none⟩ = some (.int .u32 (nth kTab k : Nat)) := by
  obtain ⟨T, fr, h1⟩ := h.roots
  have := u32s_get kTab k hk
  unfold World.cell?
  simp only [h1]
  simpa using this

structure MxA (w : World) (h p : List Nat) (wr : World) : Prop where
  a : Ro wr w.heap.size 125 (u32s h)
  b : Ro wr (w.heap.size + 1) 126 (vals p)
  r : Ro wr (w.heap.size + 2) 125 (u32s (List.replicate 8 0))
  bel : Below w.heap.size w wr
theorem MxA.later {w : World} {h p : List Nat} {wr w1 : World} (m : MxA w h p wr) (g : Below wr.heap.size wr w1) : MxA w h p w1 := ⟨m.a.later g, m.b.later g, m.r.later g, m.bel.trans (g.mono m.bel.size)⟩
theorem MxA.start (w : World) (h p : List Nat) : MxA w h p (((w.alloc (.cells (u32s h).toArray 125)).alloc (.cells (vals p).toArray 126)).alloc (.cells (u32s (List.replicate 8 0)).toArray 125)) := by
  refine ⟨((Ro.new w _ _).alloc _).alloc _, ?_, ?_, (((Below.refl _ _).alloc (Nat.le_refl _) _).alloc (by simp) _).alloc (by simp; omega) _⟩
  · have := (Ro.new (w.alloc (.cells (u32s h).toArray 125)) 126 (vals p)).alloc (.cells (u32s (List.replicate 8 0)).toArray 125)
    rwa [World.size_alloc] at this
  · have := Ro.new ((w.alloc (.cells (u32s h).toArray 125)).alloc (.cells (vals p).toArray 126)) 125 (u32s (List.replicate 8 0))
    rw [World.size_alloc, World.size_alloc] at this
    exact this

theorem not_lit : (if IntKind.u32.signed = true then (-1 : Int) else IntKind.u32.max) = ((4294967295 : Nat) : Int) := rfl
def oneS (e f g h k x : Nat) : Nat := ad (ad (ad (ad h (bs1 e)) (xo (an e f) (an (no e) g))) k) x
def twoS (a b c : Nat) : Nat := ad (bs0 a) (xo (xo (an a b) (an a c)) (an b c))
theorem one_eq (e f g h k x : Nat) : ((h : Int) + bits .xor .u32 (bits .xor .u32 ((rr e 6 : Nat) : Int) ((rr e 11 : Nat) : Int)) ((rr e 25 : Nat) : Int) + bits .xor .u32 (bits .and .u32 (e : Int) (f : Int)) (bits .and .u32 (bits .xor .u32 (if IntKind.u32.signed = true then (-1 : Int) else IntKind.u32.max) (e : Int)) (g : Int)) + (k : Int) + (x : Int)) % 4294967296 = ((oneS e f g h k x : Nat) : Int) := by
  rw [not_lit]
  simp only [bits_xo, bits_an]
  unfold oneS ad bs1 no
  omega
theorem two_eq (a b c : Nat) : (bits .xor .u32 (bits .xor .u32 ((rr a 2 : Nat) : Int) ((rr a 13 : Nat) : Int)) ((rr a 22 : Nat) : Int) + bits .xor .u32 (bits .xor .u32 (bits .and .u32 (a : Int) (b : Int)) (bits .and .u32 (a : Int) (c : Int))) (bits .and .u32 (b : Int) (c : Int))) % 4294967296 = ((twoS a b c : Nat) : Int) := by
  simp only [bits_xo, bits_an]
  unfold twoS ad bs0
  omega
theorem ad_eq (a b : Nat) : ((a : Int) + (b : Int)) % 4294967296 = ((ad a b : Nat) : Int) := by unfold ad; omega
theorem rnd_eq (k x a b c d e f g h : Nat) : rnd k x ⟨a, b, c, d, e, f, g, h⟩ = ⟨ad (oneS e f g h k x) (twoS a b c), a, b, c, ad d (oneS e f g h k x), e, f, g⟩ := rfl
structure MxB (w : World) (h p W : List Nat) (g : Nat) (wr : World) : Prop where
  m : MxA w h p wr
  w : Ro wr g 140 (u32s W)
  l : Laid wr
theorem MxB.later {w : World} {h p W : List Nat} {g : Nat} {wr w1 : World} (m : MxB w h p W g wr) (b : Below wr.heap.size wr w1) : MxB w h p W g w1 := ⟨m.m.later b, m.w.later b, m.l.later m.l.lt b⟩
theorem MxA.grown {w : World} {h p : List Nat} {wr w1 : World} {g : Nat} (m : MxA w h p wr) (hg : w.heap.size + 3 ≤ g) (b : wr.grownBy w1 (some g)) : MxA w h p w1 :=
  ⟨m.a.far b (fun e => by injection e; omega), m.b.far b (fun e => by injection e; omega), m.r.far b (fun e => by injection e; omega), m.bel.grown b m.bel.size (fun q e => by injection e; omega)⟩

set_option maxRecDepth 100000 in
set_option maxHeartbeats 4000000 in
theorem mix_any {h p : List Nat} (hh : h.length = 8) (hp : p.length = 64) (hb : AllB p) (w : World) (hL : Laid w) : Calls Tryz.prog 112 #[.agg (u32s h).toArray, .agg (vals p).toArray] w fun e w' => e = .returned (.agg (u32s (comp h p)).toArray) ∧ Below w.heap.size w w' := by
  have HH := Lib.hid hh
  have HP := Lib.hid hp
  have HB := Lib.hid hb
  have HL := Lib.hid hL
  clear hp hb hh hL
  go_enter Tryz.func112, Tryz.ntmps112
  go_wp2_with (refine wpList_load_ro rfl (.tmp 3) rfl rfl row35 (MxA.start w h p).b (by rw [vals_length, HP.out]) ?_)
  obtain ⟨W1, hW1⟩ : ∃ W1, W1 = ((w.alloc (.cells (u32s h).toArray 125)).alloc (.cells (vals p).toArray 126)).alloc (.cells (u32s (List.replicate 8 0)).toArray 125) := ⟨_, rfl⟩
  have M1 : Hid (MxA w h p W1) := Lib.hid (by rw [hW1]; exact MxA.start w h p)
  refine (spread_any HP.out HB.out _).mono ?_
  rintro e w2 ⟨rfl, hb2⟩
  have hb2 : Below W1.heap.size W1 w2 := by rw [hW1]; exact hb2
  have M2 := Lib.hid (M1.out.later hb2)
  clear hW1 hb2 M1
  have SR := Ro.new w2 140 (u32s (List.replicate 64 0))
  have SM := Lib.hid (M2.out.later ((Below.refl _ _).alloc (Nat.le_refl _) (.cells (u32s (List.replicate 64 0)).toArray 140)))
  have SZ : w.heap.size + 3 ≤ w2.heap.size := by have := M2.out.r.lt; omega
  go_wp2_with (refine wpList_store_ro rfl (.tmp 5) (.tmp 20) rfl rfl rfl row54 SR (by simp [u32s]) (by rw [u32s_len, sched_len]) (u32s_one _) ?_)
  intro w3 R3 g3
  have N3 : Hid (MxB w h p (sched p 64) w2.heap.size w3) := Lib.hid ⟨SM.out.grown SZ g3, R3, (HL.out.later HL.out.lt M2.out.bel).later (B := 4) (by omega) (by
    have hz := (HL.out.later HL.out.lt M2.out.bel).lt
    have := ((Below.refl w2.heap.size w2).alloc (Nat.le_refl _) (.cells (u32s (List.replicate 64 0)).toArray 140)).grown g3 (by simp) (fun q e => by injection e; omega)
    exact this.mono hz)⟩
  clear R3 g3 SM SR M2
  have c0 := N3.out.m.a.u32 (k := 0) (by rw [HH.out]; omega)
  have c1 := N3.out.m.a.u32 (k := 1) (by rw [HH.out]; omega)
  have c2 := N3.out.m.a.u32 (k := 2) (by rw [HH.out]; omega)
  have c3 := N3.out.m.a.u32 (k := 3) (by rw [HH.out]; omega)
  have c4 := N3.out.m.a.u32 (k := 4) (by rw [HH.out]; omega)
  have c5 := N3.out.m.a.u32 (k := 5) (by rw [HH.out]; omega)
  have c6 := N3.out.m.a.u32 (k := 6) (by rw [HH.out]; omega)
  have c7 := N3.out.m.a.u32 (k := 7) (by rw [HH.out]; omega)
  go_wp2_with fail
  go_region
  go_wp2_with fail
  go_region
  go_wp2_with fail
  have N4 := Lib.hid ((N3.out.later (Below.refl _ _).drew).later (Below.refl _ _).drew)
  clear c0 c1 c2 c3 c4 c5 c6 c7 N3
  go_loopw [6, 7, 8, 9, 10, 11, 12, 13, 37] (fun va vb vc vd ve vf vg vh i wr => ∃ (t : Nat) (s : S8), t ≤ 64 ∧ i = .int .i64 (t : Nat) ∧ s = rnds (sched p 64) (s8 h) t ∧ va = .int .u32 (s.a : Nat) ∧ vb = .int .u32 (s.b : Nat) ∧ vc = .int .u32 (s.c : Nat) ∧ vd = .int .u32 (s.d : Nat) ∧ ve = .int .u32 (s.e : Nat) ∧ vf = .int .u32 (s.f : Nat) ∧ vg = .int .u32 (s.g : Nat) ∧ vh = .int .u32 (s.h : Nat) ∧ MxB w h p (sched p 64) w2.heap.size wr) (fun _ _ _ _ _ _ _ _ i _ => 64 - (intOf i).toNat)
  case atStart => exact ⟨0, s8 h, by omega, rfl, rfl, rfl, rfl, rfl, rfl, rfl, rfl, rfl, rfl, N4.out⟩
  case round =>
    obtain ⟨t, ⟨a, b, c, d, e, f, g, hh⟩, ht, rfl, hs, rfl, rfl, rfl, rfl, rfl, rfl, rfl, rfl, N⟩ := hrel
    have HS := Lib.hid hs
    have HN := Lib.hid N
    clear hs N
    simp only []
    by_cases hlt : t < 64
    · have t1 : decide ((t : Int) < 64) = true := decide_eq_true (by omega)
      have k1 := HN.out.l.root hlt
      have w1 := HN.out.w.u32 (k := t) (by rw [sched_len]; omega)
      obtain ⟨k, hk⟩ : ∃ k, nth kTab t = k := ⟨_, rfl⟩
      obtain ⟨x, hx⟩ : ∃ x, nth (sched p 64) t = x := ⟨_, rfl⟩
      rw [hk] at k1
      rw [hx] at w1
      have HK := Lib.hid hk
      have HX := Lib.hid hx
      clear hk hx
      go_wp2_with fail
      refine (rot_any _ _ 6 (by decide) (by decide) (by kernel_rfl) _).mono ?_
      rintro e' wa ⟨rfl, rfl⟩
      go_wp2_with fail
      refine (rot_any _ _ 11 (by decide) (by decide) (by kernel_rfl) _).mono ?_
      rintro e' wa ⟨rfl, rfl⟩
      go_wp2_with fail
      refine (rot_any _ _ 25 (by decide) (by decide) (by kernel_rfl) _).mono ?_
      rintro e' wa ⟨rfl, rfl⟩
      go_wp2_with fail
      refine (rot_any _ _ 2 (by decide) (by decide) (by kernel_rfl) _).mono ?_
      rintro e' wa ⟨rfl, rfl⟩
      go_wp2_with fail
      refine (rot_any _ _ 13 (by decide) (by decide) (by kernel_rfl) _).mono ?_
      rintro e' wa ⟨rfl, rfl⟩
      go_wp2_with fail
      refine (rot_any _ _ 22 (by decide) (by decide) (by kernel_rfl) _).mono ?_
      rintro e' wa ⟨rfl, rfl⟩
      go_wp2_with fail
      go_quiet (fail)
      go_wp2_with fail
      have hr : rnds (sched p 64) (s8 h) (t + 1) = ⟨ad (oneS e f g hh k x) (twoS a b c), a, b, c, ad d (oneS e f g hh k x), e, f, g⟩ := by
        rw [rnds, ← HS.out, HK.out, HX.out, rnd_eq]
      rw [one_eq e f g hh k x, two_eq a b c, ad_eq, ad_eq]
      obtain ⟨A', hA'⟩ : ∃ A', ad (oneS e f g hh k x) (twoS a b c) = A' := ⟨_, rfl⟩
      obtain ⟨E', hE'⟩ : ∃ E', ad d (oneS e f g hh k x) = E' := ⟨_, rfl⟩
      rw [hA', hE'] at hr
      rw [hA', hE']
      exact ⟨⟨t + 1, ⟨A', a, b, c, E', e, f, g⟩, by omega, by go_num, hr.symm, rfl, rfl, rfl, rfl, rfl, rfl, rfl, rfl, HN.out.later (below_drewN (Below.refl _ _) _)⟩, by simp [intOf]; omega⟩
    · obtain rfl : t = 64 := by omega
      have M := HN.out.m
      have c0 := M.a.u32 (k := 0) (by rw [HH.out]; omega)
      have c1 := M.a.u32 (k := 1) (by rw [HH.out]; omega)
      have c2 := M.a.u32 (k := 2) (by rw [HH.out]; omega)
      have c3 := M.a.u32 (k := 3) (by rw [HH.out]; omega)
      have c4 := M.a.u32 (k := 4) (by rw [HH.out]; omega)
      have c5 := M.a.u32 (k := 5) (by rw [HH.out]; omega)
      have c6 := M.a.u32 (k := 6) (by rw [HH.out]; omega)
      have c7 := M.a.u32 (k := 7) (by rw [HH.out]; omega)
      have hv : comp h p = [ad (nth h 0) a, ad (nth h 1) b, ad (nth h 2) c, ad (nth h 3) d, ad (nth h 4) e, ad (nth h 5) f, ad (nth h 6) g, ad (nth h 7) hh] := by
        unfold comp
        rw [← HS.out]
      have HV := Lib.hid hv
      have HM := Lib.hid M
      clear M hv
      go_wp2_with (refine wpList_store_ro (vs := u32s [ad (nth h 0) a, ad (nth h 1) b, ad (nth h 2) c, ad (nth h 3) d, ad (nth h 4) e, ad (nth h 5) f, ad (nth h 6) g, ad (nth h 7) hh]) rfl (.tmp 4) (.tmp 134) rfl rfl (by simp only [ad_eq]; rfl) row34 HM.out.r (by simp [u32s]) (by simp [u32s]) (u32s_one _) ?_)
      intro w4 R4 g4
      have B4 := HM.out.bel.grown g4 HM.out.bel.size (fun q e => by injection e; omega)
      go_wp2_with fail
      exact bodyPost_ret (results_ro Tryz.results112 _ rfl row34 R4 (by simp [u32s])) rfl ⟨by rw [HV.out], B4⟩
end Go.Proofs.YtimjmmiajgfblaaGreatDoor
