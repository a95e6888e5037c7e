/- The schedule of a piece, as the code builds it. No condition but that the piece is 64 bytes. -/
import Derived.Test.YtipbpecihbmneaaDoorArr
namespace Go.Proofs.YtipbpecihbmneaaDoor
open Go.RowKit

/-- The words so far, the rest noughts. -/
def upW (W : List Nat) (n : Nat) : List Nat := W ++ List.replicate (n - W.length) 0
theorem upW_len {W : List Nat} {n : Nat} (h : W.length ≤ n) : (upW W n).length = n := by simp [upW]; omega
theorem upW_get {W : List Nat} {n k : Nat} (h : k < W.length) : nth (upW W n) k = nth W k := nth_left h
theorem upW_set {W : List Nat} {n : Nat} (x : Nat) (h : W.length < n) : (upW W n).set W.length x = upW (W ++ [x]) n := by
  unfold upW
  rw [List.set_append_right _ _ (Nat.le_refl _), Nat.sub_self, List.length_append, List.length_singleton, List.append_assoc]
  congr 1
  rw [show n - W.length = (n - (W.length + 1)) + 1 by omega, List.replicate_succ]
  rfl
theorem upW_full {W : List Nat} {n : Nat} (h : W.length = n) : upW W n = W := by unfold upW; rw [h]; simp

structure SpA (w : World) (p : List Nat) (t : Nat) (wr : World) : Prop where
  src : Ro wr w.heap.size 62 (vals p)
  res : Ro wr (w.heap.size + 1) 80 (u32s (List.replicate 64 0))
  out : Ro wr (w.heap.size + 2) 80 (u32s (upW (sched p t) 64))
  bel : Below w.heap.size w wr
theorem SpA.step {w : World} {p : List Nat} {t x : Nat} {wr : World} (h : SpA w p t wr) (ht : t < 64) (hx : x = if t < 16 then word p t else wnext (sched p t) t) : SpA w p (t + 1) (wr.setCell ⟨w.heap.size + 2, t, none⟩ (.int .u32 (x : Int))) := by
  refine ⟨h.src.other (by omega) _, h.res.other (by omega) _, ?_, h.bel.setCell (by simp) _⟩
  have h1 := h.out.set32 t x
  have h2 := upW_set (W := sched p t) (n := 64) x (by rw [sched_len]; exact ht)
  rw [sched_len] at h2
  rw [h2, hx] at h1
  rw [hx]
  exact h1
theorem SpA.drew {w : World} {p : List Nat} {t : Nat} {wr : World} (h : SpA w p t wr) : SpA w p t wr.drew := ⟨h.src.later (Below.refl _ _).drew, h.res.later (Below.refl _ _).drew, h.out.later (Below.refl _ _).drew, h.bel.drew⟩

theorem word_bits {x0 x1 x2 x3 : Nat} (b0 : x0 < 256) (b1 : x1 < 256) (b2 : x2 < 256) :
    bits .or .u32 (bits .or .u32 (bits .or .u32 ((x0 : Int) * 16777216) ((x1 : Int) * 65536)) ((x2 : Int) * 256)) (x3 : Int) = ((og (og (og (sl x0 24) (sl x1 16)) (sl x2 8)) x3 : Nat) : Int) := by
  rw [show (x0 : Int) * 16777216 = ((sl x0 24 : Nat) : Int) by unfold sl; omega, show (x1 : Int) * 65536 = ((sl x1 16 : Nat) : Int) by unfold sl; omega, show (x2 : Int) * 256 = ((sl x2 8 : Nat) : Int) by unfold sl; omega, bits_og, bits_og, bits_og]
theorem next_bits (x2 x7 x15 x16 : Nat) : (bits .xor .u32 (bits .xor .u32 ((rr x2 17 : Nat) : Int) ((rr x2 19 : Nat) : Int)) ((x2 : Int) / 1024) + (x7 : Int) + bits .xor .u32 (bits .xor .u32 ((rr x15 7 : Nat) : Int) ((rr x15 18 : Nat) : Int)) ((x15 : Int) / 8) + (x16 : Int)) % 4294967296
    = ((ad (ad (ad (sg1 x2) x7) (sg0 x15)) x16 : Nat) : Int) := by
  rw [show (x2 : Int) / 1024 = ((sh x2 10 : Nat) : Int) by unfold sh; omega, show (x15 : Int) / 8 = ((sh x15 3 : Nat) : Int) by unfold sh; omega, bits_xo, bits_xo, bits_xo, bits_xo]
  unfold ad sg1 sg0
  omega
theorem SpA.get {w : World} {p : List Nat} {t k : Nat} {wr : World} (h : SpA w p t wr) (ht : t ≤ 64) (hk : k < t) : wr.cell? ⟨w.heap.size + 2, k, none⟩ = some (.int .u32 (nth (sched p t) k : Nat)) := by
  have := h.out.u32 (k := k) (by rw [upW_len (by rw [sched_len]; omega)]; omega)
  rwa [upW_get (by rw [sched_len]; omega)] at this
theorem SpA.start (w : World) (p : List Nat) : SpA w p 0 (((w.alloc (.cells (vals p).toArray 62)).alloc (.cells (u32s (List.replicate 64 0)).toArray 80)).alloc (.cells (u32s (List.replicate 64 0)).toArray 80)) := by
  refine ⟨((Ro.new w _ _).alloc _).alloc _, ?_, ?_, (((Below.refl _ _).alloc (Nat.le_refl _) _).alloc (by simp) _).alloc (by simp; omega) _⟩
  · have := (Ro.new (w.alloc (.cells (vals p).toArray 62)) 80 (u32s (List.replicate 64 0))).alloc (.cells (u32s (List.replicate 64 0)).toArray 80)
    rwa [World.size_alloc] at this
  · have := Ro.new ((w.alloc (.cells (vals p).toArray 62)).alloc (.cells (u32s (List.replicate 64 0)).toArray 80)) 80 (u32s (List.replicate 64 0))
    rw [World.size_alloc, World.size_alloc] at this
    exact this

set_option maxRecDepth 100000 in
set_option maxHeartbeats 4000000 in
theorem spread_any {p : List Nat} (hp : p.length = 64) (hb : AllB p) (w : World) : Calls Tryd.prog 44 #[.agg (vals p).toArray] w fun e w' => e = .returned (.agg (u32s (sched p 64)).toArray) ∧ Below w.heap.size w w' := by
  have HP := Lib.hid hp
  have HB := Lib.hid hb
  clear hp hb
  go_enter Tryd.func44, Tryd.ntmps44
  go_wp2_with fail
  go_loopw [10] (fun i wr => ∃ t : Nat, t ≤ 16 ∧ i = .int .i64 (t : Nat) ∧ SpA w p t wr) (fun i _ => 16 - (intOf i).toNat)
  case atStart => exact ⟨0, by omega, rfl, SpA.start w p⟩
  case round =>
    obtain ⟨t, ht, rfl, S⟩ := hrel
    by_cases hlt : t < 16
    · have t1 : decide ((t : Int) < 16) = true := decide_eq_true (by omega)
      have l0 := S.src.u8 (k := 4 * t) (by rw [HP.out]; omega)
      have l1 := S.src.u8 (k := 4 * t + 1) (by rw [HP.out]; omega)
      have l2 := S.src.u8 (k := 4 * t + 2) (by rw [HP.out]; omega)
      have l3 := S.src.u8 (k := 4 * t + 3) (by rw [HP.out]; omega)
      have b0 := nth_lt HB.out (4 * t)
      have b1 := nth_lt HB.out (4 * t + 1)
      have b2 := nth_lt HB.out (4 * t + 2)
      have b3 := nth_lt HB.out (4 * t + 3)
      obtain ⟨x0, hx0⟩ : ∃ x, nth p (4 * t) = x := ⟨_, rfl⟩
      obtain ⟨x1, hx1⟩ : ∃ x, nth p (4 * t + 1) = x := ⟨_, rfl⟩
      obtain ⟨x2, hx2⟩ : ∃ x, nth p (4 * t + 2) = x := ⟨_, rfl⟩
      obtain ⟨x3, hx3⟩ : ∃ x, nth p (4 * t + 3) = x := ⟨_, rfl⟩
      rw [hx0] at l0 b0
      rw [hx1] at l1 b1
      rw [hx2] at l2 b2
      rw [hx3] at l3 b3
      have hc := S.out.u32 (k := t) (by rw [upW_len (by rw [sched_len]; omega)]; omega)
      have hf := S.out.free t
      have hw : word p t = og (og (og (sl x0 24) (sl x1 16)) (sl x2 8)) x3 := by unfold word; rw [hx0, hx1, hx2, hx3]
      have HW := Lib.hid hw
      have HS := Lib.hid S
      clear hw hx0 hx1 hx2 hx3 S
      go_wp2_with fail
      go_region
      go_wp2_with fail
      have E := word_bits (x3 := x3) b0 b1 b2
      rw [E, ← HW.out]
      refine ⟨⟨t + 1, by omega, by go_num, (HS.out.step (by omega) (by rw [if_pos hlt])).drew⟩, by simp [intOf]; omega⟩
    · obtain rfl : t = 16 := by omega
      rw [show ((16 : Nat) : Int) = 16 from rfl]
      have HS := Lib.hid S
      clear S
      go_wp2_with fail
      go_loopw [5] (fun i wr => ∃ t : Nat, 16 ≤ t ∧ t ≤ 64 ∧ i = .int .i64 (t : Nat) ∧ SpA w p t wr) (fun i _ => 64 - (intOf i).toNat)
      case atStart => exact ⟨16, by omega, by omega, rfl, HS.out⟩
      case round =>
        obtain ⟨t, h16, ht, rfl, S⟩ := hrel
        by_cases hlt : t < 64
        · have t1 : decide ((t : Int) < 64) = true := decide_eq_true (by omega)
          have l15 := S.get ht (k := t - 15) (by omega)
          have l2 := S.get ht (k := t - 2) (by omega)
          have l7 := S.get ht (k := t - 7) (by omega)
          have l16 := S.get ht (k := t - 16) (by omega)
          have hc := S.out.u32 (k := t) (by rw [upW_len (by rw [sched_len]; omega)]; omega)
          have hf := S.out.free t
          have e15 : (t : Int) - 15 = ((t - 15 : Nat) : Int) := by omega
          have e2 : (t : Int) - 2 = ((t - 2 : Nat) : Int) := by omega
          have e7 : (t : Int) - 7 = ((t - 7 : Nat) : Int) := by omega
          have e16 : (t : Int) - 16 = ((t - 16 : Nat) : Int) := by omega
          obtain ⟨x15, hx15⟩ : ∃ x, nth (sched p t) (t - 15) = x := ⟨_, rfl⟩
          obtain ⟨x2, hx2⟩ : ∃ x, nth (sched p t) (t - 2) = x := ⟨_, rfl⟩
          obtain ⟨x7, hx7⟩ : ∃ x, nth (sched p t) (t - 7) = x := ⟨_, rfl⟩
          obtain ⟨x16, hx16⟩ : ∃ x, nth (sched p t) (t - 16) = x := ⟨_, rfl⟩
          rw [hx15] at l15
          rw [hx2] at l2
          rw [hx7] at l7
          rw [hx16] at l16
          have hw : wnext (sched p t) t = ad (ad (ad (sg1 x2) x7) (sg0 x15)) x16 := by unfold wnext; rw [hx15, hx2, hx7, hx16]
          obtain ⟨j15, hj15⟩ : ∃ j, t - 15 = j := ⟨_, rfl⟩
          obtain ⟨j2, hj2⟩ : ∃ j, t - 2 = j := ⟨_, rfl⟩
          obtain ⟨j7, hj7⟩ : ∃ j, t - 7 = j := ⟨_, rfl⟩
          obtain ⟨j16, hj16⟩ : ∃ j, t - 16 = j := ⟨_, rfl⟩
          rw [hj15] at l15 e15
          rw [hj2] at l2 e2
          rw [hj7] at l7 e7
          rw [hj16] at l16 e16
          have n15 : j15 < t := by omega
          have n2 : j2 < t := by omega
          have n7 : j7 < t := by omega
          have n16 : j16 < t := by omega
          have HW := Lib.hid hw
          have HS2 := Lib.hid S
          clear hw hx15 hx2 hx7 hx16 hj15 hj2 hj7 hj16 S
          go_wp2_with fail
          go_region
          go_wp2_with fail
          refine (rot_any _ _ 7 (by decide) (by decide) (by kernel_rfl) _).mono ?_
          rintro e wa ⟨rfl, rfl⟩
          go_wp2_with fail
          refine (rot_any _ _ 18 (by decide) (by decide) (by kernel_rfl) _).mono ?_
          rintro e wa ⟨rfl, rfl⟩
          go_wp2_with fail
          refine (rot_any _ _ 17 (by decide) (by decide) (by kernel_rfl) _).mono ?_
          rintro e wa ⟨rfl, rfl⟩
          go_wp2_with fail
          refine (rot_any _ _ 19 (by decide) (by decide) (by kernel_rfl) _).mono ?_
          rintro e wa ⟨rfl, rfl⟩
          go_wp2_with fail
          go_region
          go_wp2_with fail
          rw [next_bits x2 x7 x15 x16, ← HW.out]
          refine ⟨⟨t + 1, by omega, by omega, by go_num, ((HS2.out.drew).step hlt (by rw [if_neg (by omega)])).drew⟩, by simp [intOf]; omega⟩
        · obtain rfl : t = 64 := by omega
          have o1 := S.out
          rw [upW_full (sched_len p 64)] at o1
          have O1 := Lib.hid o1
          have HS2 := Lib.hid S
          clear o1 S
          go_wp2_with (first | (refine wpList_load_ro rfl (.tmp 3) rfl rfl row54 O1.out (by rw [u32s_len, sched_len]) ?_) | (refine wpList_store_ro rfl (.tmp 2) (.tmp 88) rfl rfl rfl row54 HS2.out.res (by simp [u32s]) (by rw [u32s_len, sched_len]) (u32s_one _) ?_; intro w' h1 h2; have H1 := Lib.hid h1; have H2 := Lib.hid h2; clear h1 h2))
          exact bodyPost_ret (results_ro Tryd.results44 _ rfl row54 H1.out (by rw [u32s_len, sched_len])) rfl ⟨rfl, HS2.out.bel.grown H2.out HS2.out.bel.size (fun q e => by cases e; omega)⟩
end Go.Proofs.YtipbpecihbmneaaDoor
