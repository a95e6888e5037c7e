/- Eight words as 32 bytes, as the code does it. No condition. -/
import Derived.Test.YtipbpecihbmneaaDoorSt
import Derived.LoopTactic
namespace Go.Proofs.YtipbpecihbmneaaDoor
open Go.RowKit

theorem Tryd.info33 : (Tryd.prog.info? 46).map (·.size) = some 1 := by kernel_rfl
theorem Tryd.agg33 (w : World) : (isAgg 46).run Tryd.prog w = .ok false w := by kernel_rfl
theorem run_index34 {L : List Nat} (hl : L.length = 8) (w : World) {t : Nat} (ht : t < 8) : (Instr.index 61 (.agg (u32s L).toArray) (.int .i64 (t : Int))).run Tryd.prog w = .ok (.int .u32 (nth L t : Nat)) w := by
  have h1 : (u32s L)[t]? = some (.int .u32 (nth L t : Nat)) := u32s_get L t (by omega)
  have hi := Tryd.info33
  cases hq : Tryd.prog.info? 46 with
  | none => simp [hq] at hi
  | some i =>
    have hs : i.size = 1 := by simpa [hq] using hi
    simp [Instr.index, asIntOf, run_underlying Tryd.underlying61, ht, part, Sem.run_bind, sizeOf, typeInfo, hq, hs, h1]
theorem bytesS_len (h : List Nat) : (bytesS h).length = 32 := by simp [bytesS]
theorem byteAt_lt (h : List Nat) (i : Nat) : byteAt h i < 256 := Nat.mod_lt _ (by decide)
theorem bytesS_byt (h : List Nat) : AllB (bytesS h) := fun x hx => by
  simp only [bytesS, List.mem_map] at hx
  obtain ⟨i, _, rfl⟩ := hx
  exact byteAt_lt h i
def byT (h : List Nat) (i : Nat) : List Nat := (List.range i).map (byteAt h)
theorem byT_len (h : List Nat) (i : Nat) : (byT h i).length = i := by simp [byT]
theorem byT_next (h : List Nat) (i : Nat) : byT h (i + 1) = byT h i ++ [byteAt h i] := by simp [byT, List.range_succ]
theorem byT_full (h : List Nat) : upW (byT h 32) 32 = bytesS h := upW_full (byT_len h 32)
structure BoA (w : World) (h : List Nat) (i : Nat) (wr : World) : Prop where
  a : Ro wr w.heap.size 61 (u32s h)
  r : Ro wr (w.heap.size + 1) 27 (vals (List.replicate 32 0))
  o : Ro wr (w.heap.size + 2) 27 (vals (upW (byT h i) 32))
  bel : Below w.heap.size w wr
theorem BoA.step {w : World} {h : List Nat} {i x : Nat} {wr : World} (s : BoA w h i wr) (hi : i < 32) (hx : x = byteAt h i) : BoA w h (i + 1) (wr.setCell ⟨w.heap.size + 2, i, none⟩ (.int .u8 (x : Int))) := by
  refine ⟨s.a.other (by omega) _, s.r.other (by omega) _, ?_, s.bel.setCell (by simp) _⟩
  have h1 := s.o.set8 i x
  have h2 := upW_set (W := byT h i) (n := 32) x (by rw [byT_len]; exact hi)
  rw [byT_len] at h2
  rw [h2, hx, ← byT_next] at h1
  rw [hx]
  exact h1
theorem BoA.start (w : World) (h : List Nat) : BoA w h 0 (((w.alloc (.cells (u32s h).toArray 61)).alloc (.cells (vals (List.replicate 32 0)).toArray 27)).alloc (.cells (vals (List.replicate 32 0)).toArray 27)) := by
  refine ⟨((Ro.new w _ _).alloc _).alloc _, ?_, ?_, (((Below.refl _ _).alloc (Nat.le_refl _) _).alloc (by simp) _).alloc (by simp; omega) _⟩
  · have := (Ro.new (w.alloc (.cells (u32s h).toArray 61)) 27 (vals (List.replicate 32 0))).alloc (.cells (vals (List.replicate 32 0)).toArray 27)
    rwa [World.size_alloc] at this
  · have := Ro.new ((w.alloc (.cells (u32s h).toArray 61)).alloc (.cells (vals (List.replicate 32 0)).toArray 27)) 27 (vals (List.replicate 32 0))
    rw [World.size_alloc, World.size_alloc] at this
    exact this
theorem byte_at {h : List Nat} {t j x : Nat} (hj : j < 4) (hx : nth h t = x) : byteAt h (4 * t + j) = x / 2 ^ (24 - 8 * j) % 256 := by
  unfold byteAt
  rw [show (4 * t + j) / 4 = t by omega, show (4 * t + j) % 4 = j by omega, hx]

set_option maxRecDepth 100000 in
set_option maxHeartbeats 4000000 in
theorem bytesOf_any {h : List Nat} (hh : h.length = 8) (w : World) : Calls Tryd.prog 39 #[.agg (u32s h).toArray] w fun e w' => e = .returned (.agg (vals (bytesS h)).toArray) ∧ Below w.heap.size w w' := by
  have HH := Lib.hid hh
  have ix := fun w t => run_index34 (t := t) HH.out w
  clear hh
  go_enter Tryd.func39, Tryd.ntmps39
  go_wp2_with (refine wpList_load_ro rfl (.tmp 1) rfl rfl row34 (BoA.start w h).a (by rw [u32s_len, HH.out]) ?_)
  go_loopw [7] (fun i wr => ∃ t : Nat, t ≤ 8 ∧ i = .int .i64 (t : Nat) ∧ BoA w h (4 * t) wr) (fun i _ => 8 - (intOf i).toNat)
  case atStart => exact ⟨0, by omega, rfl, BoA.start w h⟩
  case round =>
    obtain ⟨t, ht, rfl, S⟩ := hrel
    by_cases hlt : t < 8
    · have t1 : decide ((t : Int) < 8) = true := decide_eq_true (by omega)
      have i1 := fun w => ix w t hlt
      obtain ⟨x, hx⟩ : ∃ x, nth h t = x := ⟨_, rfl⟩
      rw [hx] at i1
      have c0 := S.o.u8 (k := 4 * t) (by rw [upW_len (by rw [byT_len]; omega)]; omega)
      have c1 := S.o.u8 (k := 4 * t + 1) (by rw [upW_len (by rw [byT_len]; omega)]; omega)
      have c2 := S.o.u8 (k := 4 * t + 2) (by rw [upW_len (by rw [byT_len]; omega)]; omega)
      have c3 := S.o.u8 (k := 4 * t + 3) (by rw [upW_len (by rw [byT_len]; omega)]; omega)
      have f0 := S.o.free (4 * t)
      have f1 := S.o.free (4 * t + 1)
      have f2 := S.o.free (4 * t + 2)
      have f3 := S.o.free (4 * t + 3)
      have e0 := byte_at (j := 0) (by decide) hx
      have e1 := byte_at (j := 1) (by decide) hx
      have e2 := byte_at (j := 2) (by decide) hx
      have e3 := byte_at (j := 3) (by decide) hx
      have HE : Hid (BoA w h (4 * (t + 1)) ((((wr.setCell ⟨w.heap.size + 2, 4 * t, none⟩ (.int .u8 ((x / 16777216 % 256 : Nat) : Int))).setCell ⟨w.heap.size + 2, 4 * t + 1, none⟩ (.int .u8 ((x / 65536 % 256 : Nat) : Int))).setCell ⟨w.heap.size + 2, 4 * t + 2, none⟩ (.int .u8 ((x / 256 % 256 : Nat) : Int))).setCell ⟨w.heap.size + 2, 4 * t + 3, none⟩ (.int .u8 ((x % 256 : Nat) : Int)))) :=
        Lib.hid ((((S.step (by omega) e0.symm).step (by omega) e1.symm).step (by omega) e2.symm).step (by omega) (by rw [e3]; simp))
      clear hx S e0 e1 e2 e3 ix
      go_wp2_with fail
      exact ⟨⟨t + 1, by omega, by go_num, HE.out⟩, by simp [intOf]; omega⟩
    · obtain rfl : t = 8 := by omega
      have o1 := S.o
      rw [byT_full] at o1
      have O1 := Lib.hid o1
      have HS := Lib.hid S
      clear o1 S ix
      go_wp2_with (first | (refine wpList_load_ro rfl (.tmp 3) rfl rfl row26 O1.out (by rw [vals_length, bytesS_len]) ?_) | (refine wpList_store_ro rfl (.tmp 2) (.tmp 38) rfl rfl rfl row26 HS.out.r (by simp [vals]) (by rw [vals_length, bytesS_len]) (vals_one _) ?_))
      intro w4 R4 g4
      go_wp2_with fail
      exact bodyPost_ret (results_ro Tryd.results39 _ rfl row26 R4 (by rw [vals_length, bytesS_len])) rfl ⟨rfl, HS.out.bel.grown g4 HS.out.bel.size (fun q e => by cases e; omega)⟩
end Go.Proofs.YtipbpecihbmneaaDoor
