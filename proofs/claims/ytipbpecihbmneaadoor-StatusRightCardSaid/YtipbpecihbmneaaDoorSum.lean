/- The words behind all full pieces of a state. No condition but the state's make. -/
import Derived.Test.YtipbpecihbmneaaDoorSt
import Derived.Test.YtipbpecihbmneaaDoorMix
namespace Go.Proofs.YtipbpecihbmneaaDoor
open Go.RowKit

/-- The words W of a state of the bytes L. -/
structure WOf (L W : List Nat) : Prop where
  len : W.length = 8
  val : 64 ≤ L.length → W = pieces L (L.length / 64)
  zer : L.length < 64 → W = List.replicate 8 0
theorem WOf.low {L W : List Nat} (_ : WOf L W) (h : L.length < 64) : pieces L (L.length / 64) = h0 := by rw [show L.length / 64 = 0 by omega]; rfl
theorem wOf_nil : WOf [] (List.replicate 8 0) := ⟨rfl, fun h => absurd h (by decide), fun _ => rfl⟩
section
variable {w : World} {ops : Array Oper} {rest : List Oper} {o : Oper} {a : Act} {Q : Exit → Act → World → Prop}
theorem wpList_load_start (hgd : o.guard = none) (x : Operand) (ho : o.op = .load 61 x) (hx : a.eval x = .pointer (some ⟨1, 0, none⟩)) (hL : Laid w)
    (h : wpList Tryd.prog ops Q rest (a.put o.dst (.agg (u32s h0).toArray)) w) : wpList Tryd.prog ops Q (o :: rest) a w := by
  obtain ⟨T, fr, h1⟩ := hL.start
  exact wpList_load_row hgd _ x ho 1 hx T _ fr _ h1 Tryd.underlying61 rfl (by rw [Tryd.info34]; rfl) h
end
set_option maxRecDepth 100000 in
set_option maxHeartbeats 4000000 in
theorem sum_any {L W : List Nat} (hW : WOf L W) (hl : L.length < 4611686018427387904) (w : World) (hL : Laid w) : Calls Tryd.prog 37 #[.agg (stV W (partL L) L.length).toArray] w fun e w' => e = .returned (.agg (u32s (pieces L (L.length / 64))).toArray) ∧ Below w.heap.size w w' := by
  have HW := Lib.hid hW
  have HL := Lib.hid hL
  have S0 := Ro.new w 65 (stV W (partL L) L.length)
  have S1 := S0.alloc (.cells (u32s (List.replicate 8 0)).toArray 61)
  have R1 := Ro.new (w.alloc (.cells (stV W (partL L) L.length).toArray 65)) 61 (u32s (List.replicate 8 0))
  rw [World.size_alloc] at R1
  have B1 := ((Below.refl w.heap.size w).alloc (Nat.le_refl _) (.cells (stV W (partL L) L.length).toArray 65)).alloc (by simp) (.cells (u32s (List.replicate 8 0)).toArray 61)
  have c := fun o => (S0.alloc o).stC hW.len (partL_len L)
  have HS := Lib.hid S1
  have HR := Lib.hid R1
  have HB := Lib.hid B1
  have L1 := Lib.hid (hL.later hL.lt B1)
  clear hW hL S0 S1 R1 B1
  obtain ⟨n, hn⟩ : ∃ n, L.length = n := ⟨_, rfl⟩
  have HN := Lib.hid hn
  rw [hn] at c hl HS HR HB L1 ⊢
  clear hn
  by_cases hlt : n < 64
  · have t1 : decide ((n : Int) < 64) = true := decide_eq_true (by omega)
    have E : pieces L (n / 64) = h0 := by rw [← HN.out]; exact HW.out.low (by rw [HN.out]; exact hlt)
    rw [E]
    clear E
    go_enter Tryd.func37, Tryd.ntmps37
    go_wp2_with (first | (refine wpList_load_start rfl (.global 1) rfl rfl L1.out ?_) | (refine wpList_store_ro rfl (.tmp 2) (.tmp 6) rfl rfl rfl row34 HR.out (by simp [u32s]) (by simp [u32s, h0]) (u32s_one _) ?_))
    intro w4 R4 g4
    go_wp2_with fail
    exact bodyPost_ret (results_ro Tryd.results37 _ rfl row34 R4 (by simp [u32s, h0])) rfl ⟨rfl, HB.out.grown g4 HB.out.size (fun q e => by injection e; omega)⟩
  · have t1 : decide ((n : Int) < 64) = false := decide_eq_false (by omega)
    have E : W = pieces L (n / 64) := by rw [← HN.out]; exact HW.out.val (by rw [HN.out]; omega)
    have HE := Lib.hid E
    clear E
    go_enter Tryd.func37, Tryd.ntmps37
    go_wp2_with (first | (refine wpList_load_part rfl (.tmp 7) rfl rfl row34 HS.out.stW (by rw [u32s_len, HW.out.len]) ?_) | (refine wpList_store_ro rfl (.tmp 2) (.tmp 8) rfl rfl rfl row34 HR.out (by simp [u32s]) (by rw [u32s_len, HW.out.len]) (u32s_one _) ?_))
    intro w4 R4 g4
    go_wp2_with fail
    exact bodyPost_ret (results_ro Tryd.results37 _ rfl row34 R4 (by rw [u32s_len, HW.out.len])) rfl ⟨by rw [← HE.out], HB.out.grown g4 HB.out.size (fun q e => by injection e; omega)⟩
end Go.Proofs.YtipbpecihbmneaaDoor
