/- The words behind all full pieces of a state. No condition but the state's make. -/
import Derived.Test.YtjcphpmlekfhdaaGreatDoorGb
import Derived.Test.YtjcphpmlekfhdaaGreatDoorMix
import Derived.LoopTactic
import Derived.Test.YtjcphpmlekfhdaaGreatDoorGa

namespace Go.Proofs.YtjcphpmlekfhdaaGreatDoor
open Go.RowKit

/-- The words W of a state of the bytes L. -/
structure WOf (L W : List Nat) : Prop where
  len : W.length = 8
  val : 64 ≤ L.length → W = pieces L (L.length / 64)
  zer : L.length < 64 → W = List.replicate 8 0
theorem WOf.low {L W : List Nat} (_ : WOf L W) (h : L.length < 64) : pieces L (L.length / 64) = h0 := by rw [show L.length / 64 = 0 by omega]; rfl
theorem wOf_nil : WOf [] (List.replicate 8 0) := ⟨rfl, fun h => absurd h (by decide), fun _ => rfl⟩
section
variable {w : World} {ops : Array Oper} {rest : List Oper} {o : Oper} {a : Act} {Q : Exit → Act → World → Prop}
theorem wpList_load_start (hgd : o.guard = none) (x : Operand) (ho : o.op = .load 150 x) (hx : a.eval x = .pointer (some ⟨0, 0, none⟩)) (hL : Laid w)
    (h : wpList Tryz.prog ops Q rest (a.put o.dst (.agg (u32s h0).toArray)) w) : wpList Tryz.prog ops Q (o :: rest) a w := by
  obtain ⟨T, fr, h1⟩ := hL.start
  exact wpList_load_row hgd _ x ho 0 hx T _ fr _ h1 Tryz.underlying150 rfl (by rw [Tryz.info34]; rfl) h
end
set_option maxRecDepth 100000 in
set_option maxHeartbeats 4000000 in
theorem sum_any {L W : List Nat} (hW : WOf L W) (hl : L.length < 4611686018427387904) (w : World) (hL : Laid w) : Calls Tryz.prog 111 #[.agg (stV W (partL L) L.length).toArray] w fun e w' => e = .returned (.agg (u32s (pieces L (L.length / 64))).toArray) ∧ Below w.heap.size w w' := by
  have HW := Lib.hid hW
  have HL := Lib.hid hL
  have S0 := Ro.new w 153 (stV W (partL L) L.length)
  have S1 := S0.alloc (.cells (u32s (List.replicate 8 0)).toArray 150)
  have R1 := Ro.new (w.alloc (.cells (stV W (partL L) L.length).toArray 153)) 150 (u32s (List.replicate 8 0))
  rw [World.size_alloc] at R1
  have B1 := ((Below.refl w.heap.size w).alloc (Nat.le_refl _) (.cells (stV W (partL L) L.length).toArray 153)).alloc (by simp) (.cells (u32s (List.replicate 8 0)).toArray 150)
  have c := fun o => (S0.alloc o).stC hW.len (partL_len L)
  have HS := Lib.hid S1
  have HR := Lib.hid R1
  have HB := Lib.hid B1
  have L1 := Lib.hid (hL.later hL.lt B1)
  clear hW hL S0 S1 R1 B1
  obtain ⟨n, hn⟩ : ∃ n, L.length = n := ⟨_, rfl⟩
  have HN := Lib.hid hn
  rw [hn] at c hl HS HR HB L1 ⊢
  clear hn
  by_cases hlt : n < 64
  · have t1 : decide ((n : Int) < 64) = true := decide_eq_true (by omega)
    have E : pieces L (n / 64) = h0 := by rw [← HN.out]; exact HW.out.low (by rw [HN.out]; exact hlt)
    rw [E]
    clear E
    go_enter Tryz.func111, Tryz.ntmps111
    go_wp2_with (first | (refine wpList_load_start rfl (.global 0) rfl rfl L1.out ?_) | (refine wpList_store_ro rfl (.tmp 2) (.tmp 6) rfl rfl rfl row34 HR.out (by simp [u32s]) (by simp [u32s, h0]) (u32s_one _) ?_))
    intro w4 R4 g4
    go_wp2_with fail
    exact bodyPost_ret (results_ro Tryz.results111 _ rfl row34 R4 (by simp [u32s, h0])) rfl ⟨rfl, HB.out.grown g4 HB.out.size (fun q e => by injection e; omega)⟩
  · have t1 : decide ((n : Int) < 64) = false := decide_eq_false (by omega)
    have E : W = pieces L (n / 64) := by rw [← HN.out]; exact HW.out.val (by rw [HN.out]; omega)
    have HE := Lib.hid E
    clear E
    go_enter Tryz.func111, Tryz.ntmps111
    go_wp2_with (first | (refine wpList_load_part rfl (.tmp 7) rfl rfl row34 HS.out.stW (by rw [u32s_len, HW.out.len]) ?_) | (refine wpList_store_ro rfl (.tmp 2) (.tmp 8) rfl rfl rfl row34 HR.out (by simp [u32s]) (by rw [u32s_len, HW.out.len]) (u32s_one _) ?_))
    intro w4 R4 g4
    go_wp2_with fail
    exact bodyPost_ret (results_ro Tryz.results111 _ rfl row34 R4 (by rw [u32s_len, HW.out.len])) rfl ⟨by rw [← HE.out], HB.out.grown g4 HB.out.size (fun q e => by injection e; omega)⟩
end Go.Proofs.YtjcphpmlekfhdaaGreatDoor

/- A state with bytes behind, as the code reckons it. No condition but a bound on the lengths. -/
namespace Go.Proofs.YtjcphpmlekfhdaaGreatDoor
open Go.RowKit

section
variable {w : World} {ops : Array Oper} {rest : List Oper} {o : Oper} {a : Act} {Q : Exit → Act → World → Prop}
theorem run_from {A : Option Addr} {m c n : Nat} (h1 : n ≤ m) (w : World) : (Instr.sliceAt 40 (.slice A m c) (some (.int .i64 (n : Int))) none none).run Tryz.prog w = .ok (.slice (if c = n then A else A.map (·.add n)) (m - n) (c - n)) w := by
  obtain ⟨i0, hi, _, hz1, _⟩ := info_parts Tryz.infoByte
  have e : Tryz.prog.elem 40 = 5 := by kernel_rfl
  rw [run_sliceAt_slice (P := Tryz.prog) w 40 _ _ _ _ (by rw [e]; exact Tryz.underlying40), run_slice_l w 40 A m c (by rw [e]; exact Tryz.underlying40) .i64 (n : Int) (by omega) (by omega), e]
  simp [sizeOf, typeInfo, hi, hz1, sliced]
theorem wpList_from (hgd : o.guard = none) (x i : Operand) (ho : o.op = .slice 40 x (some i) none none) {A : Option Addr} {m c n : Nat} (hx : a.eval x = .slice A m c) (hi : a.eval i = .int .i64 (n : Int)) (h1 : n ≤ m) (h2 : m ≤ c)
    (h : ∀ A', (∀ w' L, Bs w' A m L → Bs w' A' (m - n) (L.drop n)) → wpList Tryz.prog ops Q rest (a.put o.dst (.slice A' (m - n) (c - n))) w) : wpList Tryz.prog ops Q (o :: rest) a w := by
  refine wpList_plain hgd fun K hK => ?_
  have e := hK _ _ (h (if c = n then A else A.map (·.add n)) fun w' L hL => by
    have h3 := hL.cut (c := c) (k := n) (m := m - n) (by omega) h2
    rwa [List.take_of_length_le (by rw [List.length_drop, hL.len]; exact Nat.le_refl _)] at h3)
  unfold Oper.wp execOp
  simp only [ho, hx, hi, Option.map_some, Option.map_none, Sem.run_bind, Sem.run_pure, Result.andThen_ok, run_from h1]
  exact e
theorem wpList_copy_gr (hgd : o.guard = none) (d s : Operand) (ho : o.op = .call { callee := .builtin .copy, args := #[d, s], argTypes := #[40, 40] }) {b k m n c1 c2 : Nat} {A : Option Addr} {S : TypeId} {zs : List Value} {M : List Nat} {q : Nat}
    (hd : a.eval d = .slice (some ⟨b, k, none⟩) m c1) (hs : a.eval s = .slice A n c2) (hr : Ro w b S zs) (hsrc : Bs w A n M) (hfit : k + m ≤ zs.length) (hq : min n m = q)
    (h : ∀ w', Ro w' b S (splice zs k (vals (M.take q))) → w.grownBy w' (some b) → wpList Tryz.prog ops Q rest (a.put o.dst (.int .i64 (q : Nat))) w') : wpList Tryz.prog ops Q (o :: rest) a w := by
  subst hq
  obtain ⟨i0, hi, _, hz1, _⟩ := info_parts Tryz.infoByte
  have hsz : (Tryz.prog.info? 5).map (·.size) = some 1 := by rw [hi]; simp [hz1]
  have hl := hsrc.len
  have hc : (vals (M.take (min n m))).length = min n m := by rw [vals_length, List.length_take]; omega
  by_cases h0 : min n m = 0
  · refine wpList_copy_nothing hgd d s _ _ ho 5 Tryz.underlying40 hsz _ A m c1 n c2 hd hs h0 ?_
    have := h w (by rw [h0]; simpa [splice, vals] using hr) (World.grownBy.refl _ _)
    rwa [h0] at this
  · obtain ⟨ad, rfl, _, hcel⟩ := hsrc.cel (by omega)
    refine wpList_copy_own hgd d s _ _ ho 5 Tryz.underlying40 hsz b k m c1 ad n c2 hd hs zs.toArray S hr (vals (M.take (min n m))) (by rw [hc]) (fun j v hv => ?_) (by rw [hc]; simp; omega) (vals_one _) ?_
    · obtain ⟨hj, rfl⟩ := vals_get? hv
      rw [List.length_take] at hj
      rw [hcel j (by omega)]
      have hj2 : j < min n m := by omega
      have : nth (M.take (min n m)) j = nth M j := by simp only [nth, List.getD]; rw [List.getElem?_take, if_pos hj2]
      rw [this]
    · rw [hc]
      have e := setRow_heap w b _ (splice zs k (vals (M.take (min n m)))).toArray _ _ hr
      have h3 := h _ e (grownBy_setRow _ _ _)
      unfold splice at h3
      rw [hc] at h3
      exact h3
end

theorem zero38 (w : World) : (zeroValue 153).run Tryz.prog w = .ok (.agg (stV (List.replicate 8 0) (List.replicate 64 0) 0).toArray) w := by kernel_rfl
structure AdA (w : World) (g : Nat) (X W0 : List Nat) (n : Nat) (wr : World) : Prop where
  st : Ro wr w.heap.size 153 (stV W0 (partL X) n)
  rs : Ro wr (w.heap.size + 1) 153 (stV (List.replicate 8 0) (List.replicate 64 0) 0)
  ws : Ro wr g 150 (u32s (pieces X (X.length / 64)))
  bel : Below w.heap.size w wr
def lenOf : Value → Nat | .slice _ n _ => n | _ => 0
theorem take_more (L M : List Nat) (K q : Nat) : L ++ M.take (K + q) = (L ++ M.take K) ++ (M.drop K).take q := by
  rw [List.append_assoc, ← List.take_add]
theorem run_arr {b r : Nat} (h1 : r < 64) (w : World) : (Instr.sliceAt 151 (.pointer (some ⟨b, 8, none⟩)) (some (.int .i64 (r : Int))) none none).run Tryz.prog w = .ok (.slice (some ⟨b, 8 + r, none⟩) (64 - r) (64 - r)) w := by
  obtain ⟨i0, hi, _, hz1, _⟩ := info_parts Tryz.infoByte
  have e : Tryz.prog.elem 151 = 5 := by kernel_rfl
  have l : Tryz.prog.arrayLen 151 = 64 := by kernel_rfl
  rw [run_sliceAt_array_l (P := Tryz.prog) w 151 ⟨b, 8, none⟩ (by rw [e, l]; exact Tryz.underlying151) .i64 (r : Int) (by omega) (by rw [l]; omega), e, l]
  have h2 : ¬ (64 = r) := by omega
  simp [sizeOf, typeInfo, hi, hz1, slicedAt, h2, Addr.add]
theorem wpList_arr {w : World} {ops : Array Oper} {rest : List Oper} {o : Oper} {a : Act} {Q : Exit → Act → World → Prop} (hgd : o.guard = none) (x i : Operand) (ho : o.op = .slice 151 x (some i) none none) {b r : Nat} (hx : a.eval x = .pointer (some ⟨b, 8, none⟩)) (hi : a.eval i = .int .i64 (r : Int)) (h1 : r < 64)
    (h : wpList Tryz.prog ops Q rest (a.put o.dst (.slice (some ⟨b, 8 + r, none⟩) (64 - r) (64 - r))) w) : wpList Tryz.prog ops Q (o :: rest) a w := by
  refine wpList_plain hgd fun K hK => ?_
  have e := hK _ _ h
  unfold Oper.wp execOp
  simp only [ho, hx, hi, Option.map_some, Option.map_none, Sem.run_bind, Sem.run_pure, Result.andThen_ok, run_arr h1]
  exact e
theorem AdA.more {w : World} {g : Nat} {X Y W0 : List Nat} {n : Nat} {wr w5 : World} (N : AdA w g X W0 n wr) (hW : W0.length = 8) (hg : w.heap.size + 2 ≤ g) {r : Nat} (hr : X.length % 64 = r) (hl : r + Y.length < 64) (R5 : Ro w5 w.heap.size 153 (splice (stV W0 (partL X) n) (8 + r) (vals Y))) (g5 : wr.grownBy w5 (some w.heap.size)) : AdA w g (X ++ Y) W0 n w5 := by
  subst hr
  rw [stV_in hW (by rw [partL_len]; omega)] at R5
  obtain ⟨e1, e2⟩ := part_add X Y hl
  refine ⟨by rw [e1]; exact R5, N.rs.far g5 (fun e => by injection e; omega), ?_, N.bel.grown g5 N.bel.size (fun q e => by injection e; omega)⟩
  rw [e2, pieces_pre X Y _ (by omega)]
  exact N.ws.far g5 (fun e => by injection e; omega)
/-- Behind the splice of a piece that is full. -/
structure AdB (w : World) (g : Nat) (X P W0 : List Nat) (n : Nat) (wr : World) : Prop where
  st : Ro wr w.heap.size 153 (stV W0 P n)
  rs : Ro wr (w.heap.size + 1) 153 (stV (List.replicate 8 0) (List.replicate 64 0) 0)
  ws : Ro wr g 150 (u32s X)
  bel : Below w.heap.size w wr
theorem AdB.later {w : World} {g : Nat} {X P W0 : List Nat} {n : Nat} {wr w1 : World} (N : AdB w g X P W0 n wr) (b : Below wr.heap.size wr w1) : AdB w g X P W0 n w1 :=
  ⟨N.st.later b, N.rs.later b, N.ws.later b, N.bel.trans (b.mono N.bel.size)⟩
theorem AdA.full {w : World} {g : Nat} {X Y W0 : List Nat} {n : Nat} {wr w5 : World} (N : AdA w g X W0 n wr) (hW : W0.length = 8) (hg : w.heap.size + 2 ≤ g) {r : Nat} (hl : r + Y.length = 64) (R5 : Ro w5 w.heap.size 153 (splice (stV W0 (partL X) n) (8 + r) (vals Y))) (g5 : wr.grownBy w5 (some w.heap.size)) : AdB w g (pieces X (X.length / 64)) (splice (partL X) r Y) W0 n w5 := by
  rw [stV_in hW (by rw [partL_len]; omega)] at R5
  exact ⟨R5, N.rs.far g5 (fun e => by injection e; omega), N.ws.far g5 (fun e => by injection e; omega), N.bel.grown g5 N.bel.size (fun q e => by injection e; omega)⟩
theorem AdB.words {w : World} {g : Nat} {X X' P W0 : List Nat} {n : Nat} {wr w1 : World} (N : AdB w g X P W0 n wr) (hg : w.heap.size + 2 ≤ g) (R : Ro w1 g 150 (u32s X')) (g5 : wr.grownBy w1 (some g)) : AdB w g X' P W0 n w1 :=
  ⟨N.st.far g5 (fun e => by injection e; omega), N.rs.far g5 (fun e => by injection e; omega), R, N.bel.grown g5 N.bel.size (fun q e => by injection e; omega)⟩
theorem AdB.parts {w : World} {g : Nat} {X P P' W0 : List Nat} {n : Nat} {wr w1 : World} (N : AdB w g X P W0 n wr) (hg : w.heap.size + 2 ≤ g) (hW : W0.length = 8) (hP : P'.length = P.length) (R : Ro w1 w.heap.size 153 (splice (stV W0 P n) 8 (vals P'))) (g5 : wr.grownBy w1 (some w.heap.size)) : AdB w g X P' W0 n w1 :=
  ⟨by rwa [stV_part hW hP] at R, N.rs.far g5 (fun e => by injection e; omega), N.ws.far g5 (fun e => by injection e; omega), N.bel.grown g5 N.bel.size (fun q e => by injection e; omega)⟩
theorem AdB.done {w : World} {g : Nat} {X Y W0 : List Nat} {n : Nat} {wr : World} {r : Nat} (hr : X.length % 64 = r) (hl : r + Y.length = 64) (N : AdB w g (comp (pieces X (X.length / 64)) (splice (partL X) r Y)) (List.replicate 64 0) W0 n wr) : AdA w g (X ++ Y) W0 n wr := by
  subst hr
  obtain ⟨f1, f2, f3⟩ := full_len X Y hl
  exact ⟨by rw [f3]; exact N.st, N.rs, by rw [f1, piece_full X Y hl, ← part_full X Y hl]; exact N.ws, N.bel⟩
theorem splice_byt {P M : List Nat} (k : Nat) (h1 : AllB P) (h2 : AllB M) : AllB (splice P k M) := fun x hx => by
  unfold splice at hx
  rcases List.mem_append.1 hx with h | h
  · exact h1 x (List.mem_of_mem_take h)
  rcases List.mem_append.1 h with h | h
  · exact h2 x h
  · exact h1 x (List.mem_of_mem_drop h)

set_option maxRecDepth 100000 in
set_option maxHeartbeats 4000000 in
theorem sadd_any {L M W : List Nat} (hW : WOf L W) (hL : AllB L) (hMb : AllB M) (hl : L.length < 1099511627776) (hm : M.length ≤ 1099511627776) (w : World) (hLd : Laid w) {A : Option Addr} {c : Nat} (hA : Bs w A M.length M) (hc : M.length ≤ c) :
    Calls Tryz.prog 105 #[.agg (stV W (partL L) L.length).toArray, .slice A M.length c] w fun e w' => ∃ W', e = .returned (.agg (stV W' (partL (L ++ M)) (L ++ M).length).toArray) ∧ WOf (L ++ M) W' ∧ Below w.heap.size w w' := by
  have S0 := Ro.new w 153 (stV W (partL L) L.length)
  have S1 := S0.alloc (.cells (stV (List.replicate 8 0) (List.replicate 64 0) 0).toArray 153)
  have R1 := Ro.new (w.alloc (.cells (stV W (partL L) L.length).toArray 153)) 153 (stV (List.replicate 8 0) (List.replicate 64 0) 0)
  rw [World.size_alloc] at R1
  have B1 := ((Below.refl w.heap.size w).alloc (Nat.le_refl _) (.cells (stV W (partL L) L.length).toArray 153)).alloc (by simp) (.cells (stV (List.replicate 8 0) (List.replicate 64 0) 0).toArray 153)
  have HS1 := Lib.hid S1
  have HR1 := Lib.hid R1
  have HB1 := Lib.hid B1
  have HA := Lib.hid hA
  have HW := Lib.hid hW
  have HL := Lib.hid hL
  have HD := Lib.hid hLd
  have HMB := Lib.hid hMb
  clear hW hL hLd hA hMb S0 S1 R1 B1
  obtain ⟨n, hn⟩ : ∃ n, L.length = n := ⟨_, rfl⟩
  obtain ⟨m, hmm⟩ : ∃ m, M.length = m := ⟨_, rfl⟩
  rw [hn] at hl
  rw [hmm] at hm hc
  have HN := Lib.hid hn
  have HM := Lib.hid hmm
  rw [hn] at HS1 HR1 HB1 ⊢
  rw [hmm] at HA ⊢
  clear hn hmm
  have z0 := zero38
  have CS : Hid (∀ w1, Laid w1 → Calls Tryz.prog 111 #[.agg (stV W (partL L) n).toArray] w1 fun e w' => e = .returned (.agg (u32s (pieces L (n / 64))).toArray) ∧ Below w1.heap.size w1 w') := Lib.hid (by
    intro w1 h1
    have h := sum_any HW.out (by rw [HN.out]; omega) w1 h1
    rwa [HN.out] at h)
  go_enter Tryz.func105, Tryz.ntmps105
  go_wp2_with (refine wpList_load_ro rfl (.tmp 2) rfl rfl row38 HS1.out (stV_len HW.out.len (partL_len L)) ?_)
  obtain ⟨W1, hW1⟩ : ∃ W1, W1 = ((w.alloc (.cells (stV W (partL L) n).toArray 153)).alloc (.cells (stV (List.replicate 8 0) (List.replicate 64 0) 0).toArray 153)) := ⟨_, rfl⟩
  rw [← hW1] at HS1 HR1 HB1
  refine (CS.out _ (by rw [hW1] at HB1; exact HD.out.later HD.out.lt HB1.out)).mono ?_
  rintro e w2 ⟨rfl, hb0⟩
  have hb2 : Below W1.heap.size W1 w2 := by rw [hW1]; exact hb0
  have D2 : Hid (Below w.heap.size w w2) := Lib.hid (HB1.out.trans (hb2.mono HB1.out.size))
  have S2 := Lib.hid (HS1.out.later hb2)
  have R2 := Lib.hid (HR1.out.later hb2)
  have G2 : Hid (w.heap.size + 2 ≤ w2.heap.size) := Lib.hid (by have := R2.out.lt; omega)
  clear hb0 hb2 hW1 HS1 HR1 HB1
  have SR := Ro.new w2 150 (u32s (List.replicate 8 0))
  have SM := Lib.hid ((Below.refl w2.heap.size w2).alloc (Nat.le_refl _) (.cells (u32s (List.replicate 8 0)).toArray 150))
  go_wp2_with (refine wpList_store_ro rfl (.tmp 5) (.tmp 9) rfl rfl rfl row34 SR (by simp [u32s]) (by rw [u32s_len, pieces_len]) (u32s_one _) ?_)
  intro w3 R3 g3
  have N3 : Hid (AdA w w2.heap.size L W n w3) := Lib.hid ⟨(S2.out.later SM.out).far g3 (fun e => by injection e; have := G2.out; omega), (R2.out.later SM.out).far g3 (fun e => by injection e; have := G2.out; omega), by rw [HN.out]; exact R3,
    (D2.out.trans (SM.out.mono D2.out.size)).grown g3 (by have := D2.out.size; simp; omega) (fun q e => by injection e; have := G2.out; omega)⟩
  clear S2 R2 D2 SM SR R3 g3
  have c0 := N3.out.st.stC HW.out.len (partL_len L)
  have f0 := N3.out.st.free 72
  have rB : n % 64 < 64 := Nat.mod_lt _ (by decide)
  go_wp2_with fail
  have N4 : Hid (AdA w w2.heap.size L W (n + m) (w3.setCell ⟨w.heap.size, 72, none⟩ (.int .u64 ((n + m : Nat) : Int)))) := Lib.hid ⟨by have h := N3.out.st.set 72 (.int .u64 ((n + m : Nat) : Int)); rwa [stV_count HW.out.len (partL_len L)] at h, N3.out.rs.other (by omega) _, N3.out.ws.other (by have := G2.out; omega) _, N3.out.bel.setCell (Nat.le_refl _) _⟩
  obtain ⟨w4, hw4⟩ : ∃ w4, w4 = (w3.setCell ⟨w.heap.size, 72, none⟩ (.int .u64 ((n + m : Nat) : Int))) := ⟨_, rfl⟩
  rw [← hw4] at N4
  go_loopw [1, 6] (fun b f wr => ∃ (K : Nat) (A : Option Addr) (c : Nat), K ≤ m ∧ b = .slice A (m - K) c ∧ m - K ≤ c ∧ f = .int .i64 (((n + K) % 64 : Nat) : Int) ∧ Bs w A (m - K) (M.drop K) ∧ AdA w w2.heap.size (L ++ M.take K) W (n + m) wr) (fun b _ _ => lenOf b)
  case atStart => exact ⟨0, A, c, by omega, rfl, hc, by go_num, HA.out, by simpa [hw4] using N4.out⟩
  case round =>
    clear N3 N4 hw4 c0 f0 rB HA
    obtain ⟨K, A, c, hK, rfl, hc, rfl, hA, N⟩ := hrel
    have HN5 := Lib.hid N
    have HA := Lib.hid hA
    clear hA N
    have eX : (L ++ M.take K).length = n + K := by rw [List.length_append, List.length_take, HN.out, HM.out]; omega
    have bX : AllB (L ++ M.take K) := HL.out.app (fun x hx => HMB.out x (List.mem_of_mem_take hx))
    by_cases hlt : K < m
    · obtain ⟨r, hr⟩ : ∃ r, (n + K) % 64 = r := ⟨_, rfl⟩
      obtain ⟨d, hd⟩ : ∃ d, m - K = d := ⟨_, rfl⟩
      obtain ⟨q, hq⟩ : ∃ q, min d (64 - r) = q := ⟨_, rfl⟩
      have r64 : r < 64 := by omega
      have d0 : 0 < d := by omega
      have qd : q ≤ d := by omega
      have q0 : 0 < q := by omega
      have qr : r + q ≤ 64 := by omega
      have yl : ((M.drop K).take q).length = q := by rw [List.length_take, List.length_drop, HM.out]; omega
      have tm := take_more L M K q
      have yB : AllB ((M.drop K).take q) := fun x hx => HMB.out x (List.mem_of_mem_drop (List.mem_of_mem_take hx))
      have rX : (L ++ M.take K).length % 64 = r := by rw [eX, hr]
      have k1 : (n + (K + q)) % 64 = (r + q) % 64 := by omega
      have k2 : m - (K + q) = d - q := by omega
      have k3 : K + q ≤ m := by omega
      have k4 : M.drop (K + q) = (M.drop K).drop q := by rw [List.drop_drop]
      have z1 : r + q = 64 ∨ (q = d ∧ r + q < 64) := by omega
      rw [hr, hd]
      rw [hd] at HA hc
      obtain ⟨X, hX⟩ : ∃ X, L ++ M.take K = X := ⟨_, rfl⟩
      obtain ⟨Y, hY⟩ : ∃ Y, (M.drop K).take q = Y := ⟨_, rfl⟩
      rw [hX] at HN5 rX bX tm
      rw [hY] at yl tm yB
      have TM := Lib.hid tm
      have RX := Lib.hid rX
      have BX := Lib.hid bX
      have YL := Lib.hid yl
      have YB := Lib.hid yB
      have K1 := Lib.hid k1
      have K2 := Lib.hid k2
      have K3 := Lib.hid k3
      have K4 := Lib.hid k4
      have HQ := Lib.hid hq
      have HY := Lib.hid hY
      have dm : d ≤ 1099511627776 := by omega
      clear tm rX bX yl yB k1 k2 k3 k4 hq hX hY hr hd eX hlt hK
      have t0 : decide ((0 : Int) < (d : Int)) = true := decide_eq_true (by omega)
      have fin : ∀ (A' : Option Addr) (f : Nat) (w8 : World), (∀ w' L, Bs w' A d L → Bs w' A' (d - q) (L.drop q)) → (r + q) % 64 = f → AdA w w2.heap.size (X ++ Y) W (n + m) w8 →
          ∃ (K : Nat) (A : Option Addr) (c' : Nat), K ≤ m ∧ Value.slice A' (d - q) (c - q) = .slice A (m - K) c' ∧ m - K ≤ c' ∧ Value.int .i64 (f : Int) = .int .i64 (((n + K) % 64 : Nat) : Int) ∧ Bs w A (m - K) (M.drop K) ∧ AdA w w2.heap.size (L ++ M.take K) W (n + m) w8 := by
        intro A' f w8 h1 h2 h3
        refine ⟨K + q, A', c - q, K3.out, by rw [K2.out], by rw [K2.out]; omega, by rw [K1.out, h2], ?_, by rw [TM.out]; exact h3⟩
        rw [K2.out, K4.out]
        exact h1 w _ HA.out
      have FIN := Lib.hid fin
      clear fin
      go_wp2_with (first | (refine wpList_arr rfl (.tmp 24) (.tmp 25) rfl rfl rfl r64 ?_) | (refine wpList_copy_gr rfl (.tmp 26) (.tmp 27) rfl rfl rfl HN5.out.st (HA.out.later HN5.out.bel) (by rw [stV_len HW.out.len (partL_len _)]; omega) HQ.out ?_))
      intro w5 R5 g5
      rw [HY.out] at R5
      have hR5 := Lib.hid R5
      have hg5 := Lib.hid g5
      clear R5 g5
      go_wp2_with (refine wpList_from rfl (.tmp 29) (.tmp 30) rfl rfl rfl qd hc ?_)
      intro A' hA'
      have HA' := Lib.hid hA'
      clear hA'
      rcases z1 with z1 | ⟨z1, z2⟩
      · have NB := Lib.hid (HN5.out.full HW.out.len G2.out (by rw [YL.out]; exact z1) hR5.out hg5.out)
        have t1 : decide ((r : Int) + (q : Int) = 64) = true := decide_eq_true (by omega)
        have PL : Hid ((splice (partL X) r Y).length = 64) := Lib.hid (by rw [length_splice _ _ _ (by rw [YL.out, partL_len]; omega), partL_len])
        clear hR5 hg5
        have e64 : (r : Int) + (q : Int) = 64 := by omega
        go_wp2_with (first | (refine wpList_load_ro rfl (.tmp 5) rfl rfl row34 NB.out.ws (by rw [u32s_len, pieces_len]) ?_) | (refine wpList_load_part rfl (.tmp 38) rfl rfl row35 (NB.out.st.stP HW.out.len) (by rw [vals_length, PL.out]) ?_))
        refine (mix_any (pieces_len _ _) PL.out (splice_byt _ (partL_byt BX.out) YB.out) _ (HD.out.later HD.out.lt NB.out.bel)).mono ?_
        rintro e w6 ⟨rfl, hb⟩
        have N6 := Lib.hid (NB.out.later hb)
        clear hb NB
        go_wp2_with (refine wpList_store_ro rfl (.tmp 5) (.tmp 40) rfl rfl rfl row34 N6.out.ws (by rw [u32s_len, pieces_len]) (by rw [u32s_len, comp_len]) (u32s_one _) ?_)
        intro w7 R7 g7
        have N7 := Lib.hid (N6.out.words G2.out R7 g7)
        clear R7 g7 N6
        go_wp2_with (refine wpList_store_part (vs := vals (List.replicate 64 0)) rfl (.tmp 42) (.tmp 41) rfl rfl rfl row35 N7.out.st (by rw [stV_len HW.out.len PL.out]; omega) (by rw [vals_length]; rfl) (vals_one _) ?_)
        intro w8 R8 g8
        have N8 := Lib.hid ((N7.out.parts G2.out HW.out.len (by rw [PL.out]; rfl) R8 g8).done RX.out (by rw [YL.out]; exact z1))
        clear R8 g8 N7
        go_wp2_with fail
        exact ⟨FIN.out A' 0 w8 HA'.out (by omega) N8.out, by simp [lenOf]; omega⟩
      · have N8 := Lib.hid (HN5.out.more HW.out.len G2.out RX.out (by rw [YL.out]; exact z2) hR5.out hg5.out)
        have t1 : decide ((r : Int) + (q : Int) = 64) = false := decide_eq_false (by omega)
        have e64 : ¬ (r : Int) + (q : Int) = 64 := by omega
        have hf : (r + q) % 64 = r + q := by omega
        have HF := Lib.hid hf
        clear hR5 hg5 z1 hf
        go_wp2_with fail
        have F := FIN.out A' _ w5 HA'.out HF.out N8.out
        rw [Int.natCast_add] at F
        exact ⟨F, by simp [lenOf]; omega⟩
    · obtain rfl : K = m := by omega
      have eL : L ++ M.take K = L ++ M := by rw [List.take_of_length_le (by rw [HM.out]; exact Nat.le_refl _)]
      rw [eL] at HN5 eX
      obtain ⟨X, hX⟩ : ∃ X, L ++ M = X := ⟨_, rfl⟩
      rw [hX] at HN5 eX
      have HX := Lib.hid hX
      have EX := Lib.hid eX
      have c1 := HN5.out.st.stC HW.out.len (partL_len X)
      clear hX eX eL bX hlt HA hK
      rw [Nat.sub_self]
      by_cases h64 : 64 ≤ n + K
      · have t1 : decide ((64 : Int) ≤ ((n + K : Nat) : Int)) = true := decide_eq_true (by omega)
        go_wp2_with (first | (refine wpList_load_ro rfl (.tmp 5) rfl rfl row34 HN5.out.ws (by rw [u32s_len, pieces_len]) ?_) | (refine wpList_store_part (k := 0) rfl (.tmp 47) (.tmp 46) rfl rfl rfl row34 HN5.out.st (by rw [stV_len HW.out.len (partL_len X)]; omega) (by rw [u32s_len, pieces_len]) (u32s_one _) ?_))
        intro w6 R6 g6
        rw [stV_words (by rw [pieces_len, HW.out.len])] at R6
        have S6 := Lib.hid R6
        have B6 := Lib.hid (HN5.out.bel.grown g6 HN5.out.bel.size (fun q e => by injection e; omega))
        have R7 := Lib.hid (HN5.out.rs.far g6 (fun e => by injection e; omega))
        clear R6 g6
        go_wp2_with (first | (refine wpList_load_ro rfl (.tmp 2) rfl rfl row38 S6.out (stV_len (pieces_len _ _) (partL_len X)) ?_) | (refine wpList_store_ro rfl (.tmp 4) (.tmp 48) rfl rfl rfl row38 R7.out (stV_len rfl rfl) (stV_len (pieces_len _ _) (partL_len X)) (stV_one _ _ _) ?_))
        intro w8 R8 g8
        go_wp2_with fail
        exact bodyPost_ret (results_ro Tryz.results105 _ rfl row38 R8 (stV_len (pieces_len _ _) (partL_len X))) rfl ⟨pieces X (X.length / 64), by rw [HX.out, EX.out], ⟨pieces_len _ _, fun _ => by rw [HX.out], fun h => absurd h (by rw [HX.out, EX.out]; omega)⟩, B6.out.grown g8 B6.out.size (fun q e => by injection e; omega)⟩
      · have t1 : decide ((64 : Int) ≤ ((n + K : Nat) : Int)) = false := decide_eq_false (by omega)
        go_wp2_with (first | (refine wpList_load_ro rfl (.tmp 2) rfl rfl row38 HN5.out.st (stV_len HW.out.len (partL_len X)) ?_) | (refine wpList_store_ro rfl (.tmp 4) (.tmp 48) rfl rfl rfl row38 HN5.out.rs (stV_len rfl rfl) (stV_len HW.out.len (partL_len X)) (stV_one _ _ _) ?_))
        intro w8 R8 g8
        go_wp2_with fail
        exact bodyPost_ret (results_ro Tryz.results105 _ rfl row38 R8 (stV_len HW.out.len (partL_len X))) rfl ⟨W, by rw [HX.out, EX.out], ⟨HW.out.len, fun h => absurd h (by rw [HX.out, EX.out]; omega), fun _ => HW.out.zer (by rw [HN.out]; omega)⟩, HN5.out.bel.grown g8 HN5.out.bel.size (fun q e => by injection e; omega)⟩
end Go.Proofs.YtjcphpmlekfhdaaGreatDoor

/- Eight words as 32 bytes, as the code does it. No condition. -/
namespace Go.Proofs.YtjcphpmlekfhdaaGreatDoor
open Go.RowKit

theorem Tryz.info33 : (Tryz.prog.info? 149).map (·.size) = some 1 := by kernel_rfl
theorem Tryz.agg33 (w : World) : (isAgg 149).run Tryz.prog w = .ok false w := by kernel_rfl
theorem run_index34 {L : List Nat} (hl : L.length = 8) (w : World) {t : Nat} (ht : t < 8) : (Instr.index 150 (.agg (u32s L).toArray) (.int .i64 (t : Int))).run Tryz.prog w = .ok (.int .u32 (nth L t : Nat)) w := by
  have h1 : (u32s L)[t]? = some (.int .u32 (nth L t : Nat)) := u32s_get L t (by omega)
  have hi := Tryz.info33
  cases hq : Tryz.prog.info? 149 with
  | none => simp [hq] at hi
  | some i =>
    have hs : i.size = 1 := by simpa [hq] using hi
    simp [Instr.index, asIntOf, run_underlying Tryz.underlying150, ht, part, Sem.run_bind, sizeOf, typeInfo, hq, hs, h1]
theorem bytesS_len (h : List Nat) : (bytesS h).length = 32 := by simp [bytesS]
theorem byteAt_lt (h : List Nat) (i : Nat) : byteAt h i < 256 := Nat.mod_lt _ (by decide)
theorem bytesS_byt (h : List Nat) : AllB (bytesS h) := fun x hx => by
  simp only [bytesS, List.mem_map] at hx
  obtain ⟨i, _, rfl⟩ := hx
  exact byteAt_lt h i
def byT (h : List Nat) (i : Nat) : List Nat := (List.range i).map (byteAt h)
theorem byT_len (h : List Nat) (i : Nat) : (byT h i).length = i := by simp [byT]
theorem byT_next (h : List Nat) (i : Nat) : byT h (i + 1) = byT h i ++ [byteAt h i] := by simp [byT, List.range_succ]
theorem byT_full (h : List Nat) : upW (byT h 32) 32 = bytesS h := upW_full (byT_len h 32)
structure BoA (w : World) (h : List Nat) (i : Nat) (wr : World) : Prop where
  a : Ro wr w.heap.size 150 (u32s h)
  r : Ro wr (w.heap.size + 1) 145 (vals (List.replicate 32 0))
  o : Ro wr (w.heap.size + 2) 145 (vals (upW (byT h i) 32))
  bel : Below w.heap.size w wr
theorem BoA.step {w : World} {h : List Nat} {i x : Nat} {wr : World} (s : BoA w h i wr) (hi : i < 32) (hx : x = byteAt h i) : BoA w h (i + 1) (wr.setCell ⟨w.heap.size + 2, i, none⟩ (.int .u8 (x : Int))) := by
  refine ⟨s.a.other (by omega) _, s.r.other (by omega) _, ?_, s.bel.setCell (by simp) _⟩
  have h1 := s.o.set8 i x
  have h2 := upW_set (W := byT h i) (n := 32) x (by rw [byT_len]; exact hi)
  rw [byT_len] at h2
  rw [h2, hx, ← byT_next] at h1
  rw [hx]
  exact h1
theorem BoA.start (w : World) (h : List Nat) : BoA w h 0 (((w.alloc (.cells (u32s h).toArray 150)).alloc (.cells (vals (List.replicate 32 0)).toArray 145)).alloc (.cells (vals (List.replicate 32 0)).toArray 145)) := by
  refine ⟨((Ro.new w _ _).alloc _).alloc _, ?_, ?_, (((Below.refl _ _).alloc (Nat.le_refl _) _).alloc (by simp) _).alloc (by simp; omega) _⟩
  · have := (Ro.new (w.alloc (.cells (u32s h).toArray 150)) 145 (vals (List.replicate 32 0))).alloc (.cells (vals (List.replicate 32 0)).toArray 145)
    rwa [World.size_alloc] at this
  · have := Ro.new ((w.alloc (.cells (u32s h).toArray 150)).alloc (.cells (vals (List.replicate 32 0)).toArray 145)) 145 (vals (List.replicate 32 0))
    rw [World.size_alloc, World.size_alloc] at this
    exact this
theorem byte_at {h : List Nat} {t j x : Nat} (hj : j < 4) (hx : nth h t = x) : byteAt h (4 * t + j) = x / 2 ^ (24 - 8 * j) % 256 := by
  unfold byteAt
  rw [show (4 * t + j) / 4 = t by omega, show (4 * t + j) % 4 = j by omega, hx]

set_option maxRecDepth 100000 in
set_option maxHeartbeats 4000000 in
theorem bytesOf_any {h : List Nat} (hh : h.length = 8) (w : World) : Calls Tryz.prog 113 #[.agg (u32s h).toArray] w fun e w' => e = .returned (.agg (vals (bytesS h)).toArray) ∧ Below w.heap.size w w' := by
  have HH := Lib.hid hh
  have ix := fun w t => run_index34 (t := t) HH.out w
  clear hh
  go_enter Tryz.func113, Tryz.ntmps113
  go_wp2_with (refine wpList_load_ro rfl (.tmp 1) rfl rfl row34 (BoA.start w h).a (by rw [u32s_len, HH.out]) ?_)
  go_loopw [7] (fun i wr => ∃ t : Nat, t ≤ 8 ∧ i = .int .i64 (t : Nat) ∧ BoA w h (4 * t) wr) (fun i _ => 8 - (intOf i).toNat)
  case atStart => exact ⟨0, by omega, rfl, BoA.start w h⟩
  case round =>
    obtain ⟨t, ht, rfl, S⟩ := hrel
    by_cases hlt : t < 8
    · have t1 : decide ((t : Int) < 8) = true := decide_eq_true (by omega)
      have i1 := fun w => ix w t hlt
      obtain ⟨x, hx⟩ : ∃ x, nth h t = x := ⟨_, rfl⟩
      rw [hx] at i1
      have c0 := S.o.u8 (k := 4 * t) (by rw [upW_len (by rw [byT_len]; omega)]; omega)
      have c1 := S.o.u8 (k := 4 * t + 1) (by rw [upW_len (by rw [byT_len]; omega)]; omega)
      have c2 := S.o.u8 (k := 4 * t + 2) (by rw [upW_len (by rw [byT_len]; omega)]; omega)
      have c3 := S.o.u8 (k := 4 * t + 3) (by rw [upW_len (by rw [byT_len]; omega)]; omega)
      have f0 := S.o.free (4 * t)
      have f1 := S.o.free (4 * t + 1)
      have f2 := S.o.free (4 * t + 2)
      have f3 := S.o.free (4 * t + 3)
      have e0 := byte_at (j := 0) (by decide) hx
      have e1 := byte_at (j := 1) (by decide) hx
      have e2 := byte_at (j := 2) (by decide) hx
      have e3 := byte_at (j := 3) (by decide) hx
      have HE : Hid (BoA w h (4 * (t + 1)) ((((wr.setCell ⟨w.heap.size + 2, 4 * t, none⟩ (.int .u8 ((x / 16777216 % 256 : Nat) : Int))).setCell ⟨w.heap.size + 2, 4 * t + 1, none⟩ (.int .u8 ((x / 65536 % 256 : Nat) : Int))).setCell ⟨w.heap.size + 2, 4 * t + 2, none⟩ (.int .u8 ((x / 256 % 256 : Nat) : Int))).setCell ⟨w.heap.size + 2, 4 * t + 3, none⟩ (.int .u8 ((x % 256 : Nat) : Int)))) :=
        Lib.hid ((((S.step (by omega) e0.symm).step (by omega) e1.symm).step (by omega) e2.symm).step (by omega) (by rw [e3]; simp))
      clear hx S e0 e1 e2 e3 ix
      go_wp2_with fail
      exact ⟨⟨t + 1, by omega, by go_num, HE.out⟩, by simp [intOf]; omega⟩
    · obtain rfl : t = 8 := by omega
      have o1 := S.o
      rw [byT_full] at o1
      have O1 := Lib.hid o1
      have HS := Lib.hid S
      clear o1 S ix
      go_wp2_with (first | (refine wpList_load_ro rfl (.tmp 3) rfl rfl row26 O1.out (by rw [vals_length, bytesS_len]) ?_) | (refine wpList_store_ro rfl (.tmp 2) (.tmp 38) rfl rfl rfl row26 HS.out.r (by simp [vals]) (by rw [vals_length, bytesS_len]) (vals_one _) ?_))
      intro w4 R4 g4
      go_wp2_with fail
      exact bodyPost_ret (results_ro Tryz.results113 _ rfl row26 R4 (by rw [vals_length, bytesS_len])) rfl ⟨rfl, HS.out.bel.grown g4 HS.out.bel.size (fun q e => by cases e; omega)⟩
end Go.Proofs.YtjcphpmlekfhdaaGreatDoor

/- A region that leaves its order open, whose operations read, call what makes memory of its own, and then lay new boxes and fill them: one walk of the reads and calls in the order of the text serves every order, if what stands behind holds however much memory has been made between. -/
namespace Go.Proofs.YtjcphpmlekfhdaaGreatDoor
open Go.RowKit

/-- The second world is the first one and new memory. -/
def Grows (w w' : World) : Prop := Below w.heap.size w w'
theorem Grows.refl (w : World) : Grows w w := Below.refl _ _
theorem Grows.trans {a b c : World} (h : Grows a b) (k : Grows b c) : Grows a c := Below.trans h (k.mono h.size)

section
variable {P : Program} {ops : Array Oper} {md : Region.Mode} {Q : Exit → Act → World → Prop} {W : World}

/-- Whatever order is picked from here on, and however much memory is made between two operations. -/
def wpK (P : Program) (md : Region.Mode) (ops : Array Oper) (Q : Exit → Act → World → Prop) (W : World) : Nat → Array Bool → Act → World → Prop
  | 0, listed, a, w => ∀ w', Grows w w' → Region.ready md ops listed = [] ∧ Q .normal a w'
  | f + 1, listed, a, w => ∀ w', Grows w w' → (Region.ready md ops listed = [] → Q .normal a w') ∧
      ∀ i ∈ Region.ready md ops listed, wpOp P ops Q i (fun a' w'' => Grows W w'' ∧ wpK P md ops Q W f (listed.setIfInBounds i true) a' w'') a w'

theorem wpK_later {f : Nat} {listed : Array Bool} {a : Act} {w w' : World} (h : wpK P md ops Q W f listed a w) (g : Grows w w') : wpK P md ops Q W f listed a w' := by
  cases f with
  | zero => exact fun w2 g2 => h w2 (g.trans g2)
  | succ f => exact fun w2 g2 => h w2 (g.trans g2)

theorem wpAny_of_wpK : ∀ (f : Nat) (listed : Array Bool) (a : Act) (w : World), wpK P md ops Q W f listed a w → wpAny P md ops Q f listed a w
  | 0, _, _, w, h => h w (.refl w)
  | f + 1, _, _, w, h => ⟨(h w (.refl w)).1, fun i hi => wpOp_mono (fun a' w' h' => wpAny_of_wpK f _ a' w' h'.2) ((h w (.refl w)).2 i hi)⟩

/-- In every world behind W the operation leaves the value v, and new memory at most. -/
def YieldsG (P : Program) (ops : Array Oper) (W : World) (o : Oper) (v : Value) (a : Act) : Prop :=
  (Region.wanted o (yielded ops a.tmps) = true ∧ ∀ w, Grows W w → o.quietAt P a (Grows w) w v) ∨ (Region.wanted o (yielded ops a.tmps) = false ∧ v = undef)

theorem YieldsG.wpOp {i : Nat} {o : Oper} {v : Value} {a : Act} {K : Act → World → Prop} {w : World} (hi : ops[i]? = some o) (hy : YieldsG P ops W o v a) (hw : Grows W w)
    (h : ∀ w', Grows w w' → K (a.put o.dst v) w') : wpOp P ops Q i K a w := by
  unfold Go.wpOp
  simp only [hi]
  rcases hy with ⟨want, hv⟩ | ⟨want, rfl⟩
  · simp only [want, if_true]
    refine .inl ?_
    have h3 := hv w hw
    unfold Oper.quietAt at h3
    unfold Oper.wp
    generalize (execOp a.eval o).run P w = r at *
    cases r with
    | halt x w' => exact h3.elim
    | ok n w' =>
      cases n <;> simp only [Oper.quietUpon] at h3 <;> simp only [Oper.upon]
      case value u => rw [h3.1, h3.2]; exact h _ (.refl _)
      case skip => rw [h3.1, ← h3.2]; exact h _ (.refl _)
      case enter f args =>
        rw [h3.1]
        exact h3.2.mono fun e w'' ⟨he, hw''⟩ => by subst he; exact h _ hw''
  · simp only [want, Bool.false_eq_true, if_false]; exact h _ (.refl _)

/-- What stays of a state whatever another operation writes, and that operation with a temporary more. -/
theorem wpOp_apart {j : Nat} {oi oj : Oper} {v : Value} {R : Act → Prop} (hj : ops[j]? = some oj) (hap : oi.apart ops oj = true) (hsj : ∀ cs b, oj.op ≠ .select cs b)
    (hQ : ∀ c a w, Q (.panic c) (a.put oi.dst v) w → Q (.panic c) a w) (hR : ∀ b u, R b → R (b.put oj.dst u)) (hD : ∀ (b : Act) d, R b → R { b with defers := d :: b.defers })
    {K : Act → World → Prop} {a : Act} {w : World} (ha : R a) (h : wpOp P ops Q j K (a.put oi.dst v) w) : wpOp P ops Q j (fun a' w' => R a' ∧ K (a'.put oi.dst v) w') a w := by
  obtain ⟨h1, h2, -⟩ := Oper.apart_spec hap
  have back : ∀ (b : Act) (u : Value) (w' : World), R b → K ((b.put oi.dst v).put oj.dst u) w' → R (b.put oj.dst u) ∧ K ((b.put oj.dst u).put oi.dst v) w' := fun b u w' hb hk =>
    ⟨hR b u hb, by rw [← Act.put_comm b v u h2]; exact hk⟩
  unfold wpOp at *
  simp only [hj] at *
  rw [wanted_put oj a oi.dst v h1] at h
  by_cases want : Region.wanted oj (yielded ops a.tmps) = true
  · rw [if_pos want] at h ⊢
    rcases h with h | ⟨asks, lets⟩
    · refine .inl ?_
      unfold Oper.wp at *
      rw [execOp_put oj hsj a oi.dst v h1] at h
      generalize (execOp a.eval oj).run P w = r at *
      cases r with
      | halt x w' =>
        cases x <;> simp only [Oper.upon] at h ⊢
        exact hQ _ _ _ h
      | ok n w' =>
        cases n <;> simp only [Oper.upon] at h ⊢
        case value u => exact back a u w' ha h
        case skip => exact back a undef w' ha h
        case defer d => exact back { a with defers := d :: a.defers } undef w' (hD a d ha) (by rw [← Act.put_defers]; exact h)
        case enter f args =>
          refine Calls.mono h fun e w'' he => ?_
          cases e with
          | returned u => exact back a u w'' ha he
          | panicked c => exact hQ _ _ _ he
          | outgrown => exact he
        case row row args => exact Rows.mono h fun u w'' he => back a u w'' ha he
    · refine .inr ⟨?_, lets⟩
      unfold Oper.asks at *
      rw [execOp_put oj hsj a oi.dst v h1] at asks
      exact asks
  · rw [if_neg want] at h ⊢
    exact back a undef w ha h

/-- An operation that may come up now, and yields its value in every world behind W, may be taken first. -/
theorem wpK_first {i : Nat} {oi : Oper} {v : Value} (hi : ops[i]? = some oi) (hsel : ∀ (j : Nat) (o : Oper) cs b, ops[j]? = some o → o.op ≠ .select cs b)
    (hQ : ∀ c a w, Q (.panic c) (a.put oi.dst v) w → Q (.panic c) a w) :
    ∀ (f : Nat) (listed : Array Bool) (a : Act) (w : World),
      (∀ j oj, ops[j]? = some oj → j ≠ i → listed.getD j true = false → (∀ e ∈ oj.after, Region.binds md e = true → e.on ≠ i) → oi.apart ops oj = true) →
      i ∈ Region.ready md ops listed → YieldsG P ops W oi v a → Grows W w →
      wpK P md ops Q W f (listed.setIfInBounds i true) (a.put oi.dst v) w → wpK P md ops Q W (f + 1) listed a w := by
  intro f
  induction f with
  | zero =>
    intro listed a w _ hr hy hW H w' g
    refine ⟨fun h => (by rw [h] at hr; cases hr), fun j hj => ?_⟩
    by_cases hji : j = i
    · subst hji
      exact hy.wpOp hi (hW.trans g) fun w'' g'' => ⟨hW.trans (g.trans g''), wpK_later H (g.trans g'')⟩
    · have := ready_mono hj hji
      rw [(H w (.refl w)).1] at this
      cases this
  | succ f ih =>
    intro listed a w hfree hr hy hW H w' g
    refine ⟨fun h => (by rw [h] at hr; cases hr), fun j hj => ?_⟩
    by_cases hji : j = i
    · subst hji
      exact hy.wpOp hi (hW.trans g) fun w'' g'' => ⟨hW.trans (g.trans g''), wpK_later H (g.trans g'')⟩
    · have h1 := (H w' g).2 j (ready_mono hj hji)
      obtain ⟨hjun, oj, hoj, hall⟩ := mem_ready.1 hj
      have iun := (mem_ready.1 hr).1
      have hnot : ∀ e ∈ oj.after, Region.binds md e = true → e.on ≠ i := fun e he hb heq => by
        have h1 := hall e he hb
        rw [heq] at h1
        rcases Nat.lt_or_ge i listed.size with h' | h'
        · simp [h'] at iun h1; rw [iun] at h1; cases h1
        · simp [Array.getElem?_eq_none h'] at h1
      have hap := hfree j oj hoj hji hjun hnot
      obtain ⟨-, -, h3⟩ := Oper.apart_spec hap
      have h2 := wpOp_apart (R := YieldsG P ops W oi v) hoj hap (fun cs b => hsel j oj cs b hoj) hQ
        (fun b u hb => by
          unfold YieldsG Oper.quietAt at *
          rw [execOp_put oi (fun cs b => hsel i oi cs b hi) b oj.dst u h3, wanted_put oi b oj.dst u h3]
          exact hb) (fun b d hb => hb) hy h1
      refine wpOp_mono (fun a' w'' h4 => ?_) h2
      refine ⟨h4.2.1, ih (listed.setIfInBounds j true) a' w'' (fun k ok hk hki hun hno => ?_) (ready_mono hr (Ne.symm hji)) h4.1 h4.2.1 ?_⟩
      · refine hfree k ok hk hki ?_ hno
        by_cases hjk : j = k
        · subst hjk; exact hjun
        · rw [getD_set_ne true hjk] at hun; exact hun
      · rw [Array.setIfInBounds_comm _ _ hji]
        exact h4.2.2

/-- The first operations, one by one: may each come up, and is each that may come ahead of it apart from it? -/
def preB (md : Region.Mode) (ops : Array Oper) : Nat → Nat → Array Bool → Bool
  | 0, _, _ => true
  | f + 1, k, listed => (Region.ready md ops listed).contains k && Region.free md ops listed k && preB md ops f (k + 1) (listed.setIfInBounds k true)
def preListed : Nat → Nat → Array Bool → Array Bool
  | 0, _, listed => listed
  | f + 1, k, listed => preListed f (k + 1) (listed.setIfInBounds k true)
/-- Each writes a temporary of its own. -/
def ownB (size : Nat) : List Oper → Bool
  | [] => true
  | o :: l => (match o.dst with | none => false | some d => decide (d < size) && l.all fun x => x.dst != some d) && ownB size l

/-- The worlds behind W, as the walks have them. -/
def behind (W : World) (w' : World) : Prop := ∃ u : After W, w' = u.w

theorem put_size (a : Act) (d : Option Tmp) (v : Value) : (a.put d v).tmps.size = a.tmps.size := by
  cases d <;> simp [Act.put]

theorem quiet_keeps {C : World → Prop} {fin : Act} {d : Nat} : ∀ (l : List Oper) (a : Act), (∀ x ∈ l, x.dst ≠ some d) → wpQuiet P ops C (fun a' => a' = fin) l a → fin.tmps[d]? = a.tmps[d]?
  | [], a, _, h => by have h : a = fin := h; rw [h]
  | o :: l, a, hd, h => by
    have key : ∀ v, (a.put o.dst v).tmps[d]? = a.tmps[d]? := fun v => by
      have hne := hd o (by simp)
      cases e : o.dst with
      | none => rfl
      | some k =>
        have : k ≠ d := fun h => hne (by rw [e, h])
        simp [Act.put, this]
    unfold wpQuiet at h
    split at h
    · obtain ⟨v, _, h2⟩ := h
      rw [quiet_keeps l _ (fun x hx => hd x (by simp [hx])) h2, key]
    · rw [quiet_keeps l _ (fun x hx => hd x (by simp [hx])) h, key]

theorem quietAt_grows {o : Oper} {a : Act} {w : World} {v : Value} (h : o.quietAt P a (behind w) w v) : o.quietAt P a (Grows w) w v := by
  unfold Oper.quietAt at *
  generalize (execOp a.eval o).run P w = r at *
  cases r with
  | halt x w' => exact h
  | ok n w' =>
    cases n <;> simp only [Oper.quietUpon] at h ⊢
    case value u => exact h
    case skip => exact h
    case enter f args => exact ⟨h.1, h.2.mono fun e w'' ⟨he, u, hu⟩ => ⟨he, by rw [hu]; exact u.below⟩⟩

theorem wpK_lex (hs : Region.noSelect ops = true) (hQ : ∀ c a (d : Tmp) v w, Q (.panic c) (Act.put a (some d) v) w → Q (.panic c) a w) {fin : Act} {f : Nat} :
    ∀ (l : List Oper) (k : Nat) (listed : Array Bool) (a : Act) (w : World), (∀ j, j < l.length → l[j]? = ops[k + j]?) → preB md ops l.length k listed = true → ownB a.tmps.size l = true → Grows W w →
    (∀ w', Grows W w' → wpQuiet P ops (behind w') (fun a' => a' = fin) l a) → wpK P md ops Q W f (preListed l.length k listed) fin w → wpK P md ops Q W (f + l.length) listed a w
  | [], k, listed, a, w, _, _, _, _, hq, h => by
    have e : a = fin := hq w ‹_›
    rw [e]; exact h
  | o :: l, k, listed, a, w, hl, hB, hO, hW, hq, h => by
    have h0 : ops[k]? = some o := by simpa using (hl 0 (by simp)).symm
    simp only [List.length_cons, preB, Bool.and_eq_true] at hB
    obtain ⟨⟨hr, hf⟩, hB'⟩ := hB
    simp only [ownB, Bool.and_eq_true] at hO
    obtain ⟨hO1, hO2⟩ := hO
    cases hd : o.dst with
    | none => rw [hd] at hO1; cases hO1
    | some d =>
      simp only [hd, Bool.and_eq_true, decide_eq_true_eq] at hO1
      obtain ⟨hlt, hno⟩ := hO1
      have hno' : ∀ x ∈ l, x.dst ≠ some d := fun x hx => by simpa using List.all_eq_true.1 hno x hx
      have hit : ∀ v, (a.put o.dst v).tmps[d]? = some v := fun v => by rw [hd]; simp [Act.put, hlt]
      have step : ∃ v, YieldsG P ops W o v a ∧ ∀ w', Grows W w' → wpQuiet P ops (behind w') (fun a' => a' = fin) l (a.put o.dst v) := by
        by_cases want : Region.wanted o (yielded ops a.tmps) = true
        · have hq2 : ∀ w', Grows W w' → o.quiet P a (behind w') (wpQuiet P ops (behind w') (fun a' => a' = fin) l) := fun w' g => by
            have := hq w' g
            unfold wpQuiet at this
            rwa [if_pos want] at this
          obtain ⟨v, _, hv2⟩ := hq2 w hW
          have ev := (quiet_keeps l _ hno' hv2).trans (hit v)
          have same : ∀ w', Grows W w' → (∀ u, behind w' u → o.quietAt P a (behind w') u v) ∧ wpQuiet P ops (behind w') (fun a' => a' = fin) l (a.put o.dst v) := fun w' g => by
            obtain ⟨v', hv1', hv2'⟩ := hq2 w' g
            have ev' := (quiet_keeps l _ hno' hv2').trans (hit v')
            have : v' = v := Option.some.inj (ev'.symm.trans ev)
            subst this
            exact ⟨hv1', hv2'⟩
          exact ⟨v, .inl ⟨want, fun w' g => quietAt_grows ((same w' g).1 w' ⟨⟨w', Below.refl _ _⟩, rfl⟩)⟩, fun w' g => (same w' g).2⟩
        · refine ⟨undef, .inr ⟨by simpa using want, rfl⟩, fun w' g => ?_⟩
          have := hq w' g
          unfold wpQuiet at this
          rwa [if_neg want] at this
      obtain ⟨v, hy, hq3⟩ := step
      have more := wpK_lex hs hQ (fin := fin) (f := f) l (k + 1) (listed.setIfInBounds k true) (a.put o.dst v) w (fun j hj => by have := hl (j + 1) (by simp; omega); simpa [Nat.add_assoc, Nat.add_comm 1 j] using this)
        hB' (by rw [put_size]; exact hO2) hW hq3 h
      exact wpK_first h0 (Region.noSelect_spec hs) (fun c a w h => hQ c a d v w (by rw [hd] at h; exact h)) (f + l.length) listed a w (Region.free_spec h0 hf) (by simpa using hr) hy hW more

/-- The reads and calls are walked in the order of the text; what is left over is asked of every world behind. -/
theorem wp_region_grow {id : Nat} {a : Act} {l : List Oper} (n : Nat) (hm : P.follows .mixedOrders = true) (hn : n ≤ l.length)
    (hB : (Region.noSelect l.toArray && preB .any l.toArray n 0 (Array.replicate l.length false)) = true) (hO : ownB a.tmps.size (l.take n) = true)
    (hQ : ∀ c a (d : Tmp) v w, Q (.panic c) (Act.put a (some d) v) w → Q (.panic c) a w)
    (h : ∃ fin, (∀ w', Grows W w' → wpQuiet P l.toArray (fun w'' => ∃ u : After w', w'' = u.w) (fun a' => a' = fin) (l.take n) a) ∧
      ∀ w', Grows W w' → wpK P .any l.toArray Q W (l.length - n) (preListed n 0 (Array.replicate l.length false)) fin w') : (Code.region id l.toArray true).wp P Q a W := by
  obtain ⟨fin, hq, ht⟩ := h
  simp only [Bool.and_eq_true] at hB
  have g0 : Grows W { W with drawn := W.drawn + 1 } := ⟨rfl, rfl, rfl, Nat.le_refl _, fun _ _ => rfl⟩
  have len : (l.take n).length = n := by simp; omega
  refine wp_region_any hm (wpAny_of_wpK (W := W) _ _ _ _ ?_)
  have := wpK_lex (md := .any) (Q := Q) (f := l.length - n) hB.1 hQ (l.take n) 0 (Array.replicate l.length false) a _ (fun j hj => by
    rw [len] at hj
    simp [hj]) (by rw [len]; exact hB.2) hO g0 hq (by rw [len]; exact ht _ g0)
  rw [len, show l.length - n + n = l.toArray.size by simp; omega] at this
  simpa using this

/-- One operation alone may come up. -/
theorem wpK_one {f i : Nat} {o : Oper} {listed : Array Bool} {a : Act} {w : World} (hr : Region.ready md ops listed = [i]) (ho : ops[i]? = some o) (hg : o.guard = none)
    (h : ∀ w', Grows w w' → ∀ K : Act → World → Prop, (∀ a' w'', Grows W w'' → wpK P md ops Q W f (listed.setIfInBounds i true) a' w'' → K a' w'') → o.wp P a w' K Q) :
    wpK P md ops Q W (f + 1) listed a w := fun w' g => by
  refine ⟨fun e => (by rw [hr] at e; cases e), fun j hj => ?_⟩
  rw [hr] at hj
  have hji : j = i := by simpa using hj
  subst hji
  unfold wpOp
  have want : Region.wanted o (yielded ops a.tmps) = true := by simp [Region.wanted, hg]
  simp only [ho, want, if_true]
  exact .inl (h w' g _ fun a' w'' g'' k => ⟨g'', k⟩)

/-- Either of two operations may come up. -/
theorem wpK_two {f i k : Nat} {o p : Oper} {listed : Array Bool} {a : Act} {w : World} (hr : Region.ready md ops listed = [i, k]) (ho : ops[i]? = some o) (hp : ops[k]? = some p) (hg : o.guard = none) (hgp : p.guard = none)
    (h : ∀ w', Grows w w' → ∀ K : Act → World → Prop, (∀ a' w'', Grows W w'' → wpK P md ops Q W f (listed.setIfInBounds i true) a' w'' → K a' w'') → o.wp P a w' K Q)
    (h2 : ∀ w', Grows w w' → ∀ K : Act → World → Prop, (∀ a' w'', Grows W w'' → wpK P md ops Q W f (listed.setIfInBounds k true) a' w'' → K a' w'') → p.wp P a w' K Q) :
    wpK P md ops Q W (f + 1) listed a w := fun w' g => by
  refine ⟨fun e => (by rw [hr] at e; cases e), fun j hj => ?_⟩
  rw [hr] at hj
  have want : Region.wanted o (yielded ops a.tmps) = true := by simp [Region.wanted, hg]
  have want2 : Region.wanted p (yielded ops a.tmps) = true := by simp [Region.wanted, hgp]
  rcases (by simpa using hj : j = i ∨ j = k) with rfl | rfl
  · unfold wpOp
    simp only [ho, want, if_true]
    exact .inl (h w' g _ fun a' w'' g'' k => ⟨g'', k⟩)
  · unfold wpOp
    simp only [hp, want2, if_true]
    exact .inl (h2 w' g _ fun a' w'' g'' k => ⟨g'', k⟩)

/-- None may come up any more. -/
theorem wpK_end {f : Nat} {listed : Array Bool} {a : Act} {w : World} (hr : Region.ready md ops listed = []) (h : ∀ w', Grows w w' → Q .normal a w') : wpK P md ops Q W f listed a w := by
  cases f with
  | zero => exact fun w' g => ⟨hr, h w' g⟩
  | succ f => exact fun w' g => ⟨fun _ => h w' g, fun i hi => by rw [hr] at hi; cases hi⟩

/-- Block b holds these cells, each of which may be written. -/
def Holds (w : World) (b : Nat) (c : Array Value) (T : TypeId) : Prop := w.heap[b]? = some (.cells c T (0, 0))
theorem Holds.cell {w : World} {b : Nat} {c : Array Value} {T : TypeId} (h : Holds w b c T) (q : Nat) : w.cell? ⟨b, q, none⟩ = c[q]? := by
  unfold Holds at h; simp [World.cell?, h]
theorem Holds.free {w : World} {b : Nat} {c : Array Value} {T : TypeId} (h : Holds w b c T) (q : Nat) : w.frozen? ⟨b, q, none⟩ = false := by
  unfold Holds at h; simp [World.frozen?, h]
theorem Holds.lt {w : World} {b : Nat} {c : Array Value} {T : TypeId} (h : Holds w b c T) : b < w.heap.size := by
  unfold Holds at h
  exact (Array.getElem?_eq_some_iff.1 h).1
theorem Holds.later {w w' : World} {b : Nat} {c : Array Value} {T : TypeId} (h : Holds w b c T) (g : Below w.heap.size w w') : Holds w' b c T := by
  unfold Holds at *
  rw [g.block b (Holds.lt h)]; exact h
theorem Holds.new (w : World) (c : Array Value) (T : TypeId) : Holds (w.alloc (.cells c T)) w.heap.size c T := by
  show (w.heap.push _)[w.heap.size]? = _
  simp
theorem Holds.set {w : World} {b q : Nat} {c : Array Value} {T : TypeId} (h : Holds w b c T) (v : Value) : Holds (w.setCell ⟨b, q, none⟩ v) b (c.setIfInBounds q v) T := by
  unfold Holds at *
  show (w.heap.modify b _)[b]? = _
  rw [Array.getElem?_modify, if_pos rfl, h]
  rfl
theorem Holds.other {w : World} {b k q : Nat} {c : Array Value} {T : TypeId} (h : Holds w b c T) (hk : k ≠ b) (v : Value) : Holds (w.setCell ⟨k, q, none⟩ v) b c T := by
  unfold Holds at *
  rw [Below.heap_setCell _ _ _ _ (by simpa using fun e => hk e.symm)]
  exact h

/-- A new box, laid by the one operation that may come up. -/
theorem wpK_box1 {f i : Nat} {o : Oper} {d : Tmp} {c : Array Value} {T : TypeId} {listed : Array Bool} {a : Act} {w : World} (hr : Region.ready md ops listed = [i]) (ho : ops[i]? = some o) (hg : o.guard = none) (hd : o.dst = some d)
    (hz : ∀ w, (execOp a.eval o).run P w = .ok (.value (.pointer (some ⟨w.heap.size, 0, none⟩))) (w.alloc (.cells c T))) (hW : Grows W w)
    (h : ∀ (B : Nat) (w' : World), Grows w w' → w.heap.size ≤ B → Holds w' B c T → wpK P md ops Q W f (listed.setIfInBounds i true) (a.put (some d) (.pointer (some ⟨B, 0, none⟩))) w') :
    wpK P md ops Q W (f + 1) listed a w := by
  refine wpK_one hr ho hg fun w' g K hK => ?_
  unfold Oper.wp
  rw [hz w']
  simp only [Oper.upon]
  have g2 : Grows w' (w'.alloc (.cells c T)) := (Below.refl _ _).alloc (Nat.le_refl _) _
  rw [hd]
  exact hK _ _ ((hW.trans g).trans g2) (h _ _ (g.trans g2) g.size (Holds.new _ _ _))

/-- Two new boxes, laid in either order. -/
theorem wpK_box2 {f i k : Nat} {o p : Oper} {d e : Tmp} {c c2 : Array Value} {T T2 : TypeId} {listed : Array Bool} {a : Act} {w : World} (hr : Region.ready md ops listed = [i, k]) (hri : Region.ready md ops (listed.setIfInBounds i true) = [k])
    (hrk : Region.ready md ops (listed.setIfInBounds k true) = [i]) (hik : i ≠ k) (ho : ops[i]? = some o) (hp : ops[k]? = some p) (hg : o.guard = none) (hgp : p.guard = none) (hd : o.dst = some d) (he : p.dst = some e) (hde : d ≠ e)
    (hz : ∀ a w, (execOp (Act.eval a) o).run P w = .ok (.value (.pointer (some ⟨w.heap.size, 0, none⟩))) (w.alloc (.cells c T)))
    (hzp : ∀ a w, (execOp (Act.eval a) p).run P w = .ok (.value (.pointer (some ⟨w.heap.size, 0, none⟩))) (w.alloc (.cells c2 T2))) (hW : Grows W w)
    (h : ∀ (B C : Nat) (w' : World), Grows w w' → w.heap.size ≤ B → w.heap.size ≤ C → B ≠ C → Holds w' B c T → Holds w' C c2 T2 →
      wpK P md ops Q W f ((listed.setIfInBounds i true).setIfInBounds k true) ((a.put (some d) (.pointer (some ⟨B, 0, none⟩))).put (some e) (.pointer (some ⟨C, 0, none⟩))) w') :
    wpK P md ops Q W (f + 2) listed a w := by
  have gr : ∀ (w : World) (x : Obj), Grows w (w.alloc x) := fun w x => (Below.refl _ _).alloc (Nat.le_refl _) _
  refine wpK_two (f := f + 1) hr ho hp hg hgp (fun w1 g1 K hK => ?_) (fun w1 g1 K hK => ?_)
  · unfold Oper.wp
    rw [hz a w1]
    simp only [Oper.upon]
    have n1 := Holds.new w1 c T
    rw [hd]
    refine hK _ _ ((hW.trans g1).trans (gr _ _)) (wpK_one hri hp hgp fun w2 g2 K hK => ?_)
    unfold Oper.wp
    rw [hzp _ w2]
    simp only [Oper.upon]
    rw [he]
    have s1 := g1.size
    have n2 := n1.later g2
    refine hK _ _ (((hW.trans g1).trans (gr _ _)).trans (g2.trans (gr _ _))) (h _ _ _ ((g1.trans (gr _ _)).trans (g2.trans (gr _ _))) s1 ?_ ?_ (n2.later (gr _ _)) (Holds.new _ _ _))
    · have := n2.lt; omega
    · have := n2.lt; omega
  · unfold Oper.wp
    rw [hzp a w1]
    simp only [Oper.upon]
    have n1 := Holds.new w1 c2 T2
    rw [he]
    refine hK _ _ ((hW.trans g1).trans (gr _ _)) (wpK_one hrk ho hg fun w2 g2 K hK => ?_)
    unfold Oper.wp
    rw [hz _ w2]
    simp only [Oper.upon]
    rw [hd]
    have s1 := g1.size
    have n2 := n1.later g2
    refine hK _ _ (((hW.trans g1).trans (gr _ _)).trans (g2.trans (gr _ _))) ?_
    rw [Array.setIfInBounds_comm _ _ (Ne.symm hik), Act.put_comm _ _ _ (fun x hx => by cases hx; intro h; exact hde (Option.some.inj h))]
    refine h _ _ _ ((g1.trans (gr _ _)).trans (g2.trans (gr _ _))) ?_ s1 ?_ (Holds.new _ _ _) (n2.later (gr _ _))
    · have := n2.lt; omega
    · have := n2.lt; omega

end
end Go.Proofs.YtjcphpmlekfhdaaGreatDoor

/- The sum of a state's bytes, as the code reckons it. No condition but a bound on the length. -/
namespace Go.Proofs.YtjcphpmlekfhdaaGreatDoor
open Go.RowKit

/-! What the last piece is. -/
theorem part_set (L : List Nat) : (partL L).set (L.length % 64) 128 = endB L := by
  unfold partL endB
  rw [List.set_append_right _ _ (by rw [rest_len]; exact Nat.le_refl _), rest_len, Nat.sub_self, show 64 - L.length % 64 = (63 - L.length % 64) + 1 by omega, List.replicate_succ]
  rfl
theorem endA_len {L : List Nat} (h : L.length % 64 < 56) : (endA L).length = 56 := by
  unfold endA; rw [List.length_append, rest_len, List.length_cons, List.length_replicate]; omega
theorem endB_len (L : List Nat) : (endB L).length = 64 := by rw [← part_set, List.length_set, partL_len]
theorem endB_short {L : List Nat} (h : L.length % 64 < 56) : endB L = endA L ++ upW [] 8 := by
  unfold endB endA upW
  rw [show 63 - L.length % 64 = (55 - L.length % 64) + 8 by omega, ← List.replicate_append_replicate]
  simp
theorem endB_byt {L : List Nat} (h : AllB L) : AllB (endB L) := AllB.app (fun x hx => h x (List.mem_of_mem_drop hx)) (AllB.app (L := [128]) (allB_one (by decide)) (allB_zeros _))
theorem endA_byt {L : List Nat} (h : AllB L) : AllB (endA L) := AllB.app (fun x hx => h x (List.mem_of_mem_drop hx)) (AllB.app (L := [128]) (allB_one (by decide)) (allB_zeros _))
theorem bits8_byt (n : Nat) : AllB (bits8 n) := fun x hx => by
  simp only [bits8, List.mem_map] at hx
  obtain ⟨i, _, rfl⟩ := hx
  exact Nat.mod_lt _ (by decide)
theorem bits8_get (n i : Nat) (h : i < 8) : (bits8 n)[i]? = some (n * 8 % 18446744073709551616 / 2 ^ (56 - 8 * i) % 256) := by
  simp [bits8, h]
def upB (Z : List Nat) (n i : Nat) : List Nat := Z ++ upW ((bits8 n).take i) 8
theorem upB_next {Z : List Nat} (hZ : Z.length = 56) (n i x : Nat) (hi : i < 8) (hx : x = n * 8 % 18446744073709551616 / 2 ^ (56 - 8 * i) % 256) : (upB Z n i).set (56 + i) x = upB Z n (i + 1) := by
  unfold upB
  have hl : ((bits8 n).take i).length = i := by rw [List.length_take, bits8_len]; omega
  rw [List.set_append_right _ _ (by omega), hZ, Nat.add_sub_cancel_left]
  have h := upW_set (W := (bits8 n).take i) (n := 8) x (by omega)
  rw [hl] at h
  rw [h, hx, List.take_add_one, bits8_get n i hi]
  rfl
theorem upB_len {Z : List Nat} (hZ : Z.length = 56) (n i : Nat) (hi : i ≤ 8) : (upB Z n i).length = 64 := by
  unfold upB
  rw [List.length_append, hZ, upW_len (by rw [List.length_take]; omega)]
theorem upB_full (Z : List Nat) (n : Nat) : upB Z n 8 = Z ++ bits8 n := by
  unfold upB
  rw [List.take_of_length_le (by rw [bits8_len]; exact Nat.le_refl _), upW_full (bits8_len n)]

structure EnA (w : World) (B C : Nat) (H P : List Nat) (wr : World) : Prop where
  rs : Ro wr (w.heap.size + 1) 145 (vals (List.replicate 32 0))
  ws : Ro wr B 150 (u32s H)
  la : Ro wr C 151 (vals P)
  bel : Below w.heap.size w wr
section
variable {w : World} {B C : Nat} {H P : List Nat} {wr w1 : World}
theorem EnA.later (N : EnA w B C H P wr) (b : Below wr.heap.size wr w1) : EnA w B C H P w1 := ⟨N.rs.later b, N.ws.later b, N.la.later b, N.bel.trans (b.mono N.bel.size)⟩
theorem EnA.words {H' : List Nat} (N : EnA w B C H P wr) (hB : w.heap.size + 2 ≤ B) (ne : B ≠ C) (R : Ro w1 B 150 (u32s H')) (g : wr.grownBy w1 (some B)) : EnA w B C H' P w1 :=
  ⟨N.rs.far g (fun e => by injection e; omega), R, N.la.far g (fun e => by injection e; omega), N.bel.grown g N.bel.size (fun q e => by injection e; omega)⟩
theorem EnA.last {P' : List Nat} (N : EnA w B C H P wr) (hC : w.heap.size + 2 ≤ C) (ne : B ≠ C) (R : Ro w1 C 151 (vals P')) (g : wr.grownBy w1 (some C)) : EnA w B C H P' w1 :=
  ⟨N.rs.far g (fun e => by injection e; omega), N.ws.far g (fun e => by injection e; omega), R, N.bel.grown g N.bel.size (fun q e => by injection e; omega)⟩
theorem EnA.set (N : EnA w B C H P wr) (hC : w.heap.size + 2 ≤ C) (ne : B ≠ C) (k x : Nat) : EnA w B C H (P.set k x) (wr.setCell ⟨C, k, none⟩ (.int .u8 (x : Int))) :=
  ⟨N.rs.other (by omega) _, N.ws.other (by omega) _, N.la.set8 k x, N.bel.setCell (by simp; omega) _⟩
end

theorem quiet_load_part {o : Oper} {a : Act} {D : World → Prop} {K : Act → Prop} {T : TypeId} {n b k : Nat} {vs : List Value} (x : Operand) (ho : o.op = .load T x) (hx : a.eval x = .pointer (some ⟨b, k, none⟩)) (hT : IsRow T n)
    (hC : ∀ w, D w → w.rangeAt b k vs) (hl : vs.length = n) (hk : K (a.put o.dst (.agg vs.toArray))) : o.quiet Tryz.prog a D K :=
  ⟨.agg vs.toArray, fun w hw => by
    unfold Oper.quietAt execOp
    obtain ⟨⟨f, h1⟩ | ⟨j, e, h1⟩, h3⟩ := hT
    · simp only [ho, hx, Instr.loadAt, Instr.sureAddr, Sem.run_bind, Sem.run_pure, Result.andThen_ok, run_loadVar_mid w b k T vs _ (hC w hw) h1 rfl (by rw [h3]; simp [hl])]
      exact ⟨rfl, rfl⟩
    · simp only [ho, hx, Instr.loadAt, Instr.sureAddr, Sem.run_bind, Sem.run_pure, Result.andThen_ok, run_loadVar_mid w b k T vs _ (hC w hw) h1 rfl (by rw [h3]; simp [hl])]
      exact ⟨rfl, rfl⟩, hk⟩
theorem rangeAt_later {w w1 : World} {b k : Nat} {vs : List Value} {T : TypeId} {zs : List Value} (R : Ro w b T zs) (h : w.rangeAt b k vs) (g : Below w.heap.size w w1) : w1.rangeAt b k vs := fun j v hv => by
  rw [← h j v hv]; exact g.cell R.lt
theorem Ro.whole {w : World} {b : Nat} {T : TypeId} {zs : List Value} (R : Ro w b T zs) : w.rangeAt b 0 zs := fun j v hv => by rw [Nat.zero_add]; exact R.cell hv
theorem wp_store_ro {w : World} {o : Oper} {a : Act} {Q : Exit → Act → World → Prop} {K : Act → World → Prop} {T S : TypeId} {n b : Nat} {vs zs : List Value} (x y : Operand) (ho : o.op = .store T x y) (hx : a.eval x = .pointer (some ⟨b, 0, none⟩)) (hy : a.eval y = .agg vs.toArray) (hT : IsRow T n) (hr : Ro w b S zs) (hz : zs.length = n) (hl : vs.length = n) (h1 : ∀ u ∈ vs, u.oneCell' = true)
    (h : ∀ w', Ro w' b S vs → w.grownBy w' (some b) → K (a.put o.dst undef) w') : o.wp Tryz.prog a w K Q :=
  wp_store_row T x y ho b vs.toArray hx hy S zs.toArray hr (by rw [hT.info]; simp [hl]) (by simp [hz, hl]) (all_one h1) (h _ (setRow_heap w b _ _ _ _ hr) (grownBy_setRow w b _))

set_option maxRecDepth 100000 in
set_option maxHeartbeats 4000000 in
theorem end_any {L W : List Nat} (hW : WOf L W) (hL : AllB L) (hl : L.length < 2199023255552) (w : World) (hLd : Laid w) :
    Calls Tryz.prog 106 #[.agg (stV W (partL L) L.length).toArray] w fun e w' => e = .returned (.agg (vals (shaS L)).toArray) ∧ Below w.heap.size w w' := by
  have S0 := Ro.new w 153 (stV W (partL L) L.length)
  have S1 := S0.alloc (.cells (vals (List.replicate 32 0)).toArray 145)
  have R1 := Ro.new (w.alloc (.cells (stV W (partL L) L.length).toArray 153)) 145 (vals (List.replicate 32 0))
  rw [World.size_alloc] at R1
  have B1 := ((Below.refl w.heap.size w).alloc (Nat.le_refl _) (.cells (stV W (partL L) L.length).toArray 153)).alloc (by simp) (.cells (vals (List.replicate 32 0)).toArray 145)
  have HS1 := Lib.hid S1
  have HR1 := Lib.hid R1
  have HB1 := Lib.hid B1
  have HW := Lib.hid hW
  have HL := Lib.hid hL
  have HD := Lib.hid hLd
  clear hW hL hLd S0 S1 R1 B1
  obtain ⟨n, hn⟩ : ∃ n, L.length = n := ⟨_, rfl⟩
  rw [hn] at hl
  have HN := Lib.hid hn
  rw [hn] at HS1 HR1 HB1 ⊢
  clear hn
  have CS : Hid (∀ w1, Laid w1 → Calls Tryz.prog 111 #[.agg (stV W (partL L) n).toArray] w1 fun e w' => e = .returned (.agg (u32s (pieces L (n / 64))).toArray) ∧ Below w1.heap.size w1 w') := Lib.hid (by
    intro w1 h1
    have h := sum_any HW.out (by rw [HN.out]; omega) w1 h1
    rwa [HN.out] at h)
  go_enter Tryz.func106, Tryz.ntmps106
  go_wp2_with fail
  obtain ⟨W1, hW1⟩ : ∃ W1, W1 = ((w.alloc (.cells (stV W (partL L) n).toArray 153)).alloc (.cells (vals (List.replicate 32 0)).toArray 145)) := ⟨_, rfl⟩
  rw [← hW1] at HS1 HR1 HB1
  change Code.wp _ _ _ _ ((w.alloc (.cells (stV W (partL L) n).toArray 153)).alloc (.cells (vals (List.replicate 32 0)).toArray 145))
  rw [← hW1]
  clear hW1
  refine wp_region_grow 4 (by kernel_rfl) (Nat.le_of_ble_eq_true (by kernel_rfl)) (by kernel_rfl) (by kernel_rfl) (fun _ _ _ _ _ h => h) ?_
  apply Exists.intro
  refine ⟨?_, ?_⟩
  · intro wg hg
    simp only [List.take_succ_cons, List.take_zero]
    have SG := HS1.out.later hg
    have DG : ∀ u : After wg, Laid u.w := fun u => HD.out.later HD.out.lt ((HB1.out.trans (hg.mono HB1.out.size)).trans (u.below.mono (Nat.le_trans HB1.out.size hg.size)))
    have C : ∀ u : After wg, Calls Tryz.prog 111 #[.agg (stV W (partL L) n).toArray] u.w fun e w' => e = .returned (.agg (u32s (pieces L (n / 64))).toArray) ∧ Below u.w.heap.size u.w w' := fun u => CS.out u.w (DG u)
    have HC := Lib.hid C
    have HSG := Lib.hid SG
    clear C DG SG
    go_big_quiet_want
    refine quiet_load_part (.tmp 1) rfl rfl row38 (fun w9 h9 => by obtain ⟨u, rfl⟩ := h9; exact rangeAt_later HSG.out HSG.out.whole u.below) (stV_len HW.out.len (partL_len L)) ?_
    simp only [Act.put, List.setIfInBounds_toArray, List.set_cons_succ, List.set_cons_zero]
    go_big_quiet_on
    go_big_quiet_step (exact after_call (HC.out _))
    go_big_quiet_step (fail)
    go_big_quiet_want
    refine quiet_load_part (.tmp 10) rfl rfl row35 (fun w9 h9 => by obtain ⟨u, rfl⟩ := h9; exact rangeAt_later HSG.out (HSG.out.stP HW.out.len) u.below) (by rw [vals_length, partL_len]) ?_
    simp only [Act.put, List.setIfInBounds_toArray, List.set_cons_succ, List.set_cons_zero]
    go_big_quiet_on
    refine wpQuiet_nil ?_
    exact rfl
  intro wg hg
  show wpK _ _ _ _ _ 4 _ _ _
  refine wpK_box2 (f := 2) (i := 4) (k := 5) (c := (u32s (List.replicate 8 0)).toArray) (c2 := (vals (List.replicate 64 0)).toArray) (T := 150) (T2 := 151) (by kernel_rfl) (by kernel_rfl) (by kernel_rfl) (by decide) rfl rfl rfl rfl rfl rfl (by decide) (fun a w => by go_simp; rfl) (fun a w => by go_simp; rfl) hg ?_
  intro B C wh gh lB lC ne HB HC
  replace lB := Nat.le_trans hg.size lB
  replace lC := Nat.le_trans hg.size lC
  have ge := hg.trans gh
  clear hg gh
  refine wpK_one (f := 1) (i := 6) (by kernel_rfl) rfl rfl ?_
  intro wc gc K hK
  refine wp_store_ro (vs := u32s (pieces L (n / 64))) (.tmp 3) (.tmp 9) rfl rfl rfl row34 (HB.later gc) (by simp [u32s]) (by rw [u32s_len, pieces_len]) (u32s_one _) ?_
  intro wd RB gB
  refine hK _ _ ((ge.trans gc).grown gB (Nat.le_trans ge.size gc.size) (fun q e => by injection e; omega)) ?_
  have HC2 := Ro.far (HC.later gc) gB (fun e => by injection e; omega)
  replace ge : Grows W1 wd := (ge.trans gc).grown gB (Nat.le_trans ge.size gc.size) (fun q e => by injection e; omega)
  clear hK K gB gc HB HC
  refine wpK_one (f := 0) (i := 7) (by kernel_rfl) rfl rfl ?_
  intro we gc K hK
  refine wp_store_ro (vs := vals (partL L)) (.tmp 4) (.tmp 11) rfl rfl rfl row35 (HC2.later gc) (by simp [vals]) (by rw [vals_length, partL_len]) (vals_one _) ?_
  intro wf RC gC
  have RB2 := Ro.far (RB.later gc) gC (fun e => by injection e; omega)
  replace ge : Grows W1 wf := (ge.trans gc).grown gC (Nat.le_trans ge.size gc.size) (fun q e => by injection e; omega)
  refine hK _ _ ge ?_
  clear hK K gC gc HC2 RB
  refine wpK_end (by kernel_rfl) ?_
  intro wi gi
  have S3 := Lib.hid (HS1.out.later (ge.trans gi))
  have lW : w.heap.size + 2 ≤ W1.heap.size := by have := HR1.out.lt; omega
  have LB : Hid (w.heap.size + 2 ≤ B) := Lib.hid (Nat.le_trans lW lB)
  have LC : Hid (w.heap.size + 2 ≤ C) := Lib.hid (Nat.le_trans lW lC)
  have NE := Lib.hid ne
  have N3 : Hid (EnA w B C (pieces L (n / 64)) (partL L) wi) := Lib.hid ⟨HR1.out.later (ge.trans gi), RB2.later gi, RC.later gi, HB1.out.trans ((ge.trans gi).mono HB1.out.size)⟩
  clear ge gi RB2 RC HS1 HR1 HB1 lW lB lC ne
  have c0 := S3.out.stC HW.out.len (partL_len L)
  have hmod : n % 64 < 64 := Nat.mod_lt _ (by decide)
  obtain ⟨r, hr⟩ : ∃ r, n % 64 = r := ⟨_, rfl⟩
  rw [hr] at hmod
  have er : (n : Int) % 64 = (r : Int) := by omega
  have HR := Lib.hid hr
  have c1 := N3.out.la.u8 (k := r) (by rw [partL_len]; exact hmod)
  have f1 := N3.out.la.free r
  clear hr
  show Exit.then _ _ Exit.normal _ _
  have N4 : Hid (EnA w B C (pieces L (n / 64)) (endB L) (wi.setCell ⟨C, r, none⟩ (.int .u8 ((128 : Nat) : Int))) ∧ Ro (wi.setCell ⟨C, r, none⟩ (.int .u8 ((128 : Nat) : Int))) w.heap.size 153 (stV W (partL L) n)) := Lib.hid (by
    have h := N3.out.set LC.out NE.out r 128
    have e : (partL L).set r 128 = endB L := by rw [← HR.out, ← HN.out]; exact part_set L
    rw [e] at h
    exact ⟨h, S3.out.other (by have := LC.out; omega) _⟩)
  clear N3 S3
  by_cases hr56 : r < 56
  · have t1 : decide ((56 : Int) ≤ (r : Int)) = false := decide_eq_false (by omega)
    have hLr : L.length % 64 < 56 := by rw [HN.out, HR.out]; exact hr56
    have eB := endB_short hLr
    rw [eB] at N4
    obtain ⟨Z, hZ⟩ : ∃ Z, endA L = Z := ⟨_, rfl⟩
    obtain ⟨H, hH⟩ : ∃ H, pieces L (n / 64) = H := ⟨_, rfl⟩
    rw [hZ, hH] at N4
    have ZL : Hid (Z.length = 56) := Lib.hid (by rw [← hZ]; exact endA_len hLr)
    have ZB : Hid (AllB Z) := Lib.hid (by rw [← hZ]; exact endA_byt HL.out)
    have H8 : Hid (H.length = 8) := Lib.hid (by rw [← hH]; exact pieces_len _ _)
    have SH : Hid (bytesS (comp H (Z ++ bits8 n)) = shaS L) := Lib.hid (by rw [sha_short L hLr, HN.out, hZ, hH])
    rw [hH]
    clear hZ hH eB hLr
    have N5 : Hid (EnA w B C H (upB Z n 0) (wi.setCell ⟨C, r, none⟩ (.int .u8 ((128 : Nat) : Int))) ∧ Ro (wi.setCell ⟨C, r, none⟩ (.int .u8 ((128 : Nat) : Int))) w.heap.size 153 (stV W (partL L) n)) := Lib.hid N4.out
    clear N4
    have c72 := N5.out.2.stC HW.out.len (partL_len L)
    have wr8 : IntKind.u64.wrap ((n : Int) * 8) = ((n * 8 % 18446744073709551616 : Nat) : Int) := by rw [IntKind.wrap_u64]; omega
    go_wp2_with fail
    go_loopw [27] (fun i wr => ∃ t : Nat, t ≤ 8 ∧ i = .int .i64 (t : Nat) ∧ EnA w B C H (upB Z n t) wr) (fun i _ => 8 - (intOf i).toNat)
    case atStart => exact ⟨0, by omega, rfl, N5.out.1⟩
    case round =>
      clear N5
      obtain ⟨t, ht, rfl, N⟩ := hrel
      have HN5 := Lib.hid N
      clear N
      by_cases hlt : t < 8
      · have ca := HN5.out.la.u8 (k := 56 + t) (by rw [upB_len ZL.out n t ht]; omega)
        have fa := HN5.out.la.free (56 + t)
        have FN : Hid (∀ (V : Int) (D : Nat), D = 2 ^ (56 - 8 * t) → V = ((n * 8 % 18446744073709551616 / D % 256 : Nat) : Int) → EnA w B C H (upB Z n (t + 1)) (wr.setCell ⟨C, 56 + t, none⟩ (.int .u8 V))) := Lib.hid (fun V D hD hV => by
          subst hD
          subst hV
          have h := HN5.out.set LC.out NE.out (56 + t) (n * 8 % 18446744073709551616 / 2 ^ (56 - 8 * t) % 256)
          rwa [upB_next ZL.out n t _ hlt rfl] at h)
        have z8 : t = 0 ∨ t = 1 ∨ t = 2 ∨ t = 3 ∨ t = 4 ∨ t = 5 ∨ t = 6 ∨ t = 7 := by omega
        clear HN5 hlt ht
        rcases z8 with rfl | rfl | rfl | rfl | rfl | rfl | rfl | rfl
        · go_wp2_with fail
          exact ⟨⟨1, by omega, rfl, FN.out _ 72057594037927936 rfl (by omega)⟩, by simp [intOf]⟩
        · go_wp2_with fail
          exact ⟨⟨2, by omega, rfl, FN.out _ 281474976710656 rfl (by omega)⟩, by simp [intOf]⟩
        · go_wp2_with fail
          exact ⟨⟨3, by omega, rfl, FN.out _ 1099511627776 rfl (by omega)⟩, by simp [intOf]⟩
        · go_wp2_with fail
          exact ⟨⟨4, by omega, rfl, FN.out _ 4294967296 rfl (by omega)⟩, by simp [intOf]⟩
        · go_wp2_with fail
          exact ⟨⟨5, by omega, rfl, FN.out _ 16777216 rfl (by omega)⟩, by simp [intOf]⟩
        · go_wp2_with fail
          exact ⟨⟨6, by omega, rfl, FN.out _ 65536 rfl (by omega)⟩, by simp [intOf]⟩
        · go_wp2_with fail
          exact ⟨⟨7, by omega, rfl, FN.out _ 256 rfl (by omega)⟩, by simp [intOf]⟩
        · go_wp2_with fail
          exact ⟨⟨8, by omega, rfl, FN.out _ 1 rfl (by omega)⟩, by simp [intOf]⟩
      · obtain rfl : t = 8 := by omega
        rw [upB_full] at HN5
        go_wp2_with (first | (refine wpList_load_ro rfl (.tmp 3) rfl rfl row34 HN5.out.ws (by rw [u32s_len, H8.out]) ?_) | (refine wpList_load_ro rfl (.tmp 4) rfl rfl row35 HN5.out.la (by rw [vals_length, List.length_append, ZL.out, bits8_len]) ?_))
        refine (mix_any H8.out (by rw [List.length_append, ZL.out, bits8_len]) (ZB.out.app (bits8_byt _)) _ (HD.out.later HD.out.lt HN5.out.bel)).mono ?_
        rintro e w6 ⟨rfl, hb⟩
        have N6 := Lib.hid (HN5.out.later hb)
        clear hb HN5
        go_wp2_with fail
        refine (bytesOf_any (comp_len _ _) _).mono ?_
        rintro e w7 ⟨rfl, hb⟩
        have N7 := Lib.hid (N6.out.later hb)
        clear hb N6
        rw [SH.out]
        go_wp2_with (refine wpList_store_ro rfl (.tmp 2) (.tmp 43) rfl rfl rfl row26 N7.out.rs (by rw [vals_length]; rfl) (by rw [vals_length]; exact bytesS_len _) (vals_one _) ?_)
        intro w8 R8 g8
        go_wp2_with fail
        exact bodyPost_ret (results_ro Tryz.results106 _ rfl row26 R8 (by rw [vals_length]; exact bytesS_len _)) rfl ⟨rfl, N7.out.bel.grown g8 N7.out.bel.size (fun q e => by injection e; omega)⟩
  · have t1 : decide ((56 : Int) ≤ (r : Int)) = true := decide_eq_true (by omega)
    have hLr : 56 ≤ L.length % 64 := by rw [HN.out, HR.out]; omega
    obtain ⟨H0, hH0⟩ : ∃ H, pieces L (n / 64) = H := ⟨_, rfl⟩
    rw [hH0] at N4
    have H08 : Hid (H0.length = 8) := Lib.hid (by rw [← hH0]; exact pieces_len _ _)
    have SL : Hid (shaS L = bytesS (comp (comp H0 (endB L)) (List.replicate 56 0 ++ bits8 n))) := Lib.hid (by rw [sha_long L hLr, HN.out, hH0])
    rw [hH0]
    clear hH0 hLr
    go_wp2_with (first | (refine wpList_load_ro rfl (.tmp 3) rfl rfl row34 N4.out.1.ws (by rw [u32s_len, H08.out]) ?_) | (refine wpList_load_ro rfl (.tmp 4) rfl rfl row35 N4.out.1.la (by rw [vals_length, endB_len]) ?_))
    refine (mix_any H08.out (endB_len L) (endB_byt HL.out) _ (HD.out.later HD.out.lt N4.out.1.bel)).mono ?_
    rintro e w3 ⟨rfl, hb⟩
    have M3 : Hid (EnA w B C H0 (endB L) w3 ∧ Ro w3 w.heap.size 153 (stV W (partL L) n)) := Lib.hid ⟨N4.out.1.later hb, N4.out.2.later hb⟩
    clear hb N4
    go_wp2_with (refine wpList_store_ro rfl (.tmp 3) (.tmp 22) rfl rfl rfl row34 M3.out.1.ws (by rw [u32s_len, H08.out]) (by rw [u32s_len, comp_len]) (u32s_one _) ?_)
    intro w4 R4 g4
    have M4 : Hid (EnA w B C (comp H0 (endB L)) (endB L) w4 ∧ Ro w4 w.heap.size 153 (stV W (partL L) n)) := Lib.hid ⟨M3.out.1.words LB.out NE.out R4 g4, M3.out.2.far g4 (fun e => by injection e; have := LB.out; omega)⟩
    clear R4 g4 M3
    go_wp2_with (refine wpList_store_ro (vs := vals (List.replicate 64 0)) rfl (.tmp 4) (.tmp 23) rfl rfl rfl row35 M4.out.1.la (by rw [vals_length, endB_len]) (by rw [vals_length]; rfl) (vals_one _) ?_)
    intro w5 R5 g5
    have M5 : Hid (EnA w B C (comp H0 (endB L)) (List.replicate 64 0) w5 ∧ Ro w5 w.heap.size 153 (stV W (partL L) n)) := Lib.hid ⟨M4.out.1.last LC.out NE.out R5 g5, M4.out.2.far g5 (fun e => by injection e; have := LC.out; omega)⟩
    clear R5 g5 M4
    obtain ⟨Z, hZ⟩ : ∃ Z, List.replicate 56 0 = Z := ⟨_, rfl⟩
    obtain ⟨H, hH⟩ : ∃ H, comp H0 (endB L) = H := ⟨_, rfl⟩
    have e64 : List.replicate 64 0 = upB Z n 0 := by rw [← hZ]; rfl
    rw [hZ, hH] at SL
    rw [hH, e64] at M5
    have ZL : Hid (Z.length = 56) := Lib.hid (by rw [← hZ]; rfl)
    have ZB : Hid (AllB Z) := Lib.hid (by rw [← hZ]; exact allB_zeros 56)
    have H8 : Hid (H.length = 8) := Lib.hid (by rw [← hH]; exact comp_len _ _)
    have SH : Hid (bytesS (comp H (Z ++ bits8 n)) = shaS L) := Lib.hid SL.out.symm
    have N5 : Hid (EnA w B C H (upB Z n 0) w5 ∧ Ro w5 w.heap.size 153 (stV W (partL L) n)) := M5
    clear M5 SL hZ hH e64
    have c72 := N5.out.2.stC HW.out.len (partL_len L)
    have wr8 : IntKind.u64.wrap ((n : Int) * 8) = ((n * 8 % 18446744073709551616 : Nat) : Int) := by rw [IntKind.wrap_u64]; omega
    go_wp2_with fail
    go_loopw [27] (fun i wr => ∃ t : Nat, t ≤ 8 ∧ i = .int .i64 (t : Nat) ∧ EnA w B C H (upB Z n t) wr) (fun i _ => 8 - (intOf i).toNat)
    case atStart => exact ⟨0, by omega, rfl, N5.out.1⟩
    case round =>
      clear N5
      obtain ⟨t, ht, rfl, N⟩ := hrel
      have HN5 := Lib.hid N
      clear N
      by_cases hlt : t < 8
      · have ca := HN5.out.la.u8 (k := 56 + t) (by rw [upB_len ZL.out n t ht]; omega)
        have fa := HN5.out.la.free (56 + t)
        have FN : Hid (∀ (V : Int) (D : Nat), D = 2 ^ (56 - 8 * t) → V = ((n * 8 % 18446744073709551616 / D % 256 : Nat) : Int) → EnA w B C H (upB Z n (t + 1)) (wr.setCell ⟨C, 56 + t, none⟩ (.int .u8 V))) := Lib.hid (fun V D hD hV => by
          subst hD
          subst hV
          have h := HN5.out.set LC.out NE.out (56 + t) (n * 8 % 18446744073709551616 / 2 ^ (56 - 8 * t) % 256)
          rwa [upB_next ZL.out n t _ hlt rfl] at h)
        have z8 : t = 0 ∨ t = 1 ∨ t = 2 ∨ t = 3 ∨ t = 4 ∨ t = 5 ∨ t = 6 ∨ t = 7 := by omega
        clear HN5 hlt ht
        rcases z8 with rfl | rfl | rfl | rfl | rfl | rfl | rfl | rfl
        · go_wp2_with fail
          exact ⟨⟨1, by omega, rfl, FN.out _ 72057594037927936 rfl (by omega)⟩, by simp [intOf]⟩
        · go_wp2_with fail
          exact ⟨⟨2, by omega, rfl, FN.out _ 281474976710656 rfl (by omega)⟩, by simp [intOf]⟩
        · go_wp2_with fail
          exact ⟨⟨3, by omega, rfl, FN.out _ 1099511627776 rfl (by omega)⟩, by simp [intOf]⟩
        · go_wp2_with fail
          exact ⟨⟨4, by omega, rfl, FN.out _ 4294967296 rfl (by omega)⟩, by simp [intOf]⟩
        · go_wp2_with fail
          exact ⟨⟨5, by omega, rfl, FN.out _ 16777216 rfl (by omega)⟩, by simp [intOf]⟩
        · go_wp2_with fail
          exact ⟨⟨6, by omega, rfl, FN.out _ 65536 rfl (by omega)⟩, by simp [intOf]⟩
        · go_wp2_with fail
          exact ⟨⟨7, by omega, rfl, FN.out _ 256 rfl (by omega)⟩, by simp [intOf]⟩
        · go_wp2_with fail
          exact ⟨⟨8, by omega, rfl, FN.out _ 1 rfl (by omega)⟩, by simp [intOf]⟩
      · obtain rfl : t = 8 := by omega
        rw [upB_full] at HN5
        go_wp2_with (first | (refine wpList_load_ro rfl (.tmp 3) rfl rfl row34 HN5.out.ws (by rw [u32s_len, H8.out]) ?_) | (refine wpList_load_ro rfl (.tmp 4) rfl rfl row35 HN5.out.la (by rw [vals_length, List.length_append, ZL.out, bits8_len]) ?_))
        refine (mix_any H8.out (by rw [List.length_append, ZL.out, bits8_len]) (ZB.out.app (bits8_byt _)) _ (HD.out.later HD.out.lt HN5.out.bel)).mono ?_
        rintro e w6 ⟨rfl, hb⟩
        have N6 := Lib.hid (HN5.out.later hb)
        clear hb HN5
        go_wp2_with fail
        refine (bytesOf_any (comp_len _ _) _).mono ?_
        rintro e w7 ⟨rfl, hb⟩
        have N7 := Lib.hid (N6.out.later hb)
        clear hb N6
        rw [SH.out]
        go_wp2_with (refine wpList_store_ro rfl (.tmp 2) (.tmp 43) rfl rfl rfl row26 N7.out.rs (by rw [vals_length]; rfl) (by rw [vals_length]; exact bytesS_len _) (vals_one _) ?_)
        intro w8 R8 g8
        go_wp2_with fail
        exact bodyPost_ret (results_ro Tryz.results106 _ rfl row26 R8 (by rw [vals_length]; exact bytesS_len _)) rfl ⟨rfl, N7.out.bel.grown g8 N7.out.bel.size (fun q e => by injection e; omega)⟩
end Go.Proofs.YtjcphpmlekfhdaaGreatDoor

/- The program's sums: of bytes, of the sum. No condition but a bound on the length. -/
namespace Go.Proofs.YtjcphpmlekfhdaaGreatDoor
open Go.RowKit

/-- A value that is a state of the bytes L. -/
def StaV (L : List Nat) (v : Value) : Prop := ∃ W, v = .agg (stV W (partL L) L.length).toArray ∧ WOf L W
theorem StaV.add {L M : List Nat} {v : Value} (h : StaV L v) (hL : AllB L) (hMb : AllB M) (hl : L.length < 1099511627776) (hm : M.length ≤ 1099511627776) (w : World) (hLd : Laid w) {A : Option Addr} {c : Nat} (hA : Bs w A M.length M) (hc : M.length ≤ c) :
    Calls Tryz.prog 105 #[v, .slice A M.length c] w fun e w' => ∃ v', e = .returned v' ∧ StaV (L ++ M) v' ∧ Below w.heap.size w w' := by
  obtain ⟨W, rfl, hW⟩ := h
  refine (sadd_any hW hL hMb hl hm w hLd hA hc).mono ?_
  rintro e w' ⟨W', rfl, h1, h2⟩
  exact ⟨_, rfl, ⟨W', rfl, h1⟩, h2⟩
theorem StaV.end_ {L : List Nat} {v : Value} (h : StaV L v) (hL : AllB L) (hl : L.length < 2199023255552) (w : World) (hLd : Laid w) :
    Calls Tryz.prog 106 #[v] w fun e w' => e = .returned (.agg (vals (shaS L)).toArray) ∧ Below w.heap.size w w' := by
  obtain ⟨W, rfl, hW⟩ := h
  exact end_any hW hL hl w hLd
/-- The state of the bytes L. -/
def stateV (L : List Nat) : Value := .agg (stV (if 64 ≤ L.length then pieces L (L.length / 64) else List.replicate 8 0) (partL L) L.length).toArray
theorem staV_eq {L : List Nat} {v : Value} (h : StaV L v) : v = stateV L := by
  obtain ⟨W, rfl, hW⟩ := h
  unfold stateV
  by_cases h64 : 64 ≤ L.length
  · rw [if_pos h64, hW.val h64]
  · rw [if_neg h64, hW.zer (by omega)]
theorem staV_state (L : List Nat) : StaV L (stateV L) := by
  refine ⟨_, rfl, ?_, fun h => if_pos h, fun h => if_neg (by omega)⟩
  split
  · exact pieces_len _ _
  · rfl
theorem add_st {L M : List Nat} (hL : AllB L) (hMb : AllB M) (hl : L.length < 1099511627776) (hm : M.length ≤ 1099511627776) (w : World) (hLd : Laid w) {A : Option Addr} {c : Nat} (hA : Bs w A M.length M) (hc : M.length ≤ c) :
    Calls Tryz.prog 105 #[stateV L, .slice A M.length c] w fun e w' => e = .returned (stateV (L ++ M)) ∧ Below w.heap.size w w' := by
  refine ((staV_state L).add hL hMb hl hm w hLd hA hc).mono ?_
  rintro e w' ⟨v, rfl, hv, hb⟩
  exact ⟨by rw [staV_eq hv], hb⟩
theorem end_st {L : List Nat} (hL : AllB L) (hl : L.length < 2199023255552) (w : World) (hLd : Laid w) :
    Calls Tryz.prog 106 #[stateV L] w fun e w' => e = .returned (.agg (vals (shaS L)).toArray) ∧ Below w.heap.size w w' := (staV_state L).end_ hL hl w hLd
theorem staV_nil : StaV [] (.agg (stV (List.replicate 8 0) (List.replicate 64 0) 0).toArray) := ⟨List.replicate 8 0, rfl, wOf_nil⟩
theorem shaS_len (L : List Nat) : (shaS L).length = 32 := bytesS_len _
theorem shaS_byt (L : List Nat) : AllB (shaS L) := bytesS_byt _
theorem build38 (w : World) : (Instr.build 153 #[]).run Tryz.prog w = .ok (.agg (stV (List.replicate 8 0) (List.replicate 64 0) 0).toArray) w := by kernel_rfl

set_option maxRecDepth 100000 in
set_option maxHeartbeats 4000000 in
theorem begin_any (w : World) : Calls Tryz.prog 104 #[] w fun e w' => (∃ v, e = .returned v ∧ StaV [] v) ∧ Below w.heap.size w w' := by
  have z0 := zero38
  have z1 := build38
  have R1 := Ro.new w 153 (stV (List.replicate 8 0) (List.replicate 64 0) 0)
  have B1 := (Below.refl w.heap.size w).alloc (Nat.le_refl _) (.cells (stV (List.replicate 8 0) (List.replicate 64 0) 0).toArray 153)
  have HR := Lib.hid R1
  have HB := Lib.hid B1
  clear R1 B1
  go_enter Tryz.func104, Tryz.ntmps104
  go_wp2_with (refine wpList_store_ro (vs := stV (List.replicate 8 0) (List.replicate 64 0) 0) rfl (.tmp 0) (.tmp 1) rfl rfl rfl row38 HR.out (stV_len rfl rfl) (stV_len rfl rfl) (stV_one _ _ _) ?_)
  intro w4 R4 g4
  go_wp2_with fail
  exact bodyPost_ret (results_ro Tryz.results104 _ rfl row38 R4 (stV_len rfl rfl)) rfl ⟨⟨_, rfl, staV_nil⟩, HB.out.grown g4 HB.out.size (fun q e => by injection e; omega)⟩

set_option maxRecDepth 100000 in
set_option maxHeartbeats 4000000 in
theorem shaSum_any {M : List Nat} (hMb : AllB M) (hm : M.length ≤ 1099511627776) (w : World) (hLd : Laid w) {A : Option Addr} {c : Nat} (hA : Bs w A M.length M) (hc : M.length ≤ c) :
    Calls Tryz.prog 102 #[.slice A M.length c] w fun e w' => e = .returned (.agg (vals (shaS M)).toArray) ∧ Below w.heap.size w w' := by
  have R1 := Lib.hid (Ro.new w 145 (vals (List.replicate 32 0)))
  have B1 := Lib.hid ((Below.refl w.heap.size w).alloc (Nat.le_refl _) (.cells (vals (List.replicate 32 0)).toArray 145))
  have HD := Lib.hid hLd
  have HA := Lib.hid hA
  have HM := Lib.hid hMb
  have HL := Lib.hid hm
  clear hLd hA hMb hm
  obtain ⟨m, hmm⟩ : ∃ m, M.length = m := ⟨_, rfl⟩
  rw [hmm] at hc ⊢
  have HN := Lib.hid hmm
  clear hmm
  have CA : Hid (∀ v w1, StaV [] v → Below w.heap.size w w1 → Calls Tryz.prog 105 #[v, .slice A m c] w1 fun e w' => ∃ v', e = .returned v' ∧ StaV M v' ∧ Below w1.heap.size w1 w') := Lib.hid (fun v w1 h1 h2 => by
    have h := h1.add allB_nil HM.out (by decide) HL.out w1 (HD.out.later HD.out.lt h2) (HA.out.later h2) (c := c) (by rw [HN.out]; exact hc)
    rw [HN.out] at h
    exact h)
  go_enter Tryz.func102, Tryz.ntmps102
  go_wp2_with fail
  refine (begin_any _).mono ?_
  rintro e w2 ⟨⟨v, rfl, hv⟩, hb⟩
  have R2 := Lib.hid (R1.out.later hb)
  have B2 := Lib.hid (B1.out.trans (hb.mono B1.out.size))
  have HV := Lib.hid hv
  clear hb R1 B1 hv
  go_wp2_with fail
  refine (CA.out v _ HV.out B2.out).mono ?_
  rintro e w3 ⟨v', rfl, hv, hb⟩
  have R3 := Lib.hid (R2.out.later hb)
  have B3 := Lib.hid (B2.out.trans (hb.mono B2.out.size))
  have HV' := Lib.hid hv
  clear hb R2 B2 hv
  go_wp2_with fail
  refine (HV'.out.end_ HM.out (by have := HL.out; omega) _ (HD.out.later HD.out.lt B3.out)).mono ?_
  rintro e w4 ⟨rfl, hb⟩
  have R4 := Lib.hid (R3.out.later hb)
  have B4 := Lib.hid (B3.out.trans (hb.mono B3.out.size))
  clear hb R3 B3
  go_wp2_with (refine wpList_store_ro rfl (.tmp 2) (.tmp 6) rfl rfl rfl row26 R4.out (by rw [vals_length]; rfl) (by rw [vals_length]; exact shaS_len _) (vals_one _) ?_)
  intro w5 R5 g5
  go_wp2_with fail
  exact bodyPost_ret (results_ro Tryz.results102 _ rfl row26 R5 (by rw [vals_length]; exact shaS_len _)) rfl ⟨rfl, B4.out.grown g5 B4.out.size (fun q e => by injection e; omega)⟩

theorem begin_st (w : World) : Calls Tryz.prog 104 #[] w fun e w' => e = .returned (stateV []) ∧ Below w.heap.size w w' := by
  refine (begin_any w).mono ?_
  rintro e w' ⟨⟨v, rfl, hv⟩, hb⟩
  exact ⟨by rw [staV_eq hv], hb⟩
/-- A row of bytes as a slice. -/
theorem Ro.bs {w : World} {b : Nat} {T : TypeId} {H : List Nat} (R : Ro w b T (vals H)) (hb : AllB H) : Bs w (some ⟨b, 0, none⟩) H.length H := by
  refine ⟨rfl, hb, fun _ => ⟨_, rfl, R.lt, fun k hk => ?_⟩⟩
  have e : (⟨b, 0, none⟩ : Addr).add k = ⟨b, k, none⟩ := by unfold Addr.add; split <;> simp_all
  rw [e]
  exact R.u8 hk

set_option maxRecDepth 100000 in
set_option maxHeartbeats 4000000 in
theorem shaTwice_any {M : List Nat} (hMb : AllB M) (hm : M.length ≤ 1099511627776) (w : World) (hLd : Laid w) {A : Option Addr} {c : Nat} (hA : Bs w A M.length M) (hc : M.length ≤ c) :
    Calls Tryz.prog 96 #[.slice A M.length c] w fun e w' => e = .returned (.agg (vals (shaS (shaS M))).toArray) ∧ Below w.heap.size w w' := by
  have R1 := Lib.hid (Ro.new w 145 (vals (List.replicate 32 0)))
  have B1 := Lib.hid ((Below.refl w.heap.size w).alloc (Nat.le_refl _) (.cells (vals (List.replicate 32 0)).toArray 145))
  have HD := Lib.hid hLd
  have CA : Hid (∀ w1, Below w.heap.size w w1 → Calls Tryz.prog 102 #[.slice A M.length c] w1 fun e w' => e = .returned (.agg (vals (shaS M)).toArray) ∧ Below w1.heap.size w1 w') := Lib.hid (fun w1 h => shaSum_any hMb hm w1 (hLd.later hLd.lt h) (hA.later h) hc)
  clear hLd hA hMb hm
  obtain ⟨m, hmm⟩ : ∃ m, M.length = m := ⟨_, rfl⟩
  rw [hmm] at hc CA ⊢
  clear hmm
  go_enter Tryz.func96, Tryz.ntmps96
  go_wp2_with fail
  refine (CA.out _ B1.out).mono ?_
  rintro e w2 ⟨rfl, hb⟩
  have R2 := Lib.hid (R1.out.later hb)
  have B2 := Lib.hid (B1.out.trans (hb.mono B1.out.size))
  clear hb R1 B1 CA
  obtain ⟨H, hH⟩ : ∃ H, shaS M = H := ⟨_, rfl⟩
  have H32 : Hid (H.length = 32) := Lib.hid (by rw [← hH]; exact shaS_len M)
  have HB : Hid (AllB H) := Lib.hid (by rw [← hH]; exact shaS_byt M)
  rw [hH]
  have HH := Lib.hid hH
  clear hH
  have N2 := Ro.new w2 145 (vals (List.replicate 32 0))
  have SM := Lib.hid ((Below.refl w2.heap.size w2).alloc (Nat.le_refl _) (.cells (vals (List.replicate 32 0)).toArray 145))
  go_wp2_with (refine wpList_store_ro rfl (.tmp 3) (.tmp 5) rfl rfl rfl row26 N2 (by rw [vals_length]; rfl) (by rw [vals_length]; exact H32.out) (vals_one _) ?_)
  intro w3 R3 g3
  have N3 := Lib.hid R3
  have Q3 := Lib.hid ((R2.out.later SM.out).far g3 (fun e => by injection e; have := R2.out.lt; omega))
  have B3 := Lib.hid ((B2.out.trans (SM.out.mono B2.out.size)).grown g3 (by have := B2.out.size; simp; omega) (fun q e => by injection e; have := B2.out.size; omega))
  clear R3 g3 R2 B2 SM N2
  have CB : Hid (Calls Tryz.prog 102 #[.slice (some ⟨w2.heap.size, 0, none⟩) 32 32] w3 fun e w' => e = .returned (.agg (vals (shaS H)).toArray) ∧ Below w3.heap.size w3 w') := Lib.hid (by
    have h := shaSum_any HB.out (by rw [H32.out]; omega) w3 (HD.out.later HD.out.lt B3.out) (c := 32) (N3.out.bs HB.out) (by rw [H32.out]; omega)
    rwa [H32.out] at h)
  go_wp2_with fail
  refine CB.out.mono ?_
  rintro e w4 ⟨rfl, hb⟩
  have R4 := Lib.hid (Q3.out.later hb)
  have B4 := Lib.hid (B3.out.trans (hb.mono B3.out.size))
  clear hb Q3 B3 CB
  go_wp2_with (refine wpList_store_ro rfl (.tmp 2) (.tmp 7) rfl rfl rfl row26 R4.out (by rw [vals_length]; rfl) (by rw [vals_length]; exact shaS_len _) (vals_one _) ?_)
  intro w5 R5 g5
  go_wp2_with fail
  exact bodyPost_ret (results_ro Tryz.results96 _ rfl row26 R5 (by rw [vals_length]; exact shaS_len _)) rfl ⟨by rw [HH.out], B4.out.grown g5 B4.out.size (fun q e => by injection e; omega)⟩
end Go.Proofs.YtjcphpmlekfhdaaGreatDoor

/- A vault's bytes: numbers, heads, frames, and what stands in a file. No memory. No condition. -/
namespace Go.Proofs.YtjcphpmlekfhdaaGreatDoor

/-- The check of bytes. -/
def chkS (L : List Nat) : List Nat := shaS (shaS L)
theorem chkS_len (L : List Nat) : (chkS L).length = 32 := shaS_len _
theorem chkS_byt (L : List Nat) : AllB (chkS L) := shaS_byt _
def frontS (g n : Nat) : List Nat := (lw 8 g ++ lw 4 n) ++ chkS (lw 8 g ++ lw 4 n)
theorem frontS_len (g n : Nat) : (frontS g n).length = 44 := by
  unfold frontS
  simp only [List.length_append, lw_len, chkS_len]
def bodyS (r : List Nat) : List Nat := lw 4 r.length ++ r
/-- The check of the k-th frame. -/
def fchkS (g k : Nat) (b : List Nat) : List Nat := chkS ((lw 8 g ++ lw 8 k) ++ b)
def frameS (g k : Nat) (r : List Nat) : List Nat := bodyS r ++ fchkS g k (bodyS r)
theorem frameS_len (g k : Nat) (r : List Nat) : (frameS g k r).length = 36 + r.length := by
  unfold frameS bodyS fchkS
  simp only [List.length_append, lw_len, chkS_len]
  omega
def framesS (g : Nat) : Nat → List (List Nat) → List Nat
  | _, [] => []
  | k, r :: l => frameS g k r ++ framesS g (k + 1) l
theorem framesS_app (g : Nat) : ∀ (k : Nat) (l m : List (List Nat)), framesS g k (l ++ m) = framesS g k l ++ framesS g (k + l.length) m
  | k, [], m => by simp [framesS]
  | k, r :: l, m => by
    rw [List.cons_append, framesS, framesS_app g (k + 1) l m, framesS, List.append_assoc, List.length_cons, show k + 1 + l.length = k + (l.length + 1) by omega]
/-- How many bytes frames have. -/
def wideS (l : List (List Nat)) : Nat := (l.map fun r => 36 + r.length).sum
theorem framesS_len (g : Nat) : ∀ (k : Nat) (l : List (List Nat)), (framesS g k l).length = wideS l
  | _, [] => rfl
  | k, r :: l => by
    rw [framesS, List.length_append, frameS_len, framesS_len g (k + 1) l]
    simp [wideS]
/-- The record whose frame stands whole at the front. -/
def firstS (g k : Nat) (s : List Nat) : Option (List Nat) :=
  if s.length < 36 then none
  else if 32768 < num (s.take 4) ∨ s.length < num (s.take 4) + 36 then none
  else if fchkS g k (s.take (4 + num (s.take 4))) = (s.drop (4 + num (s.take 4))).take 32 then some ((s.drop 4).take (num (s.take 4)))
  else none
theorem firstS_len {g k : Nat} {s r : List Nat} (h : firstS g k s = some r) : 36 + r.length ≤ s.length ∧ r.length ≤ 32768 ∧ r.length = num (s.take 4) := by
  unfold firstS at h
  split at h
  · cases h
  · split at h
    · cases h
    · split at h
      · injection h with h
        subst h
        have e : ((s.drop 4).take (num (s.take 4))).length = num (s.take 4) := by rw [List.length_take, List.length_drop]; omega
        rw [e]
        omega
      · cases h
def wholeS (g : Nat) : Nat → Nat → List Nat → List (List Nat)
  | 0, _, _ => []
  | f + 1, k, s => match firstS g k s with
    | none => []
    | some r => r :: wholeS g f (k + 1) (s.drop (36 + r.length))
/-- The records of frames that stand whole. -/
def recsS (g : Nat) (s : List Nat) : List (List Nat) := wholeS g s.length 0 s
theorem wholeS_fuel (g : Nat) : ∀ (f f' k : Nat) (s : List Nat), s.length ≤ f → s.length ≤ f' → wholeS g f k s = wholeS g f' k s
  | 0, 0, _, _, _, _ => rfl
  | 0, f' + 1, k, s, h, _ => by
    have e : firstS g k s = none := by unfold firstS; rw [if_pos (by omega)]
    rw [wholeS, wholeS, e]
  | f + 1, 0, k, s, _, h => by
    have e : firstS g k s = none := by unfold firstS; rw [if_pos (by omega)]
    rw [wholeS, wholeS, e]
  | f + 1, f' + 1, k, s, h, h' => by
    rw [wholeS, wholeS]
    cases e : firstS g k s with
    | none => rfl
    | some r =>
      have := (firstS_len e).1
      simp only
      rw [wholeS_fuel g f f' (k + 1) (s.drop (36 + r.length)) (by rw [List.length_drop]; omega) (by rw [List.length_drop]; omega)]
theorem wide_whole (g : Nat) : ∀ (f k : Nat) (s : List Nat), wideS (wholeS g f k s) ≤ s.length
  | 0, _, _ => Nat.zero_le _
  | f + 1, k, s => by
    rw [wholeS]
    cases e : firstS g k s with
    | none => exact Nat.zero_le _
    | some r =>
      have h1 := (firstS_len e).1
      have h2 := wide_whole g f (k + 1) (s.drop (36 + r.length))
      rw [List.length_drop] at h2
      simp only [wideS, List.map_cons, List.sum_cons] at h2 ⊢
      omega
theorem take_app_le {α : Type} {L M : List α} {n : Nat} (h : n ≤ L.length) : (L ++ M).take n = L.take n := by
  rw [List.take_append, show n - L.length = 0 by omega]; simp
theorem take_app_eq {α : Type} {L M : List α} {n : Nat} (h : L.length = n) : (L ++ M).take n = L := by
  rw [take_app_le (by omega), List.take_of_length_le (by omega)]
theorem drop_app_eq {α : Type} {L M : List α} {n : Nat} (h : L.length = n) : (L ++ M).drop n = M := by
  rw [← h, List.drop_left]
theorem num_head (r t : List Nat) (hr : r.length ≤ 32768) : num ((bodyS r ++ t).take 4) = r.length := by
  unfold bodyS
  rw [List.append_assoc, take_app_eq (lw_len 4 _), num_lw 4 _ (by omega)]
/-- A frame that stands whole is found. -/
theorem firstS_frame {g k : Nat} {r t : List Nat} (hr : r.length ≤ 32768) : firstS g k (frameS g k r ++ t) = some r := by
  have hl := frameS_len g k r
  have hn : num ((frameS g k r ++ t).take 4) = r.length := by
    unfold frameS
    rw [List.append_assoc]
    exact num_head r _ hr
  have hb : (bodyS r).length = 4 + r.length := by unfold bodyS; rw [List.length_append, lw_len]
  unfold firstS
  rw [hn, if_neg (by rw [List.length_append]; omega), if_neg (by rw [List.length_append]; omega)]
  have e1 : (frameS g k r ++ t).take (4 + r.length) = bodyS r := by
    unfold frameS
    rw [List.append_assoc, take_app_eq hb]
  have e2 : (frameS g k r ++ t).drop (4 + r.length) = fchkS g k (bodyS r) ++ t := by
    unfold frameS
    rw [List.append_assoc, drop_app_eq hb]
  rw [e1, e2, take_app_eq (show (fchkS g k (bodyS r)).length = 32 from chkS_len _), if_pos rfl]
  congr 1
  unfold frameS bodyS
  rw [List.append_assoc, List.append_assoc, drop_app_eq (lw_len 4 _), take_app_eq rfl]
/-- Of a frame that is cut nothing is found. -/
theorem firstS_cut {g k : Nat} {r : List Nat} {m : Nat} (hr : r.length ≤ 32768) (hm : m < 36 + r.length) : firstS g k ((frameS g k r).take m) = none := by
  have hl := frameS_len g k r
  have hlen : ((frameS g k r).take m).length = m := by rw [List.length_take]; omega
  unfold firstS
  rw [hlen]
  by_cases h : m < 36
  · rw [if_pos h]
  · rw [if_neg h, if_pos]
    refine .inr ?_
    rw [List.take_take, Nat.min_eq_left (by omega)]
    have := num_head r (fchkS g k (bodyS r)) hr
    unfold frameS
    rw [this]
    omega
theorem wholeS_frames (g : Nat) : ∀ (l : List (List Nat)) (k f : Nat) (t : List Nat), (∀ r ∈ l, r.length ≤ 32768) → (framesS g k l ++ t).length ≤ f → wholeS g f k (framesS g k l ++ t) = l ++ wholeS g f (k + l.length) t
  | [], k, f, t, _, _ => by simp [framesS]
  | r :: l, k, 0, t, _, h => by
    rw [framesS, List.length_append, List.length_append, frameS_len] at h
    omega
  | r :: l, k, f + 1, t, hr, h => by
    rw [framesS, List.append_assoc, wholeS, firstS_frame (hr r (List.mem_cons_self ..))]
    simp only
    rw [drop_app_eq (frameS_len g k r), wholeS_frames g l (k + 1) f t (fun x hx => hr x (List.mem_cons_of_mem _ hx)) (by
      rw [framesS, List.append_assoc, List.length_append, frameS_len] at h
      omega), List.cons_append, List.length_cons, show k + 1 + l.length = k + (l.length + 1) by omega]
    congr 2
    refine wholeS_fuel g f (f + 1) _ t ?_ ?_ <;> (rw [framesS, List.append_assoc, List.length_append, frameS_len, List.length_append] at h; omega)
/-- Of frames that are cut anywhere those that are whole are found. -/
theorem wholeS_cut (g : Nat) : ∀ (l : List (List Nat)) (k f m : Nat), (∀ r ∈ l, r.length ≤ 32768) → m ≤ f → ∃ j, j ≤ l.length ∧ wholeS g f k ((framesS g k l).take m) = l.take j ∧ wideS (l.take j) ≤ m ∧ (m < wideS l → j < l.length ∧ m < wideS (l.take (j + 1))) ∧ (wideS l ≤ m → j = l.length)
  | [], k, f, m, _, _ => by
    refine ⟨0, Nat.le_refl _, ?_, Nat.zero_le _, fun h => absurd h (Nat.not_lt_zero _), fun _ => rfl⟩
    rw [framesS, List.take_nil]
    cases f with
    | zero => rfl
    | succ f => rw [wholeS]; rfl
  | r :: l, k, f, m, hr, hf => by
    have h0 := hr r (List.mem_cons_self ..)
    have hl := frameS_len g k r
    have hw : wideS (r :: l) = 36 + r.length + wideS l := by simp [wideS]
    by_cases hm : m < 36 + r.length
    · refine ⟨0, Nat.zero_le _, ?_, Nat.zero_le _, fun _ => ⟨by simp, by simp [wideS]; omega⟩, fun h => by omega⟩
      rw [framesS, take_app_le (by omega)]
      cases f with
      | zero => rfl
      | succ f => rw [wholeS, firstS_cut h0 hm]; rfl
    · obtain ⟨f, rfl⟩ : ∃ q, f = q + 1 := ⟨f - 1, by omega⟩
      obtain ⟨j, j1, j2, j3, j4, j5⟩ := wholeS_cut g l (k + 1) f (m - (36 + r.length)) (fun x hx => hr x (List.mem_cons_of_mem _ hx)) (by omega)
      have e : (framesS g k (r :: l)).take m = frameS g k r ++ (framesS g (k + 1) l).take (m - (36 + r.length)) := by
        rw [framesS, List.take_append, List.take_of_length_le (by omega), hl]
      refine ⟨j + 1, by simpa using j1, ?_, ?_, fun h => ?_, fun h => ?_⟩
      · rw [e, wholeS, firstS_frame h0]
        simp only
        rw [drop_app_eq hl, j2]
        rfl
      · rw [List.take_succ_cons]
        simp only [wideS, List.map_cons, List.sum_cons] at j3 ⊢
        omega
      · obtain ⟨a1, a2⟩ := j4 (by omega)
        refine ⟨by simpa using a1, ?_⟩
        rw [List.take_succ_cons]
        simp only [wideS, List.map_cons, List.sum_cons] at a2 ⊢
        omega
      · rw [j5 (by omega)]; rfl
/-- What stands in the file f: the generation, its records, how many bytes are good; none, if it is not sound. -/
def soundS (f : Nat) (s : List Nat) : Option (Nat × List (List Nat) × Nat) :=
  if s.length < 44 then none
  else if chkS (s.take 12) ≠ (s.drop 12).take 32 then none
  else if num (s.take 8) < 1 ∨ 4611686018427387904 < num (s.take 8) ∨ num (s.take 8) % 2 ≠ f then none
  else if (recsS (num (s.take 8)) (s.drop 44)).length < num ((s.drop 8).take 4) then none
  else some (num (s.take 8), recsS (num (s.take 8)) (s.drop 44), 44 + wideS (recsS (num (s.take 8)) (s.drop 44)))
theorem soundS_front {f g n : Nat} {t : List Nat} (h1 : 1 ≤ g) (h2 : g ≤ 4611686018427387904) (h3 : g % 2 = f) (h4 : n < 4294967296) :
    soundS f (frontS g n ++ t) = if (recsS g t).length < n then none else some (g, recsS g t, 44 + wideS (recsS g t)) := by
  have hl := frontS_len g n
  have e0 : (lw 8 g ++ lw 4 n).length = 12 := by rw [List.length_append, lw_len, lw_len]
  have e1 : (frontS g n ++ t).take 12 = lw 8 g ++ lw 4 n := by
    unfold frontS
    rw [List.append_assoc, take_app_eq e0]
  have e2 : (frontS g n ++ t).drop 12 = chkS (lw 8 g ++ lw 4 n) ++ t := by
    unfold frontS
    rw [List.append_assoc, drop_app_eq e0]
  have e3 : (frontS g n ++ t).take 8 = lw 8 g := by
    unfold frontS
    rw [List.append_assoc, List.append_assoc, take_app_eq (lw_len 8 g)]
  have e4 : ((frontS g n ++ t).drop 8).take 4 = lw 4 n := by
    unfold frontS
    rw [List.append_assoc, List.append_assoc, drop_app_eq (lw_len 8 g), take_app_eq (lw_len 4 n)]
  have e5 : (frontS g n ++ t).drop 44 = t := drop_app_eq hl
  unfold soundS
  rw [e1, e2, e3, e4, e5, num_lw 8 g (by omega), num_lw 4 n (by omega), take_app_eq (chkS_len _), if_neg (by rw [List.length_append]; omega), if_neg (fun h => h rfl), if_neg (by omega)]
theorem soundS_short {f : Nat} {s : List Nat} (h : s.length < 44) : soundS f s = none := if_pos h
theorem recsS_frames {g : Nat} {l : List (List Nat)} (hr : ∀ r ∈ l, r.length ≤ 32768) : recsS g (framesS g 0 l) = l := by
  have h := wholeS_frames g l 0 (framesS g 0 l).length [] hr (by rw [List.append_nil]; exact Nat.le_refl _)
  rw [List.append_nil] at h
  unfold recsS
  rw [h]
  have e : wholeS g (framesS g 0 l).length (0 + l.length) [] = [] := by
    cases (framesS g 0 l).length with
    | zero => rfl
    | succ f => rw [wholeS]; rfl
  rw [e, List.append_nil]
end Go.Proofs.YtjcphpmlekfhdaaGreatDoor

/- A vault's check, head and frames as bytes. No condition but bounds on the lengths. -/
namespace Go.Proofs.YtjcphpmlekfhdaaGreatDoor
open Go.RowKit

section
variable {w0 w : World}
/-- What gives bytes that are read alone. -/
def GivesR (w : World) (L : List Nat) (e : Ending) (W : World) : Prop := ∃ A n c, e = .returned (.slice A n c) ∧ n ≤ c ∧ c ≤ 9223372036854775807 ∧ Bs W A n L ∧ Below w.heap.size w W
set_option maxRecDepth 100000 in
theorem check_any {A : Option Addr} {n c : Nat} {L : List Nat} (w : World) (hLd : Laid w) (hL : Bs w A n L) (hn : n ≤ 1099511627776) (hc : n ≤ c) :
    Calls Tryz.prog 71 #[.slice A n c] w (GivesR w (chkS L)) := by
  have hl := hL.len
  subst hl
  have CT := Lib.hid (shaTwice_any hL.byt hn w hLd hL hc)
  rw [show shaS (shaS L) = chkS L from rfl] at CT
  have h32 := Lib.hid (chkS_len L)
  have hby := Lib.hid (chkS_byt L)
  obtain ⟨H, hH⟩ : ∃ H, chkS L = H := ⟨_, rfl⟩
  rw [hH] at CT h32 hby ⊢
  clear hLd hL hH
  go_enter Tryz.func71, Tryz.ntmps71
  go_wp2_with fail
  refine (CT.out).mono ?_
  rintro e w1 ⟨rfl, b1⟩
  have B1 := Lib.hid b1
  clear b1
  have R1 := Lib.hid (Ro.new w1 145 (vals (List.replicate 32 0)))
  have B2 := Lib.hid ((Below.refl w1.heap.size w1).alloc (Nat.le_refl _) (.cells (vals (List.replicate 32 0)).toArray 145))
  go_wp2_with (refine wpList_store_ro rfl (.tmp 3) (.tmp 5) rfl rfl rfl row26 R1.out (by rw [vals_length]; rfl) (by rw [vals_length]; exact h32.out) (vals_one _) ?_)
  intro w3 R3 g3
  have HR3 := Lib.hid R3
  have B3 := Lib.hid (B1.out.trans ((B2.out.grown g3 B2.out.size (fun q e => by injection e; omega)).mono B1.out.size))
  clear R3 g3
  go_wp2_with fail
  go_ret
  have hb := HR3.out.bs hby.out
  rw [h32.out] at hb
  exact ⟨_, _, _, rfl, Nat.le_refl _, by decide, hb, B3.out⟩
/-- Slices as the elements of a literal. -/
theorem lit_each {w : World} : ∀ {vs : List Value} {l : List (List Nat)}, vs.length = l.length → (∀ k, k < l.length → ∃ A c, vs[k]? = some (.slice A (l.getD k []).length c) ∧ ((l.getD k []).length ≤ c ∧ (l.getD k []).length ≤ 140737488351232) ∧ c ≤ 9223372036854775807 ∧ Bs w A (l.getD k []).length (l.getD k [])) → Each 1 (ByR w anyP) vs l
  | [], [], _, _ => .nil
  | v :: vs, x :: l, hl, h => by
    obtain ⟨A, c, e, h1, h2, h3⟩ := h 0 (by simp)
    simp only [List.getElem?_cons_zero, Option.some.injEq] at e
    have := Each.cons (V := [v]) (sz := 1) (R := ByR w anyP) rfl ⟨A, c, by rw [e], h1, h2, h3.p⟩ (lit_each (vs := vs) (l := l) (by simpa using hl) fun k hk => by
      have := h (k + 1) (by simpa using hk)
      simpa using this)
    exact this
theorem lit_rows {w : World} {q : Nat} {T : TypeId} {vs : List Value} {l : List (List Nat)} (R : Ro w q T vs) (h : Each 1 (ByR w anyP) vs l) : Rows w anyP 1 ByR (some ⟨q, 0, none⟩) l.length l :=
  ⟨rfl, fun _ => ⟨q, 0, vs, rfl, R.lt, trivial, fun j v hj => by rw [Nat.zero_add]; exact R.cell hj, h⟩⟩
theorem lit_two {w : World} {q : Nat} {T : TypeId} {A1 A2 : Option Addr} {n1 n2 c1 c2 : Nat} {L M : List Nat} (R : Ro w q T [.slice A1 n1 c1, .slice A2 n2 c2]) (h1 : Bs w A1 n1 L) (k1 : n1 ≤ c1 ∧ n1 ≤ 140737488351232) (m1 : c1 ≤ 9223372036854775807) (h2 : Bs w A2 n2 M) (k2 : n2 ≤ c2 ∧ n2 ≤ 140737488351232) (m2 : c2 ≤ 9223372036854775807) : Rows w anyP 1 ByR (some ⟨q, 0, none⟩) 2 [L, M] := by
  have e1 := h1.len
  have e2 := h2.len
  subst e1 e2
  exact lit_rows R (Each.cons (V := [.slice A1 L.length c1]) rfl ⟨A1, c1, rfl, k1, m1, h1.p⟩ (Each.cons (V := [.slice A2 M.length c2]) rfl ⟨A2, c2, rfl, k2, m2, h2.p⟩ .nil))
theorem lit_three {w : World} {q : Nat} {T : TypeId} {A1 A2 A3 : Option Addr} {n1 n2 n3 c1 c2 c3 : Nat} {L M N : List Nat} (R : Ro w q T [.slice A1 n1 c1, .slice A2 n2 c2, .slice A3 n3 c3]) (h1 : Bs w A1 n1 L) (k1 : n1 ≤ c1 ∧ n1 ≤ 140737488351232) (m1 : c1 ≤ 9223372036854775807) (h2 : Bs w A2 n2 M) (k2 : n2 ≤ c2 ∧ n2 ≤ 140737488351232) (m2 : c2 ≤ 9223372036854775807) (h3 : Bs w A3 n3 N) (k3 : n3 ≤ c3 ∧ n3 ≤ 140737488351232) (m3 : c3 ≤ 9223372036854775807) : Rows w anyP 1 ByR (some ⟨q, 0, none⟩) 3 [L, M, N] := by
  have e1 := h1.len
  have e2 := h2.len
  have e3 := h3.len
  subst e1 e2 e3
  exact lit_rows R (Each.cons (V := [.slice A1 L.length c1]) rfl ⟨A1, c1, rfl, k1, m1, h1.p⟩ (Each.cons (V := [.slice A2 M.length c2]) rfl ⟨A2, c2, rfl, k2, m2, h2.p⟩ (Each.cons (V := [.slice A3 N.length c3]) rfl ⟨A3, c3, rfl, k3, m3, h3.p⟩ .nil)))
/-- A row of the call's own has a capacity that an int holds. -/
theorem Own.cap {w0 wr : World} {A : Option Addr} {n c : Nat} {L : List Nat} (h : Own w0 (.slice A n c) n L wr) : c ≤ 9223372036854775807 := by
  rcases h.row.2 with ⟨e, _⟩ | ⟨g, cap, cur, e, _, _, _, hm, _⟩
  · injection e with _ _ e3
    omega
  · injection e with _ _ e3
    unfold maxLen at hm
    omega
theorem Below.both {w w1 w2 : World} (a : Below w.heap.size w w1) (b : Below w1.heap.size w1 w2) : Below w.heap.size w w2 := a.trans (b.mono a.size)
set_option maxRecDepth 100000 in
set_option maxHeartbeats 400000 in
theorem head_any {g n : Nat} (w : World) (hLd : Laid w) (hg : g < 18446744073709551616) (hn : n < 4294967296) :
    Calls Tryz.prog 47 #[.int .u64 (g : Nat), .int .i64 (n : Nat)] w (GivesB w (frontS g n)) := by
  have HD := Lib.hid hLd
  have CN1 := Lib.hid (number_any (k := 8) hg (by decide) w)
  clear hLd
  go_enter Tryz.func47, Tryz.ntmps47
  go_wp2_with fail
  refine (CN1.out).mono ?_
  rintro e w1 ⟨A1, n1, c1, rfl, hc1, O1⟩
  have k1 := O1.len
  rw [lw_len] at k1
  subst k1
  have m1 := O1.cap
  have HO1 := Lib.hid O1
  clear O1 CN1
  go_wp2_with fail
  refine (number_any (k := 4) (n := n) (by omega) (by decide) w1).mono ?_
  rintro e w2 ⟨A2, n2, c2, rfl, hc2, O2⟩
  have k2 := O2.len
  rw [lw_len] at k2
  subst k2
  have m2 := O2.cap
  have HB2 := Lib.hid (Below.both HO1.out.bel O2.bel)
  have S1 := Lib.hid (HO1.out.reads.later O2.bel)
  have S2 := Lib.hid O2.reads
  clear O2 HO1
  have RR := Lib.hid (Ro.new w2 40 [.slice A1 8 c1, .slice A2 4 c2])
  have BB := Lib.hid ((Below.refl w2.heap.size w2).alloc (Nat.le_refl _) (.cells #[.slice A1 8 c1, .slice A2 4 c2] 40))
  have CC := Lib.hid (concat_any (c := 2) _ (by decide) (lit_two RR.out (S1.out.later BB.out) ⟨hc1, by omega⟩ m1 (S2.out.later BB.out) ⟨hc2, by omega⟩ m2) (by simp [lw_len]) (by simp [lw_len]))
  have e0 : [lw 8 g, lw 4 n].flatten = lw 8 g ++ lw 4 n := by simp
  rw [e0] at CC
  clear e0
  go_wp2_with fail
  refine (CC.out).mono ?_
  rintro e w3 ⟨A3, n3, c3, rfl, hc3, O3⟩
  have k3 := O3.len
  rw [List.length_append, lw_len, lw_len] at k3
  subst k3
  have HO3 := Lib.hid (O3.weaken (Below.both HB2.out BB.out))
  clear O3 CC RR
  have CK := Lib.hid (check_any (c := c3) w3 (HD.out.later HD.out.lt HO3.out.bel) HO3.out.reads (by omega) hc3)
  go_wp2_with fail
  refine (CK.out).mono ?_
  rintro e w4 ⟨A4, n4, c4, rfl, hc4, _, hb4, b4⟩
  have k4 := hb4.len
  rw [chkS_len] at k4
  subst k4
  have HO4 := Lib.hid (HO3.out.later b4)
  have HB4 := Lib.hid hb4
  clear hb4 b4 CK HO3
  have hle : 8 + 4 + 32 ≤ 1099511627776 := by omega
  go_wp2_with (at_builtin; refine wpList_app rfl (.tmp 13) (.tmp 15) rfl rfl HO4.out rfl HB4.out hle ?_)
  intro A5 c5 w5 h1 h2 _
  have H2 := Lib.hid h2
  clear h2
  go_wp2_with fail
  go_ret
  have e : frontS g n = lw 8 g ++ (lw 4 n ++ chkS (lw 8 g ++ lw 4 n)) := by unfold frontS; rw [List.append_assoc]
  rw [e]
  exact ⟨_, _, _, rfl, h1, H2.out⟩
set_option maxRecDepth 100000 in
set_option maxHeartbeats 400000 in
theorem frameCheck_any {g k : Nat} {A : Option Addr} {m c : Nat} {L : List Nat} (w : World) (hLd : Laid w) (hg : g < 18446744073709551616) (hk : k < 9223372036854775808) (hL : Bs w A m L) (hm : m ≤ 1073741824) (hc : m ≤ c) (hcm : c ≤ 9223372036854775807) :
    Calls Tryz.prog 98 #[.int .u64 (g : Nat), .int .i64 (k : Nat), .slice A m c] w (GivesR w (fchkS g k L)) := by
  have HD := Lib.hid hLd
  have HL := Lib.hid hL
  have HN := Lib.hid hL.len
  have CN1 := Lib.hid (number_any (k := 8) hg (by decide) w)
  clear hLd hL
  go_enter Tryz.func98, Tryz.ntmps98
  go_wp2_with fail
  refine (CN1.out).mono ?_
  rintro e w1 ⟨A1, n1, c1, rfl, hc1, O1⟩
  have k1 := O1.len
  rw [lw_len] at k1
  subst k1
  have m1 := O1.cap
  have HO1 := Lib.hid O1
  clear O1 CN1
  go_wp2_with fail
  refine (number_any (k := 8) (n := k) (by omega) (by decide) w1).mono ?_
  rintro e w2 ⟨A2, n2, c2, rfl, hc2, O2⟩
  have k2 := O2.len
  rw [lw_len] at k2
  subst k2
  have m2 := O2.cap
  have HB2 := Lib.hid (Below.both HO1.out.bel O2.bel)
  have S1 := Lib.hid (HO1.out.reads.later O2.bel)
  have S2 := Lib.hid O2.reads
  have S3 := Lib.hid (HL.out.later HB2.out)
  clear O2 HO1
  have RR := Lib.hid (Ro.new w2 40 [.slice A1 8 c1, .slice A2 8 c2, .slice A m c])
  have BB := Lib.hid ((Below.refl w2.heap.size w2).alloc (Nat.le_refl _) (.cells #[.slice A1 8 c1, .slice A2 8 c2, .slice A m c] 40))
  have e0 : [lw 8 g, lw 8 k, L].flatten = (lw 8 g ++ lw 8 k) ++ L := by simp
  have l0 : [lw 8 g, lw 8 k, L].flatten.length = 16 + m := by rw [e0, List.length_append, List.length_append, lw_len, lw_len, HN.out]
  have CC := Lib.hid (concat_any (c := 3) _ (by decide) (lit_three RR.out (S1.out.later BB.out) ⟨hc1, by omega⟩ m1 (S2.out.later BB.out) ⟨hc2, by omega⟩ m2 (S3.out.later BB.out) ⟨hc, by omega⟩ hcm) (by rw [l0]; omega) (by rw [l0]; omega))
  rw [e0] at CC l0
  obtain ⟨X, hX⟩ : ∃ X, (lw 8 g ++ lw 8 k) ++ L = X := ⟨_, rfl⟩
  rw [hX] at CC l0
  have HX := Lib.hid hX
  have HXL := Lib.hid l0
  clear e0 hX l0
  go_wp2_with fail
  refine (CC.out).mono ?_
  rintro e w3 ⟨A3, n3, c3, rfl, hc3, O3⟩
  have k3 := O3.len
  rw [HXL.out] at k3
  subst k3
  have HO3 := Lib.hid (O3.weaken (Below.both HB2.out BB.out))
  clear O3 CC RR
  have CK := Lib.hid (check_any (c := c3) w3 (HD.out.later HD.out.lt HO3.out.bel) HO3.out.reads (by omega) hc3)
  go_wp2_with fail
  refine (CK.out).mono ?_
  rintro e w4 ⟨A4, n4, c4, rfl, hc4, hm4, hb4, b4⟩
  have HB4 := Lib.hid hb4
  have HBB := Lib.hid (Below.both HO3.out.bel b4)
  clear hb4 b4 CK
  go_wp2_with fail
  go_ret
  have e : fchkS g k L = chkS X := by unfold fchkS; rw [HX.out]
  rw [e]
  exact ⟨_, _, _, rfl, hc4, hm4, HB4.out, HBB.out⟩
set_option maxRecDepth 100000 in
set_option maxHeartbeats 400000 in
theorem frame_any {g k : Nat} {A : Option Addr} {m c : Nat} {L : List Nat} (w : World) (hLd : Laid w) (hg : g < 18446744073709551616) (hk : k < 9223372036854775808) (hL : Bs w A m L) (hm : m ≤ 1000000) (hc : m ≤ c) (hcm : c ≤ 9223372036854775807) :
    Calls Tryz.prog 81 #[.int .u64 (g : Nat), .int .i64 (k : Nat), .slice A m c] w (GivesB w (frameS g k L)) := by
  have HD := Lib.hid hLd
  have HL := Lib.hid hL
  have HN := Lib.hid hL.len
  have CN1 := Lib.hid (number_any (k := 4) (n := m) (by omega) (by decide) w)
  clear hLd hL
  go_enter Tryz.func81, Tryz.ntmps81
  go_wp2_with fail
  refine (CN1.out).mono ?_
  rintro e w2 ⟨A2, n2, c2, rfl, hc2, O2⟩
  have k2 := O2.len
  rw [lw_len] at k2
  subst k2
  have m2 := O2.cap
  have HB2 := Lib.hid O2.bel
  have S2 := Lib.hid O2.reads
  have S3 := Lib.hid (HL.out.later HB2.out)
  clear O2 CN1
  have RR := Lib.hid (Ro.new w2 40 [.slice A2 4 c2, .slice A m c])
  have BB := Lib.hid ((Below.refl w2.heap.size w2).alloc (Nat.le_refl _) (.cells #[.slice A2 4 c2, .slice A m c] 40))
  have e0 : [lw 4 m, L].flatten = bodyS L := by unfold bodyS; rw [HN.out]; simp
  have l0 : [lw 4 m, L].flatten.length = 4 + m := by rw [e0]; unfold bodyS; rw [List.length_append, lw_len, HN.out]
  have CC := Lib.hid (concat_any (c := 2) _ (by decide) (lit_two RR.out (S2.out.later BB.out) ⟨hc2, by omega⟩ m2 (S3.out.later BB.out) ⟨hc, by omega⟩ hcm) (by rw [l0]; omega) (by rw [l0]; omega))
  rw [e0] at CC l0
  obtain ⟨X, hX⟩ : ∃ X, bodyS L = X := ⟨_, rfl⟩
  rw [hX] at CC l0
  have HX := Lib.hid hX
  have HXL := Lib.hid l0
  clear e0 hX l0
  go_wp2_with fail
  refine (CC.out).mono ?_
  rintro e w3 ⟨A3, n3, c3, rfl, hc3, O3⟩
  have k3 := O3.len
  rw [HXL.out] at k3
  subst k3
  have m3 := O3.cap
  have HO3 := Lib.hid (O3.weaken (Below.both HB2.out BB.out))
  clear O3 CC RR
  have CK := Lib.hid (frameCheck_any (g := g) (k := k) (c := c3) w3 (HD.out.later HD.out.lt HO3.out.bel) hg hk HO3.out.reads (by omega) hc3 m3)
  obtain ⟨Y, hY⟩ : ∃ Y, fchkS g k X = Y := ⟨_, rfl⟩
  rw [hY] at CK
  have HY := Lib.hid hY
  have HYL := Lib.hid (show Y.length = 32 by rw [← hY]; exact chkS_len _)
  clear hY
  go_wp2_with fail
  refine (CK.out).mono ?_
  rintro e w4 ⟨A4, n4, c4, rfl, hc4, _, hb4, b4⟩
  have k4 := hb4.len
  rw [HYL.out] at k4
  subst k4
  have HO4 := Lib.hid (HO3.out.later b4)
  have HB4 := Lib.hid hb4
  clear hb4 b4 CK HO3
  have hle : 4 + m + 32 ≤ 1099511627776 := by omega
  go_wp2_with (at_builtin; refine wpList_app rfl (.tmp 15) (.tmp 19) rfl rfl HO4.out rfl HB4.out hle ?_)
  intro A5 c5 w5 h1 h2 _
  have H2 := Lib.hid h2
  clear h2
  go_wp2_with fail
  go_ret
  have e : frameS g k L = X ++ Y := by unfold frameS; rw [HX.out, HY.out]
  rw [e]
  exact ⟨_, _, _, rfl, h1, H2.out⟩
end
end Go.Proofs.YtjcphpmlekfhdaaGreatDoor

/- A vault's frames of records. No condition but bounds on the lengths. -/
namespace Go.Proofs.YtjcphpmlekfhdaaGreatDoor
open Go.RowKit

theorem framesS_next (g k : Nat) {l : List (List Nat)} {j : Nat} (h : j < l.length) : framesS g k (l.take (j + 1)) = framesS g k (l.take j) ++ frameS g (k + j) l[j] := by
  rw [List.take_add_one, List.getElem?_eq_getElem h, Option.toList_some, framesS_app, List.length_take, Nat.min_eq_left (by omega), framesS, framesS, List.append_nil]
theorem wideS_app (l m : List (List Nat)) : wideS (l ++ m) = wideS l + wideS m := by simp [wideS]
theorem wideS_take (l : List (List Nat)) (k : Nat) : wideS (l.take k) ≤ wideS l := by
  have := wideS_app (l.take k) (l.drop k)
  rw [List.take_append_drop] at this
  omega
theorem wideS_next {l : List (List Nat)} {k : Nat} (h : k < l.length) : wideS (l.take (k + 1)) = wideS (l.take k) + (36 + l[k].length) := by
  rw [List.take_add_one, List.getElem?_eq_getElem h, wideS_app]
  simp [wideS]
theorem wideS_at {l : List (List Nat)} {k : Nat} (h : k < l.length) : 36 + l[k].length ≤ wideS l := by
  have h1 := wideS_next h
  have := wideS_take l (k + 1)
  omega
theorem wideS_len : ∀ (l : List (List Nat)), 36 * l.length ≤ wideS l
  | [] => Nat.le_refl _
  | x :: l => by
    have := wideS_len l
    simp only [wideS, List.map_cons, List.sum_cons, List.length_cons] at *
    omega
set_option maxRecDepth 100000 in
set_option maxHeartbeats 1000000 in
theorem frames_any {g k : Nat} {A : Option Addr} {n c : Nat} {l : List (List Nat)} (w : World) (hLd : Laid w) (hg : g < 18446744073709551616) (hk : k ≤ 4611686018427387904) (hR : Rows w anyP 1 ByR A n l) (hr : ∀ r ∈ l, r.length ≤ 32768) (hw : wideS l ≤ 549755813888) :
    Calls Tryz.prog 38 #[.int .u64 (g : Nat), .int .i64 (k : Nat), .slice A n c] w (GivesB w (framesS g k l)) := by
  have HD := Lib.hid hLd
  have HR := Lib.hid hR
  have hln := hR.len
  have hnl := wideS_len l
  have HRL := Lib.hid hr
  clear hLd hR hr
  go_enter Tryz.func38, Tryz.ntmps38
  go_wp2_with fail
  go_loopw [7, 12] (fun s i wr => ∃ (j : Nat) (A' : Option Addr) (N c' : Nat), j ≤ n ∧ i = .int .i64 (j : Nat) ∧ s = .slice A' N c' ∧ N ≤ c' ∧ Own w s N (framesS g k (l.take j)) wr) (fun _ i _ => n - (intOf i).toNat)
  case atStart => exact ⟨0, none, 0, 0, Nat.zero_le _, rfl, rfl, Nat.le_refl _, World.ownsRow_nil _ _ _ _, allB_nil, Below.refl _ _⟩
  case round =>
    obtain ⟨j, A', N, c', hj, rfl, rfl, hN, O⟩ := hrel
    have hNl := O.len
    rw [framesS_len] at hNl
    have hwt := wideS_take l j
    have HO := Lib.hid O
    clear O
    by_cases hjn : j < n
    · have t1 : decide ((j : Int) < (n : Int)) = true := decide_eq_true (by omega)
      have hjl : j < l.length := by omega
      obtain ⟨b, o, rfl⟩ := rows_some HR.out (by omega)
      obtain ⟨hblk, B, cb, hc, hb1, hb2, hb3, hB⟩ := by_at HR.out hjl
      have hc' : wr.cell? ⟨b, o + j, none⟩ = some (.slice B l[j].length cb) := (HO.out.bel.cell (p := ⟨b, o + j, none⟩) hblk).trans hc
      have hB' := Lib.hid (hB.bs.later HO.out.bel)
      have hat := wideS_at hjl
      have hr32 := HRL.out _ (List.getElem_mem hjl)
      have CF := Lib.hid (frame_any (g := g) (k := k + j) (c := cb) wr (HD.out.later HD.out.lt HO.out.bel) hg (by omega) hB'.out (by omega) hb1 hb3)
      have FN := Lib.hid (framesS_next g k hjl)
      have fl := frameS_len g (k + j) l[j]
      obtain ⟨M, hM⟩ : ∃ M, frameS g (k + j) l[j] = M := ⟨_, rfl⟩
      rw [hM] at CF FN fl
      obtain ⟨F, hF⟩ : ∃ F, framesS g k (l.take j) = F := ⟨_, rfl⟩
      rw [hF] at HO FN
      obtain ⟨y, hy⟩ : ∃ y, l[j].length = y := ⟨_, rfl⟩
      rw [hy] at hc' CF fl hat hr32
      rw [Int.natCast_add] at CF
      have HFL := Lib.hid fl
      clear hc hB hM hF hy hB' fl
      go_wp2_with fail
      refine (CF.out).mono ?_
      rintro e w2 ⟨A2, n2, c2, rfl, hc2, O2⟩
      have k2 := O2.len
      rw [HFL.out] at k2
      subst k2
      have HO2 := Lib.hid (HO.out.later O2.bel)
      have HB2 := Lib.hid O2.reads
      have hle : N + (36 + y) ≤ 1099511627776 := by omega
      clear O2 CF
      go_wp2_with (at_builtin; refine wpList_app rfl (.tmp 17) (.tmp 23) rfl rfl HO2.out rfl HB2.out hle ?_)
      intro A3 c3 w3 h1 h2 _
      have H2 := Lib.hid h2
      clear h2
      go_wp2_with fail
      go_roundw
      case rel => exact ⟨j + 1, A3, N + (36 + y), c3, by omega, by go_num, by (first | rfl | (congr 1; omega)), h1, by rw [FN.out]; exact H2.out⟩
      case measure => simp [intOf]; omega
    · have t1 : decide ((j : Int) < (n : Int)) = false := decide_eq_false (by omega)
      have e : l.take j = l := List.take_of_length_le (by omega)
      rw [e] at HO
      clear e
      go_wp2_with fail
      go_ret
      exact ⟨_, _, _, rfl, hN, HO.out⟩
end Go.Proofs.YtjcphpmlekfhdaaGreatDoor
