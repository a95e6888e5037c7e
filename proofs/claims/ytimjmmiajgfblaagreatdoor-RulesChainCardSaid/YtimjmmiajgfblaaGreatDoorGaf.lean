/- The words behind all full pieces of a state. No condition but the state's make. -/
import Derived.Test.YtimjmmiajgfblaaGreatDoorGae
import Derived.Test.YtimjmmiajgfblaaGreatDoorMix

namespace Go.Proofs.YtimjmmiajgfblaaGreatDoor
open Go.RowKit

/-- The words W of a state of the bytes L. -/
structure WOf (L W : List Nat) : Prop where
  len : W.length = 8
  val : 64 ≤ L.length → W = pieces L (L.length / 64)
  zer : L.length < 64 → W = List.replicate 8 0
theorem WOf.low {L W : List Nat} (_ : WOf L W) (h : L.length < 64) : pieces L (L.length / 64) = h0 := by rw [show L.length / 64 = 0 by omega]; rfl
theorem wOf_nil : WOf [] (List.replicate 8 0) := ⟨rfl, fun h => absurd h (by decide), fun _ => rfl⟩
section
variable {w : World} {ops : Array Oper} {rest : List Oper} {o : Oper} {a : Act} {Q : Exit → Act → World → Prop}
theorem wpList_load_start (hgd : o.guard = none) (x : Operand) (ho : o.op = .load 125 x) (hx : a.eval x = .pointer (some ⟨2, 0, none⟩)) (hL : Laid w)
    (h : wpList Tryz.prog ops Q rest (a.put o.dst (.agg (u32s h0).toArray)) w) : wpList Tryz.prog ops Q (o :: rest) a w := by
  obtain ⟨T, fr, h1⟩ := hL.start
  exact wpList_load_row hgd _ x ho 2 hx T _ fr _ h1 Tryz.underlying125 rfl (by rw [Tryz.info34]; rfl) h
end
set_option maxRecDepth 100000 in
set_option maxHeartbeats 4000000 in
theorem sum_any {L W : List Nat} (hW : WOf L W) (hl : L.length < 4611686018427387904) (w : World) (hL : Laid w) : Calls Tryz.prog 111 #[.agg (stV W (partL L) L.length).toArray] w fun e w' => e = .returned (.agg (u32s (pieces L (L.length / 64))).toArray) ∧ Below w.heap.size w w' := by
  have HW := Lib.hid hW
  have HL := Lib.hid hL
  have S0 := Ro.new w 128 (stV W (partL L) L.length)
  have S1 := S0.alloc (.cells (u32s (List.replicate 8 0)).toArray 125)
  have R1 := Ro.new (w.alloc (.cells (stV W (partL L) L.length).toArray 128)) 125 (u32s (List.replicate 8 0))
  rw [World.size_alloc] at R1
  have B1 := ((Below.refl w.heap.size w).alloc (Nat.le_refl _) (.cells (stV W (partL L) L.length).toArray 128)).alloc (by simp) (.cells (u32s (List.replicate 8 0)).toArray 125)
  have c := fun o => (S0.alloc o).stC hW.len (partL_len L)
  have HS := Lib.hid S1
  have HR := Lib.hid R1
  have HB := Lib.hid B1
  have L1 := Lib.hid (hL.later hL.lt B1)
  clear hW hL S0 S1 R1 B1
  obtain ⟨n, hn⟩ : ∃ n, L.length = n := ⟨_, rfl⟩
  have HN := Lib.hid hn
  rw [hn] at c hl HS HR HB L1 ⊢
  clear hn
  by_cases hlt : n < 64
  · have t1 : decide ((n : Int) < 64) = true := decide_eq_true (by omega)
    have E : pieces L (n / 64) = h0 := by rw [← HN.out]; exact HW.out.low (by rw [HN.out]; exact hlt)
    rw [E]
    clear E
    go_enter Tryz.func111, Tryz.ntmps111
    go_wp2_with (first | (refine wpList_load_start rfl (.global 2) rfl rfl L1.out ?_) | (refine wpList_store_ro rfl (.tmp 2) (.tmp 6) rfl rfl rfl row34 HR.out (by simp [u32s]) (by simp [u32s, h0]) (u32s_one _) ?_))
    intro w4 R4 g4
    go_wp2_with fail
    exact bodyPost_ret (results_ro Tryz.results111 _ rfl row34 R4 (by simp [u32s, h0])) rfl ⟨rfl, HB.out.grown g4 HB.out.size (fun q e => by injection e; omega)⟩
  · have t1 : decide ((n : Int) < 64) = false := decide_eq_false (by omega)
    have E : W = pieces L (n / 64) := by rw [← HN.out]; exact HW.out.val (by rw [HN.out]; omega)
    have HE := Lib.hid E
    clear E
    go_enter Tryz.func111, Tryz.ntmps111
    go_wp2_with (first | (refine wpList_load_part rfl (.tmp 7) rfl rfl row34 HS.out.stW (by rw [u32s_len, HW.out.len]) ?_) | (refine wpList_store_ro rfl (.tmp 2) (.tmp 8) rfl rfl rfl row34 HR.out (by simp [u32s]) (by rw [u32s_len, HW.out.len]) (u32s_one _) ?_))
    intro w4 R4 g4
    go_wp2_with fail
    exact bodyPost_ret (results_ro Tryz.results111 _ rfl row34 R4 (by rw [u32s_len, HW.out.len])) rfl ⟨by rw [← HE.out], HB.out.grown g4 HB.out.size (fun q e => by injection e; omega)⟩
end Go.Proofs.YtimjmmiajgfblaaGreatDoor

/- A state with bytes behind, as the code reckons it. No condition but a bound on the lengths. -/
namespace Go.Proofs.YtimjmmiajgfblaaGreatDoor
open Go.RowKit

section
variable {w : World} {ops : Array Oper} {rest : List Oper} {o : Oper} {a : Act} {Q : Exit → Act → World → Prop}
theorem run_from {A : Option Addr} {m c n : Nat} (h1 : n ≤ m) (w : World) : (Instr.sliceAt 39 (.slice A m c) (some (.int .i64 (n : Int))) none none).run Tryz.prog w = .ok (.slice (if c = n then A else A.map (·.add n)) (m - n) (c - n)) w := by
  obtain ⟨i0, hi, _, hz1, _⟩ := info_parts Tryz.infoByte
  have e : Tryz.prog.elem 39 = 5 := by kernel_rfl
  rw [run_sliceAt_slice (P := Tryz.prog) w 39 _ _ _ _ (by rw [e]; exact Tryz.underlying39), run_slice_l w 39 A m c (by rw [e]; exact Tryz.underlying39) .i64 (n : Int) (by omega) (by omega), e]
  simp [sizeOf, typeInfo, hi, hz1, sliced]
theorem wpList_from (hgd : o.guard = none) (x i : Operand) (ho : o.op = .slice 39 x (some i) none none) {A : Option Addr} {m c n : Nat} (hx : a.eval x = .slice A m c) (hi : a.eval i = .int .i64 (n : Int)) (h1 : n ≤ m) (h2 : m ≤ c)
    (h : ∀ A', (∀ w' L, Bs w' A m L → Bs w' A' (m - n) (L.drop n)) → wpList Tryz.prog ops Q rest (a.put o.dst (.slice A' (m - n) (c - n))) w) : wpList Tryz.prog ops Q (o :: rest) a w := by
  refine wpList_plain hgd fun K hK => ?_
  have e := hK _ _ (h (if c = n then A else A.map (·.add n)) fun w' L hL => by
    have h3 := hL.cut (c := c) (k := n) (m := m - n) (by omega) h2
    rwa [List.take_of_length_le (by rw [List.length_drop, hL.len]; exact Nat.le_refl _)] at h3)
  unfold Oper.wp execOp
  simp only [ho, hx, hi, Option.map_some, Option.map_none, Sem.run_bind, Sem.run_pure, Result.andThen_ok, run_from h1]
  exact e
theorem wpList_copy_gr (hgd : o.guard = none) (d s : Operand) (ho : o.op = .call { callee := .builtin .copy, args := #[d, s], argTypes := #[39, 39] }) {b k m n c1 c2 : Nat} {A : Option Addr} {S : TypeId} {zs : List Value} {M : List Nat} {q : Nat}
    (hd : a.eval d = .slice (some ⟨b, k, none⟩) m c1) (hs : a.eval s = .slice A n c2) (hr : Ro w b S zs) (hsrc : Bs w A n M) (hfit : k + m ≤ zs.length) (hq : min n m = q)
    (h : ∀ w', Ro w' b S (splice zs k (vals (M.take q))) → w.grownBy w' (some b) → wpList Tryz.prog ops Q rest (a.put o.dst (.int .i64 (q : Nat))) w') : wpList Tryz.prog ops Q (o :: rest) a w := by
  subst hq
  obtain ⟨i0, hi, _, hz1, _⟩ := info_parts Tryz.infoByte
  have hsz : (Tryz.prog.info? 5).map (·.size) = some 1 := by rw [hi]; simp [hz1]
  have hl := hsrc.len
  have hc : (vals (M.take (min n m))).length = min n m := by rw [vals_length, List.length_take]; omega
  by_cases h0 : min n m = 0
  · refine wpList_copy_nothing hgd d s _ _ ho 5 Tryz.underlying39 hsz _ A m c1 n c2 hd hs h0 ?_
    have := h w (by rw [h0]; simpa [splice, vals] using hr) (World.grownBy.refl _ _)
    rwa [h0] at this
  · obtain ⟨ad, rfl, _, hcel⟩ := hsrc.cel (by omega)
    refine wpList_copy_own hgd d s _ _ ho 5 Tryz.underlying39 hsz b k m c1 ad n c2 hd hs zs.toArray S hr (vals (M.take (min n m))) (by rw [hc]) (fun j v hv => ?_) (by rw [hc]; simp; omega) (vals_one _) ?_
    · obtain ⟨hj, rfl⟩ := vals_get? hv
      rw [List.length_take] at hj
      rw [hcel j (by omega)]
      have hj2 : j < min n m := by omega
      have : nth (M.take (min n m)) j = nth M j := by simp only [nth, List.getD]; rw [List.getElem?_take, if_pos hj2]
      rw [this]
    · rw [hc]
      have e := setRow_heap w b _ (splice zs k (vals (M.take (min n m)))).toArray _ _ hr
      have h3 := h _ e (grownBy_setRow _ _ _)
      unfold splice at h3
      rw [hc] at h3
      exact h3
end

theorem zero38 (w : World) : (zeroValue 128).run Tryz.prog w = .ok (.agg (stV (List.replicate 8 0) (List.replicate 64 0) 0).toArray) w := by kernel_rfl
structure AdA (w : World) (g : Nat) (X W0 : List Nat) (n : Nat) (wr : World) : Prop where
  st : Ro wr w.heap.size 128 (stV W0 (partL X) n)
  rs : Ro wr (w.heap.size + 1) 128 (stV (List.replicate 8 0) (List.replicate 64 0) 0)
  ws : Ro wr g 125 (u32s (pieces X (X.length / 64)))
  bel : Below w.heap.size w wr
def lenOf : Value → Nat | .slice _ n _ => n | _ => 0
theorem take_more (L M : List Nat) (K q : Nat) : L ++ M.take (K + q) = (L ++ M.take K) ++ (M.drop K).take q := by
  rw [List.append_assoc, ← List.take_add]
theorem run_arr {b r : Nat} (h1 : r < 64) (w : World) : (Instr.sliceAt 126 (.pointer (some ⟨b, 8, none⟩)) (some (.int .i64 (r : Int))) none none).run Tryz.prog w = .ok (.slice (some ⟨b, 8 + r, none⟩) (64 - r) (64 - r)) w := by
  obtain ⟨i0, hi, _, hz1, _⟩ := info_parts Tryz.infoByte
  have e : Tryz.prog.elem 126 = 5 := by kernel_rfl
  have l : Tryz.prog.arrayLen 126 = 64 := by kernel_rfl
  rw [run_sliceAt_array_l (P := Tryz.prog) w 126 ⟨b, 8, none⟩ (by rw [e, l]; exact Tryz.underlying126) .i64 (r : Int) (by omega) (by rw [l]; omega), e, l]
  have h2 : ¬ (64 = r) := by omega
  simp [sizeOf, typeInfo, hi, hz1, slicedAt, h2, Addr.add]
theorem wpList_arr {w : World} {ops : Array Oper} {rest : List Oper} {o : Oper} {a : Act} {Q : Exit → Act → World → Prop} (hgd : o.guard = none) (x i : Operand) (ho : o.op = .slice 126 x (some i) none none) {b r : Nat} (hx : a.eval x = .pointer (some ⟨b, 8, none⟩)) (hi : a.eval i = .int .i64 (r : Int)) (h1 : r < 64)
    (h : wpList Tryz.prog ops Q rest (a.put o.dst (.slice (some ⟨b, 8 + r, none⟩) (64 - r) (64 - r))) w) : wpList Tryz.prog ops Q (o :: rest) a w := by
  refine wpList_plain hgd fun K hK => ?_
  have e := hK _ _ h
  unfold Oper.wp execOp
  simp only [ho, hx, hi, Option.map_some, Option.map_none, Sem.run_bind, Sem.run_pure, Result.andThen_ok, run_arr h1]
  exact e
theorem AdA.more {w : World} {g : Nat} {X Y W0 : List Nat} {n : Nat} {wr w5 : World} (N : AdA w g X W0 n wr) (hW : W0.length = 8) (hg : w.heap.size + 2 ≤ g) {r : Nat} (hr : X.length % 64 = r) (hl : r + Y.length < 64) (R5 : Ro w5 w.heap.size 128 (splice (stV W0 (partL X) n) (8 + r) (vals Y))) (g5 : wr.grownBy w5 (some w.heap.size)) : AdA w g (X ++ Y) W0 n w5 := by
  subst hr
  rw [stV_in hW (by rw [partL_len]; omega)] at R5
  obtain ⟨e1, e2⟩ := part_add X Y hl
  refine ⟨by rw [e1]; exact R5, N.rs.far g5 (fun e => by injection e; omega), ?_, N.bel.grown g5 N.bel.size (fun q e => by injection e; omega)⟩
  rw [e2, pieces_pre X Y _ (by omega)]
  exact N.ws.far g5 (fun e => by injection e; omega)
/-- Behind the splice of a piece that is full. -/
structure AdB (w : World) (g : Nat) (X P W0 : List Nat) (n : Nat) (wr : World) : Prop where
  st : Ro wr w.heap.size 128 (stV W0 P n)
  rs : Ro wr (w.heap.size + 1) 128 (stV (List.replicate 8 0) (List.replicate 64 0) 0)
  ws : Ro wr g 125 (u32s X)
  bel : Below w.heap.size w wr
theorem AdB.later {w : World} {g : Nat} {X P W0 : List Nat} {n : Nat} {wr w1 : World} (N : AdB w g X P W0 n wr) (b : Below wr.heap.size wr w1) : AdB w g X P W0 n w1 :=
  ⟨N.st.later b, N.rs.later b, N.ws.later b, N.bel.trans (b.mono N.bel.size)⟩
theorem AdA.full {w : World} {g : Nat} {X Y W0 : List Nat} {n : Nat} {wr w5 : World} (N : AdA w g X W0 n wr) (hW : W0.length = 8) (hg : w.heap.size + 2 ≤ g) {r : Nat} (hl : r + Y.length = 64) (R5 : Ro w5 w.heap.size 128 (splice (stV W0 (partL X) n) (8 + r) (vals Y))) (g5 : wr.grownBy w5 (some w.heap.size)) : AdB w g (pieces X (X.length / 64)) (splice (partL X) r Y) W0 n w5 := by
  rw [stV_in hW (by rw [partL_len]; omega)] at R5
  exact ⟨R5, N.rs.far g5 (fun e => by injection e; omega), N.ws.far g5 (fun e => by injection e; omega), N.bel.grown g5 N.bel.size (fun q e => by injection e; omega)⟩
theorem AdB.words {w : World} {g : Nat} {X X' P W0 : List Nat} {n : Nat} {wr w1 : World} (N : AdB w g X P W0 n wr) (hg : w.heap.size + 2 ≤ g) (R : Ro w1 g 125 (u32s X')) (g5 : wr.grownBy w1 (some g)) : AdB w g X' P W0 n w1 :=
  ⟨N.st.far g5 (fun e => by injection e; omega), N.rs.far g5 (fun e => by injection e; omega), R, N.bel.grown g5 N.bel.size (fun q e => by injection e; omega)⟩
theorem AdB.parts {w : World} {g : Nat} {X P P' W0 : List Nat} {n : Nat} {wr w1 : World} (N : AdB w g X P W0 n wr) (hg : w.heap.size + 2 ≤ g) (hW : W0.length = 8) (hP : P'.length = P.length) (R : Ro w1 w.heap.size 128 (splice (stV W0 P n) 8 (vals P'))) (g5 : wr.grownBy w1 (some w.heap.size)) : AdB w g X P' W0 n w1 :=
  ⟨by rwa [stV_part hW hP] at R, N.rs.far g5 (fun e => by injection e; omega), N.ws.far g5 (fun e => by injection e; omega), N.bel.grown g5 N.bel.size (fun q e => by injection e; omega)⟩
theorem AdB.done {w : World} {g : Nat} {X Y W0 : List Nat} {n : Nat} {wr : World} {r : Nat} (hr : X.length % 64 = r) (hl : r + Y.length = 64) (N : AdB w g (comp (pieces X (X.length / 64)) (splice (partL X) r Y)) (List.replicate 64 0) W0 n wr) : AdA w g (X ++ Y) W0 n wr := by
  subst hr
  obtain ⟨f1, f2, f3⟩ := full_len X Y hl
  exact ⟨by rw [f3]; exact N.st, N.rs, by rw [f1, piece_full X Y hl, ← part_full X Y hl]; exact N.ws, N.bel⟩
theorem splice_byt {P M : List Nat} (k : Nat) (h1 : AllB P) (h2 : AllB M) : AllB (splice P k M) := fun x hx => by
  unfold splice at hx
  rcases List.mem_append.1 hx with h | h
  · exact h1 x (List.mem_of_mem_take h)
  rcases List.mem_append.1 h with h | h
  · exact h2 x h
  · exact h1 x (List.mem_of_mem_drop h)

set_option maxRecDepth 100000 in
set_option maxHeartbeats 4000000 in
theorem add_any {L M W : List Nat} (hW : WOf L W) (hL : AllB L) (hMb : AllB M) (hl : L.length < 1099511627776) (hm : M.length ≤ 1099511627776) (w : World) (hLd : Laid w) {A : Option Addr} {c : Nat} (hA : Bs w A M.length M) (hc : M.length ≤ c) :
    Calls Tryz.prog 107 #[.agg (stV W (partL L) L.length).toArray, .slice A M.length c] w fun e w' => ∃ W', e = .returned (.agg (stV W' (partL (L ++ M)) (L ++ M).length).toArray) ∧ WOf (L ++ M) W' ∧ Below w.heap.size w w' := by
  have S0 := Ro.new w 128 (stV W (partL L) L.length)
  have S1 := S0.alloc (.cells (stV (List.replicate 8 0) (List.replicate 64 0) 0).toArray 128)
  have R1 := Ro.new (w.alloc (.cells (stV W (partL L) L.length).toArray 128)) 128 (stV (List.replicate 8 0) (List.replicate 64 0) 0)
  rw [World.size_alloc] at R1
  have B1 := ((Below.refl w.heap.size w).alloc (Nat.le_refl _) (.cells (stV W (partL L) L.length).toArray 128)).alloc (by simp) (.cells (stV (List.replicate 8 0) (List.replicate 64 0) 0).toArray 128)
  have HS1 := Lib.hid S1
  have HR1 := Lib.hid R1
  have HB1 := Lib.hid B1
  have HA := Lib.hid hA
  have HW := Lib.hid hW
  have HL := Lib.hid hL
  have HD := Lib.hid hLd
  have HMB := Lib.hid hMb
  clear hW hL hLd hA hMb S0 S1 R1 B1
  obtain ⟨n, hn⟩ : ∃ n, L.length = n := ⟨_, rfl⟩
  obtain ⟨m, hmm⟩ : ∃ m, M.length = m := ⟨_, rfl⟩
  rw [hn] at hl
  rw [hmm] at hm hc
  have HN := Lib.hid hn
  have HM := Lib.hid hmm
  rw [hn] at HS1 HR1 HB1 ⊢
  rw [hmm] at HA ⊢
  clear hn hmm
  have z0 := zero38
  have CS : Hid (∀ w1, Laid w1 → Calls Tryz.prog 111 #[.agg (stV W (partL L) n).toArray] w1 fun e w' => e = .returned (.agg (u32s (pieces L (n / 64))).toArray) ∧ Below w1.heap.size w1 w') := Lib.hid (by
    intro w1 h1
    have h := sum_any HW.out (by rw [HN.out]; omega) w1 h1
    rwa [HN.out] at h)
  go_enter Tryz.func107, Tryz.ntmps107
  go_wp2_with (refine wpList_load_ro rfl (.tmp 2) rfl rfl row38 HS1.out (stV_len HW.out.len (partL_len L)) ?_)
  obtain ⟨W1, hW1⟩ : ∃ W1, W1 = ((w.alloc (.cells (stV W (partL L) n).toArray 128)).alloc (.cells (stV (List.replicate 8 0) (List.replicate 64 0) 0).toArray 128)) := ⟨_, rfl⟩
  rw [← hW1] at HS1 HR1 HB1
  refine (CS.out _ (by rw [hW1] at HB1; exact HD.out.later HD.out.lt HB1.out)).mono ?_
  rintro e w2 ⟨rfl, hb0⟩
  have hb2 : Below W1.heap.size W1 w2 := by rw [hW1]; exact hb0
  have D2 : Hid (Below w.heap.size w w2) := Lib.hid (HB1.out.trans (hb2.mono HB1.out.size))
  have S2 := Lib.hid (HS1.out.later hb2)
  have R2 := Lib.hid (HR1.out.later hb2)
  have G2 : Hid (w.heap.size + 2 ≤ w2.heap.size) := Lib.hid (by have := R2.out.lt; omega)
  clear hb0 hb2 hW1 HS1 HR1 HB1
  have SR := Ro.new w2 125 (u32s (List.replicate 8 0))
  have SM := Lib.hid ((Below.refl w2.heap.size w2).alloc (Nat.le_refl _) (.cells (u32s (List.replicate 8 0)).toArray 125))
  go_wp2_with (refine wpList_store_ro rfl (.tmp 5) (.tmp 9) rfl rfl rfl row34 SR (by simp [u32s]) (by rw [u32s_len, pieces_len]) (u32s_one _) ?_)
  intro w3 R3 g3
  have N3 : Hid (AdA w w2.heap.size L W n w3) := Lib.hid ⟨(S2.out.later SM.out).far g3 (fun e => by injection e; have := G2.out; omega), (R2.out.later SM.out).far g3 (fun e => by injection e; have := G2.out; omega), by rw [HN.out]; exact R3,
    (D2.out.trans (SM.out.mono D2.out.size)).grown g3 (by have := D2.out.size; simp; omega) (fun q e => by injection e; have := G2.out; omega)⟩
  clear S2 R2 D2 SM SR R3 g3
  have c0 := N3.out.st.stC HW.out.len (partL_len L)
  have f0 := N3.out.st.free 72
  have rB : n % 64 < 64 := Nat.mod_lt _ (by decide)
  go_wp2_with fail
  have N4 : Hid (AdA w w2.heap.size L W (n + m) (w3.setCell ⟨w.heap.size, 72, none⟩ (.int .u64 ((n + m : Nat) : Int)))) := Lib.hid ⟨by have h := N3.out.st.set 72 (.int .u64 ((n + m : Nat) : Int)); rwa [stV_count HW.out.len (partL_len L)] at h, N3.out.rs.other (by omega) _, N3.out.ws.other (by have := G2.out; omega) _, N3.out.bel.setCell (Nat.le_refl _) _⟩
  obtain ⟨w4, hw4⟩ : ∃ w4, w4 = (w3.setCell ⟨w.heap.size, 72, none⟩ (.int .u64 ((n + m : Nat) : Int))) := ⟨_, rfl⟩
  rw [← hw4] at N4
  go_loopw [1, 6] (fun b f wr => ∃ (K : Nat) (A : Option Addr) (c : Nat), K ≤ m ∧ b = .slice A (m - K) c ∧ m - K ≤ c ∧ f = .int .i64 (((n + K) % 64 : Nat) : Int) ∧ Bs w A (m - K) (M.drop K) ∧ AdA w w2.heap.size (L ++ M.take K) W (n + m) wr) (fun b _ _ => lenOf b)
  case atStart => exact ⟨0, A, c, by omega, rfl, hc, by go_num, HA.out, by simpa [hw4] using N4.out⟩
  case round =>
    clear N3 N4 hw4 c0 f0 rB HA
    obtain ⟨K, A, c, hK, rfl, hc, rfl, hA, N⟩ := hrel
    have HN5 := Lib.hid N
    have HA := Lib.hid hA
    clear hA N
    have eX : (L ++ M.take K).length = n + K := by rw [List.length_append, List.length_take, HN.out, HM.out]; omega
    have bX : AllB (L ++ M.take K) := HL.out.app (fun x hx => HMB.out x (List.mem_of_mem_take hx))
    by_cases hlt : K < m
    · obtain ⟨r, hr⟩ : ∃ r, (n + K) % 64 = r := ⟨_, rfl⟩
      obtain ⟨d, hd⟩ : ∃ d, m - K = d := ⟨_, rfl⟩
      obtain ⟨q, hq⟩ : ∃ q, min d (64 - r) = q := ⟨_, rfl⟩
      have r64 : r < 64 := by omega
      have d0 : 0 < d := by omega
      have qd : q ≤ d := by omega
      have q0 : 0 < q := by omega
      have qr : r + q ≤ 64 := by omega
      have yl : ((M.drop K).take q).length = q := by rw [List.length_take, List.length_drop, HM.out]; omega
      have tm := take_more L M K q
      have yB : AllB ((M.drop K).take q) := fun x hx => HMB.out x (List.mem_of_mem_drop (List.mem_of_mem_take hx))
      have rX : (L ++ M.take K).length % 64 = r := by rw [eX, hr]
      have k1 : (n + (K + q)) % 64 = (r + q) % 64 := by omega
      have k2 : m - (K + q) = d - q := by omega
      have k3 : K + q ≤ m := by omega
      have k4 : M.drop (K + q) = (M.drop K).drop q := by rw [List.drop_drop]
      have z1 : r + q = 64 ∨ (q = d ∧ r + q < 64) := by omega
      rw [hr, hd]
      rw [hd] at HA hc
      obtain ⟨X, hX⟩ : ∃ X, L ++ M.take K = X := ⟨_, rfl⟩
      obtain ⟨Y, hY⟩ : ∃ Y, (M.drop K).take q = Y := ⟨_, rfl⟩
      rw [hX] at HN5 rX bX tm
      rw [hY] at yl tm yB
      have TM := Lib.hid tm
      have RX := Lib.hid rX
      have BX := Lib.hid bX
      have YL := Lib.hid yl
      have YB := Lib.hid yB
      have K1 := Lib.hid k1
      have K2 := Lib.hid k2
      have K3 := Lib.hid k3
      have K4 := Lib.hid k4
      have HQ := Lib.hid hq
      have HY := Lib.hid hY
      have dm : d ≤ 1099511627776 := by omega
      clear tm rX bX yl yB k1 k2 k3 k4 hq hX hY hr hd eX hlt hK
      have t0 : decide ((0 : Int) < (d : Int)) = true := decide_eq_true (by omega)
      have fin : ∀ (A' : Option Addr) (f : Nat) (w8 : World), (∀ w' L, Bs w' A d L → Bs w' A' (d - q) (L.drop q)) → (r + q) % 64 = f → AdA w w2.heap.size (X ++ Y) W (n + m) w8 →
          ∃ (K : Nat) (A : Option Addr) (c' : Nat), K ≤ m ∧ Value.slice A' (d - q) (c - q) = .slice A (m - K) c' ∧ m - K ≤ c' ∧ Value.int .i64 (f : Int) = .int .i64 (((n + K) % 64 : Nat) : Int) ∧ Bs w A (m - K) (M.drop K) ∧ AdA w w2.heap.size (L ++ M.take K) W (n + m) w8 := by
        intro A' f w8 h1 h2 h3
        refine ⟨K + q, A', c - q, K3.out, by rw [K2.out], by rw [K2.out]; omega, by rw [K1.out, h2], ?_, by rw [TM.out]; exact h3⟩
        rw [K2.out, K4.out]
        exact h1 w _ HA.out
      have FIN := Lib.hid fin
      clear fin
      go_wp2_with (first | (refine wpList_arr rfl (.tmp 24) (.tmp 25) rfl rfl rfl r64 ?_) | (refine wpList_copy_gr rfl (.tmp 26) (.tmp 27) rfl rfl rfl HN5.out.st (HA.out.later HN5.out.bel) (by rw [stV_len HW.out.len (partL_len _)]; omega) HQ.out ?_))
      intro w5 R5 g5
      rw [HY.out] at R5
      have hR5 := Lib.hid R5
      have hg5 := Lib.hid g5
      clear R5 g5
      go_wp2_with (refine wpList_from rfl (.tmp 29) (.tmp 30) rfl rfl rfl qd hc ?_)
      intro A' hA'
      have HA' := Lib.hid hA'
      clear hA'
      rcases z1 with z1 | ⟨z1, z2⟩
      · have NB := Lib.hid (HN5.out.full HW.out.len G2.out (by rw [YL.out]; exact z1) hR5.out hg5.out)
        have t1 : decide ((r : Int) + (q : Int) = 64) = true := decide_eq_true (by omega)
        have PL : Hid ((splice (partL X) r Y).length = 64) := Lib.hid (by rw [length_splice _ _ _ (by rw [YL.out, partL_len]; omega), partL_len])
        clear hR5 hg5
        have e64 : (r : Int) + (q : Int) = 64 := by omega
        go_wp2_with (first | (refine wpList_load_ro rfl (.tmp 5) rfl rfl row34 NB.out.ws (by rw [u32s_len, pieces_len]) ?_) | (refine wpList_load_part rfl (.tmp 38) rfl rfl row35 (NB.out.st.stP HW.out.len) (by rw [vals_length, PL.out]) ?_))
        refine (mix_any (pieces_len _ _) PL.out (splice_byt _ (partL_byt BX.out) YB.out) _ (HD.out.later HD.out.lt NB.out.bel)).mono ?_
        rintro e w6 ⟨rfl, hb⟩
        have N6 := Lib.hid (NB.out.later hb)
        clear hb NB
        go_wp2_with (refine wpList_store_ro rfl (.tmp 5) (.tmp 40) rfl rfl rfl row34 N6.out.ws (by rw [u32s_len, pieces_len]) (by rw [u32s_len, comp_len]) (u32s_one _) ?_)
        intro w7 R7 g7
        have N7 := Lib.hid (N6.out.words G2.out R7 g7)
        clear R7 g7 N6
        go_wp2_with (refine wpList_store_part (vs := vals (List.replicate 64 0)) rfl (.tmp 42) (.tmp 41) rfl rfl rfl row35 N7.out.st (by rw [stV_len HW.out.len PL.out]; omega) (by rw [vals_length]; rfl) (vals_one _) ?_)
        intro w8 R8 g8
        have N8 := Lib.hid ((N7.out.parts G2.out HW.out.len (by rw [PL.out]; rfl) R8 g8).done RX.out (by rw [YL.out]; exact z1))
        clear R8 g8 N7
        go_wp2_with fail
        exact ⟨FIN.out A' 0 w8 HA'.out (by omega) N8.out, by simp [lenOf]; omega⟩
      · have N8 := Lib.hid (HN5.out.more HW.out.len G2.out RX.out (by rw [YL.out]; exact z2) hR5.out hg5.out)
        have t1 : decide ((r : Int) + (q : Int) = 64) = false := decide_eq_false (by omega)
        have e64 : ¬ (r : Int) + (q : Int) = 64 := by omega
        have hf : (r + q) % 64 = r + q := by omega
        have HF := Lib.hid hf
        clear hR5 hg5 z1 hf
        go_wp2_with fail
        have F := FIN.out A' _ w5 HA'.out HF.out N8.out
        rw [Int.natCast_add] at F
        exact ⟨F, by simp [lenOf]; omega⟩
    · obtain rfl : K = m := by omega
      have eL : L ++ M.take K = L ++ M := by rw [List.take_of_length_le (by rw [HM.out]; exact Nat.le_refl _)]
      rw [eL] at HN5 eX
      obtain ⟨X, hX⟩ : ∃ X, L ++ M = X := ⟨_, rfl⟩
      rw [hX] at HN5 eX
      have HX := Lib.hid hX
      have EX := Lib.hid eX
      have c1 := HN5.out.st.stC HW.out.len (partL_len X)
      clear hX eX eL bX hlt HA hK
      rw [Nat.sub_self]
      by_cases h64 : 64 ≤ n + K
      · have t1 : decide ((64 : Int) ≤ ((n + K : Nat) : Int)) = true := decide_eq_true (by omega)
        go_wp2_with (first | (refine wpList_load_ro rfl (.tmp 5) rfl rfl row34 HN5.out.ws (by rw [u32s_len, pieces_len]) ?_) | (refine wpList_store_part (k := 0) rfl (.tmp 47) (.tmp 46) rfl rfl rfl row34 HN5.out.st (by rw [stV_len HW.out.len (partL_len X)]; omega) (by rw [u32s_len, pieces_len]) (u32s_one _) ?_))
        intro w6 R6 g6
        rw [stV_words (by rw [pieces_len, HW.out.len])] at R6
        have S6 := Lib.hid R6
        have B6 := Lib.hid (HN5.out.bel.grown g6 HN5.out.bel.size (fun q e => by injection e; omega))
        have R7 := Lib.hid (HN5.out.rs.far g6 (fun e => by injection e; omega))
        clear R6 g6
        go_wp2_with (first | (refine wpList_load_ro rfl (.tmp 2) rfl rfl row38 S6.out (stV_len (pieces_len _ _) (partL_len X)) ?_) | (refine wpList_store_ro rfl (.tmp 4) (.tmp 48) rfl rfl rfl row38 R7.out (stV_len rfl rfl) (stV_len (pieces_len _ _) (partL_len X)) (stV_one _ _ _) ?_))
        intro w8 R8 g8
        go_wp2_with fail
        exact bodyPost_ret (results_ro Tryz.results107 _ rfl row38 R8 (stV_len (pieces_len _ _) (partL_len X))) rfl ⟨pieces X (X.length / 64), by rw [HX.out, EX.out], ⟨pieces_len _ _, fun _ => by rw [HX.out], fun h => absurd h (by rw [HX.out, EX.out]; omega)⟩, B6.out.grown g8 B6.out.size (fun q e => by injection e; omega)⟩
      · have t1 : decide ((64 : Int) ≤ ((n + K : Nat) : Int)) = false := decide_eq_false (by omega)
        go_wp2_with (first | (refine wpList_load_ro rfl (.tmp 2) rfl rfl row38 HN5.out.st (stV_len HW.out.len (partL_len X)) ?_) | (refine wpList_store_ro rfl (.tmp 4) (.tmp 48) rfl rfl rfl row38 HN5.out.rs (stV_len rfl rfl) (stV_len HW.out.len (partL_len X)) (stV_one _ _ _) ?_))
        intro w8 R8 g8
        go_wp2_with fail
        exact bodyPost_ret (results_ro Tryz.results107 _ rfl row38 R8 (stV_len HW.out.len (partL_len X))) rfl ⟨W, by rw [HX.out, EX.out], ⟨HW.out.len, fun h => absurd h (by rw [HX.out, EX.out]; omega), fun _ => HW.out.zer (by rw [HN.out]; omega)⟩, HN5.out.bel.grown g8 HN5.out.bel.size (fun q e => by injection e; omega)⟩
end Go.Proofs.YtimjmmiajgfblaaGreatDoor
