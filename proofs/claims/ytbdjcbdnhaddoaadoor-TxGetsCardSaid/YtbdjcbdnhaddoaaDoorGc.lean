/- The words behind all full pieces of a state. No condition but the state's make. -/
import Derived.Test.YtbdjcbdnhaddoaaDoorGb
import Derived.Test.YtbdjcbdnhaddoaaDoorMix

namespace Go.Proofs.YtbdjcbdnhaddoaaDoor
open Go.RowKit

/-- The words W of a state of the bytes L. -/
structure WOf (L W : List Nat) : Prop where
  len : W.length = 8
  val : 64 ≤ L.length → W = pieces L (L.length / 64)
  zer : L.length < 64 → W = List.replicate 8 0
theorem WOf.low {L W : List Nat} (_ : WOf L W) (h : L.length < 64) : pieces L (L.length / 64) = h0 := by rw [show L.length / 64 = 0 by omega]; rfl
theorem wOf_nil : WOf [] (List.replicate 8 0) := ⟨rfl, fun h => absurd h (by decide), fun _ => rfl⟩
section
variable {w : World} {ops : Array Oper} {rest : List Oper} {o : Oper} {a : Act} {Q : Exit → Act → World → Prop}
theorem wpList_load_start (hgd : o.guard = none) (x : Operand) (ho : o.op = .load 86 x) (hx : a.eval x = .pointer (some ⟨0, 0, none⟩)) (hL : Laid w)
    (h : wpList Tryd.prog ops Q rest (a.put o.dst (.agg (u32s h0).toArray)) w) : wpList Tryd.prog ops Q (o :: rest) a w := by
  obtain ⟨T, fr, h1⟩ := hL.start
  exact wpList_load_row hgd _ x ho 0 hx T _ fr _ h1 Tryd.underlying86 rfl (by rw [Tryd.info34]; rfl) h
end
set_option maxRecDepth 100000 in
set_option maxHeartbeats 4000000 in
theorem sum_any {L W : List Nat} (hW : WOf L W) (hl : L.length < 4611686018427387904) (w : World) (hL : Laid w) : Calls Tryd.prog 76 #[.agg (stV W (partL L) L.length).toArray] w fun e w' => e = .returned (.agg (u32s (pieces L (L.length / 64))).toArray) ∧ Below w.heap.size w w' := by
  have HW := Lib.hid hW
  have HL := Lib.hid hL
  have S0 := Ro.new w 89 (stV W (partL L) L.length)
  have S1 := S0.alloc (.cells (u32s (List.replicate 8 0)).toArray 86)
  have R1 := Ro.new (w.alloc (.cells (stV W (partL L) L.length).toArray 89)) 86 (u32s (List.replicate 8 0))
  rw [World.size_alloc] at R1
  have B1 := ((Below.refl w.heap.size w).alloc (Nat.le_refl _) (.cells (stV W (partL L) L.length).toArray 89)).alloc (by simp) (.cells (u32s (List.replicate 8 0)).toArray 86)
  have c := fun o => (S0.alloc o).stC hW.len (partL_len L)
  have HS := Lib.hid S1
  have HR := Lib.hid R1
  have HB := Lib.hid B1
  have L1 := Lib.hid (hL.later hL.lt B1)
  clear hW hL S0 S1 R1 B1
  obtain ⟨n, hn⟩ : ∃ n, L.length = n := ⟨_, rfl⟩
  have HN := Lib.hid hn
  rw [hn] at c hl HS HR HB L1 ⊢
  clear hn
  by_cases hlt : n < 64
  · have t1 : decide ((n : Int) < 64) = true := decide_eq_true (by omega)
    have E : pieces L (n / 64) = h0 := by rw [← HN.out]; exact HW.out.low (by rw [HN.out]; exact hlt)
    rw [E]
    clear E
    go_enter Tryd.func76, Tryd.ntmps76
    go_wp2_with (first | (refine wpList_load_start rfl (.global 0) rfl rfl L1.out ?_) | (refine wpList_store_ro rfl (.tmp 2) (.tmp 6) rfl rfl rfl row34 HR.out (by simp [u32s]) (by simp [u32s, h0]) (u32s_one _) ?_))
    intro w4 R4 g4
    go_wp2_with fail
    exact bodyPost_ret (results_ro Tryd.results76 _ rfl row34 R4 (by simp [u32s, h0])) rfl ⟨rfl, HB.out.grown g4 HB.out.size (fun q e => by injection e; omega)⟩
  · have t1 : decide ((n : Int) < 64) = false := decide_eq_false (by omega)
    have E : W = pieces L (n / 64) := by rw [← HN.out]; exact HW.out.val (by rw [HN.out]; omega)
    have HE := Lib.hid E
    clear E
    go_enter Tryd.func76, Tryd.ntmps76
    go_wp2_with (first | (refine wpList_load_part rfl (.tmp 7) rfl rfl row34 HS.out.stW (by rw [u32s_len, HW.out.len]) ?_) | (refine wpList_store_ro rfl (.tmp 2) (.tmp 8) rfl rfl rfl row34 HR.out (by simp [u32s]) (by rw [u32s_len, HW.out.len]) (u32s_one _) ?_))
    intro w4 R4 g4
    go_wp2_with fail
    exact bodyPost_ret (results_ro Tryd.results76 _ rfl row34 R4 (by rw [u32s_len, HW.out.len])) rfl ⟨by rw [← HE.out], HB.out.grown g4 HB.out.size (fun q e => by injection e; omega)⟩
end Go.Proofs.YtbdjcbdnhaddoaaDoor

/- A state with bytes behind, as the code reckons it. No condition but a bound on the lengths. -/
namespace Go.Proofs.YtbdjcbdnhaddoaaDoor
open Go.RowKit

section
variable {w : World} {ops : Array Oper} {rest : List Oper} {o : Oper} {a : Act} {Q : Exit → Act → World → Prop}
theorem run_from {A : Option Addr} {m c n : Nat} (h1 : n ≤ m) (w : World) : (Instr.sliceAt 29 (.slice A m c) (some (.int .i64 (n : Int))) none none).run Tryd.prog w = .ok (.slice (if c = n then A else A.map (·.add n)) (m - n) (c - n)) w := by
  obtain ⟨i0, hi, _, hz1, _⟩ := info_parts Tryd.infoByte
  have e : Tryd.prog.elem 29 = 5 := by kernel_rfl
  rw [run_sliceAt_slice (P := Tryd.prog) w 29 _ _ _ _ (by rw [e]; exact Tryd.underlying29), run_slice_l w 29 A m c (by rw [e]; exact Tryd.underlying29) .i64 (n : Int) (by omega) (by omega), e]
  simp [sizeOf, typeInfo, hi, hz1, sliced]
theorem wpList_from (hgd : o.guard = none) (x i : Operand) (ho : o.op = .slice 29 x (some i) none none) {A : Option Addr} {m c n : Nat} (hx : a.eval x = .slice A m c) (hi : a.eval i = .int .i64 (n : Int)) (h1 : n ≤ m) (h2 : m ≤ c)
    (h : ∀ A', (∀ w' L, Bs w' A m L → Bs w' A' (m - n) (L.drop n)) → wpList Tryd.prog ops Q rest (a.put o.dst (.slice A' (m - n) (c - n))) w) : wpList Tryd.prog ops Q (o :: rest) a w := by
  refine wpList_plain hgd fun K hK => ?_
  have e := hK _ _ (h (if c = n then A else A.map (·.add n)) fun w' L hL => by
    have h3 := hL.cut (c := c) (k := n) (m := m - n) (by omega) h2
    rwa [List.take_of_length_le (by rw [List.length_drop, hL.len]; exact Nat.le_refl _)] at h3)
  unfold Oper.wp execOp
  simp only [ho, hx, hi, Option.map_some, Option.map_none, Sem.run_bind, Sem.run_pure, Result.andThen_ok, run_from h1]
  exact e
theorem wpList_copy_gr (hgd : o.guard = none) (d s : Operand) (ho : o.op = .call { callee := .builtin .copy, args := #[d, s], argTypes := #[29, 29] }) {b k m n c1 c2 : Nat} {A : Option Addr} {S : TypeId} {zs : List Value} {M : List Nat} {q : Nat}
    (hd : a.eval d = .slice (some ⟨b, k, none⟩) m c1) (hs : a.eval s = .slice A n c2) (hr : Ro w b S zs) (hsrc : Bs w A n M) (hfit : k + m ≤ zs.length) (hq : min n m = q)
    (h : ∀ w', Ro w' b S (splice zs k (vals (M.take q))) → w.grownBy w' (some b) → wpList Tryd.prog ops Q rest (a.put o.dst (.int .i64 (q : Nat))) w') : wpList Tryd.prog ops Q (o :: rest) a w := by
  subst hq
  obtain ⟨i0, hi, _, hz1, _⟩ := info_parts Tryd.infoByte
  have hsz : (Tryd.prog.info? 5).map (·.size) = some 1 := by rw [hi]; simp [hz1]
  have hl := hsrc.len
  have hc : (vals (M.take (min n m))).length = min n m := by rw [vals_length, List.length_take]; omega
  by_cases h0 : min n m = 0
  · refine wpList_copy_nothing hgd d s _ _ ho 5 Tryd.underlying29 hsz _ A m c1 n c2 hd hs h0 ?_
    have := h w (by rw [h0]; simpa [splice, vals] using hr) (World.grownBy.refl _ _)
    rwa [h0] at this
  · obtain ⟨ad, rfl, _, hcel⟩ := hsrc.cel (by omega)
    refine wpList_copy_own hgd d s _ _ ho 5 Tryd.underlying29 hsz b k m c1 ad n c2 hd hs zs.toArray S hr (vals (M.take (min n m))) (by rw [hc]) (fun j v hv => ?_) (by rw [hc]; simp; omega) (vals_one _) ?_
    · obtain ⟨hj, rfl⟩ := vals_get? hv
      rw [List.length_take] at hj
      rw [hcel j (by omega)]
      have hj2 : j < min n m := by omega
      have : nth (M.take (min n m)) j = nth M j := by simp only [nth, List.getD]; rw [List.getElem?_take, if_pos hj2]
      rw [this]
    · rw [hc]
      have e := setRow_heap w b _ (splice zs k (vals (M.take (min n m)))).toArray _ _ hr
      have h3 := h _ e (grownBy_setRow _ _ _)
      unfold splice at h3
      rw [hc] at h3
      exact h3
end

theorem zero38 (w : World) : (zeroValue 89).run Tryd.prog w = .ok (.agg (stV (List.replicate 8 0) (List.replicate 64 0) 0).toArray) w := by kernel_rfl
structure AdA (w : World) (g : Nat) (X W0 : List Nat) (n : Nat) (wr : World) : Prop where
  st : Ro wr w.heap.size 89 (stV W0 (partL X) n)
  rs : Ro wr (w.heap.size + 1) 89 (stV (List.replicate 8 0) (List.replicate 64 0) 0)
  ws : Ro wr g 86 (u32s (pieces X (X.length / 64)))
  bel : Below w.heap.size w wr
def lenOf : Value → Nat | .slice _ n _ => n | _ => 0
theorem take_more (L M : List Nat) (K q : Nat) : L ++ M.take (K + q) = (L ++ M.take K) ++ (M.drop K).take q := by
  rw [List.append_assoc, ← List.take_add]
theorem run_arr {b r : Nat} (h1 : r < 64) (w : World) : (Instr.sliceAt 87 (.pointer (some ⟨b, 8, none⟩)) (some (.int .i64 (r : Int))) none none).run Tryd.prog w = .ok (.slice (some ⟨b, 8 + r, none⟩) (64 - r) (64 - r)) w := by
  obtain ⟨i0, hi, _, hz1, _⟩ := info_parts Tryd.infoByte
  have e : Tryd.prog.elem 87 = 5 := by kernel_rfl
  have l : Tryd.prog.arrayLen 87 = 64 := by kernel_rfl
  rw [run_sliceAt_array_l (P := Tryd.prog) w 87 ⟨b, 8, none⟩ (by rw [e, l]; exact Tryd.underlying87) .i64 (r : Int) (by omega) (by rw [l]; omega), e, l]
  have h2 : ¬ (64 = r) := by omega
  simp [sizeOf, typeInfo, hi, hz1, slicedAt, h2, Addr.add]
theorem wpList_arr {w : World} {ops : Array Oper} {rest : List Oper} {o : Oper} {a : Act} {Q : Exit → Act → World → Prop} (hgd : o.guard = none) (x i : Operand) (ho : o.op = .slice 87 x (some i) none none) {b r : Nat} (hx : a.eval x = .pointer (some ⟨b, 8, none⟩)) (hi : a.eval i = .int .i64 (r : Int)) (h1 : r < 64)
    (h : wpList Tryd.prog ops Q rest (a.put o.dst (.slice (some ⟨b, 8 + r, none⟩) (64 - r) (64 - r))) w) : wpList Tryd.prog ops Q (o :: rest) a w := by
  refine wpList_plain hgd fun K hK => ?_
  have e := hK _ _ h
  unfold Oper.wp execOp
  simp only [ho, hx, hi, Option.map_some, Option.map_none, Sem.run_bind, Sem.run_pure, Result.andThen_ok, run_arr h1]
  exact e
theorem AdA.more {w : World} {g : Nat} {X Y W0 : List Nat} {n : Nat} {wr w5 : World} (N : AdA w g X W0 n wr) (hW : W0.length = 8) (hg : w.heap.size + 2 ≤ g) {r : Nat} (hr : X.length % 64 = r) (hl : r + Y.length < 64) (R5 : Ro w5 w.heap.size 89 (splice (stV W0 (partL X) n) (8 + r) (vals Y))) (g5 : wr.grownBy w5 (some w.heap.size)) : AdA w g (X ++ Y) W0 n w5 := by
  subst hr
  rw [stV_in hW (by rw [partL_len]; omega)] at R5
  obtain ⟨e1, e2⟩ := part_add X Y hl
  refine ⟨by rw [e1]; exact R5, N.rs.far g5 (fun e => by injection e; omega), ?_, N.bel.grown g5 N.bel.size (fun q e => by injection e; omega)⟩
  rw [e2, pieces_pre X Y _ (by omega)]
  exact N.ws.far g5 (fun e => by injection e; omega)
/-- Behind the splice of a piece that is full. -/
structure AdB (w : World) (g : Nat) (X P W0 : List Nat) (n : Nat) (wr : World) : Prop where
  st : Ro wr w.heap.size 89 (stV W0 P n)
  rs : Ro wr (w.heap.size + 1) 89 (stV (List.replicate 8 0) (List.replicate 64 0) 0)
  ws : Ro wr g 86 (u32s X)
  bel : Below w.heap.size w wr
theorem AdB.later {w : World} {g : Nat} {X P W0 : List Nat} {n : Nat} {wr w1 : World} (N : AdB w g X P W0 n wr) (b : Below wr.heap.size wr w1) : AdB w g X P W0 n w1 :=
  ⟨N.st.later b, N.rs.later b, N.ws.later b, N.bel.trans (b.mono N.bel.size)⟩
theorem AdA.full {w : World} {g : Nat} {X Y W0 : List Nat} {n : Nat} {wr w5 : World} (N : AdA w g X W0 n wr) (hW : W0.length = 8) (hg : w.heap.size + 2 ≤ g) {r : Nat} (hl : r + Y.length = 64) (R5 : Ro w5 w.heap.size 89 (splice (stV W0 (partL X) n) (8 + r) (vals Y))) (g5 : wr.grownBy w5 (some w.heap.size)) : AdB w g (pieces X (X.length / 64)) (splice (partL X) r Y) W0 n w5 := by
  rw [stV_in hW (by rw [partL_len]; omega)] at R5
  exact ⟨R5, N.rs.far g5 (fun e => by injection e; omega), N.ws.far g5 (fun e => by injection e; omega), N.bel.grown g5 N.bel.size (fun q e => by injection e; omega)⟩
theorem AdB.words {w : World} {g : Nat} {X X' P W0 : List Nat} {n : Nat} {wr w1 : World} (N : AdB w g X P W0 n wr) (hg : w.heap.size + 2 ≤ g) (R : Ro w1 g 86 (u32s X')) (g5 : wr.grownBy w1 (some g)) : AdB w g X' P W0 n w1 :=
  ⟨N.st.far g5 (fun e => by injection e; omega), N.rs.far g5 (fun e => by injection e; omega), R, N.bel.grown g5 N.bel.size (fun q e => by injection e; omega)⟩
theorem AdB.parts {w : World} {g : Nat} {X P P' W0 : List Nat} {n : Nat} {wr w1 : World} (N : AdB w g X P W0 n wr) (hg : w.heap.size + 2 ≤ g) (hW : W0.length = 8) (hP : P'.length = P.length) (R : Ro w1 w.heap.size 89 (splice (stV W0 P n) 8 (vals P'))) (g5 : wr.grownBy w1 (some w.heap.size)) : AdB w g X P' W0 n w1 :=
  ⟨by rwa [stV_part hW hP] at R, N.rs.far g5 (fun e => by injection e; omega), N.ws.far g5 (fun e => by injection e; omega), N.bel.grown g5 N.bel.size (fun q e => by injection e; omega)⟩
theorem AdB.done {w : World} {g : Nat} {X Y W0 : List Nat} {n : Nat} {wr : World} {r : Nat} (hr : X.length % 64 = r) (hl : r + Y.length = 64) (N : AdB w g (comp (pieces X (X.length / 64)) (splice (partL X) r Y)) (List.replicate 64 0) W0 n wr) : AdA w g (X ++ Y) W0 n wr := by
  subst hr
  obtain ⟨f1, f2, f3⟩ := full_len X Y hl
  exact ⟨by rw [f3]; exact N.st, N.rs, by rw [f1, piece_full X Y hl, ← part_full X Y hl]; exact N.ws, N.bel⟩
theorem splice_byt {P M : List Nat} (k : Nat) (h1 : AllB P) (h2 : AllB M) : AllB (splice P k M) := fun x hx => by
  unfold splice at hx
  rcases List.mem_append.1 hx with h | h
  · exact h1 x (List.mem_of_mem_take h)
  rcases List.mem_append.1 h with h | h
  · exact h2 x h
  · exact h1 x (List.mem_of_mem_drop h)

set_option maxRecDepth 100000 in
set_option maxHeartbeats 4000000 in
theorem add_any {L M W : List Nat} (hW : WOf L W) (hL : AllB L) (hMb : AllB M) (hl : L.length < 1099511627776) (hm : M.length ≤ 1099511627776) (w : World) (hLd : Laid w) {A : Option Addr} {c : Nat} (hA : Bs w A M.length M) (hc : M.length ≤ c) :
    Calls Tryd.prog 64 #[.agg (stV W (partL L) L.length).toArray, .slice A M.length c] w fun e w' => ∃ W', e = .returned (.agg (stV W' (partL (L ++ M)) (L ++ M).length).toArray) ∧ WOf (L ++ M) W' ∧ Below w.heap.size w w' := by
  have S0 := Ro.new w 89 (stV W (partL L) L.length)
  have S1 := S0.alloc (.cells (stV (List.replicate 8 0) (List.replicate 64 0) 0).toArray 89)
  have R1 := Ro.new (w.alloc (.cells (stV W (partL L) L.length).toArray 89)) 89 (stV (List.replicate 8 0) (List.replicate 64 0) 0)
  rw [World.size_alloc] at R1
  have B1 := ((Below.refl w.heap.size w).alloc (Nat.le_refl _) (.cells (stV W (partL L) L.length).toArray 89)).alloc (by simp) (.cells (stV (List.replicate 8 0) (List.replicate 64 0) 0).toArray 89)
  have HS1 := Lib.hid S1
  have HR1 := Lib.hid R1
  have HB1 := Lib.hid B1
  have HA := Lib.hid hA
  have HW := Lib.hid hW
  have HL := Lib.hid hL
  have HD := Lib.hid hLd
  have HMB := Lib.hid hMb
  clear hW hL hLd hA hMb S0 S1 R1 B1
  obtain ⟨n, hn⟩ : ∃ n, L.length = n := ⟨_, rfl⟩
  obtain ⟨m, hmm⟩ : ∃ m, M.length = m := ⟨_, rfl⟩
  rw [hn] at hl
  rw [hmm] at hm hc
  have HN := Lib.hid hn
  have HM := Lib.hid hmm
  rw [hn] at HS1 HR1 HB1 ⊢
  rw [hmm] at HA ⊢
  clear hn hmm
  have z0 := zero38
  have CS : Hid (∀ w1, Laid w1 → Calls Tryd.prog 76 #[.agg (stV W (partL L) n).toArray] w1 fun e w' => e = .returned (.agg (u32s (pieces L (n / 64))).toArray) ∧ Below w1.heap.size w1 w') := Lib.hid (by
    intro w1 h1
    have h := sum_any HW.out (by rw [HN.out]; omega) w1 h1
    rwa [HN.out] at h)
  go_enter Tryd.func64, Tryd.ntmps64
  go_wp2_with (refine wpList_load_ro rfl (.tmp 2) rfl rfl row38 HS1.out (stV_len HW.out.len (partL_len L)) ?_)
  obtain ⟨W1, hW1⟩ : ∃ W1, W1 = ((w.alloc (.cells (stV W (partL L) n).toArray 89)).alloc (.cells (stV (List.replicate 8 0) (List.replicate 64 0) 0).toArray 89)) := ⟨_, rfl⟩
  rw [← hW1] at HS1 HR1 HB1
  refine (CS.out _ (by rw [hW1] at HB1; exact HD.out.later HD.out.lt HB1.out)).mono ?_
  rintro e w2 ⟨rfl, hb0⟩
  have hb2 : Below W1.heap.size W1 w2 := by rw [hW1]; exact hb0
  have D2 : Hid (Below w.heap.size w w2) := Lib.hid (HB1.out.trans (hb2.mono HB1.out.size))
  have S2 := Lib.hid (HS1.out.later hb2)
  have R2 := Lib.hid (HR1.out.later hb2)
  have G2 : Hid (w.heap.size + 2 ≤ w2.heap.size) := Lib.hid (by have := R2.out.lt; omega)
  clear hb0 hb2 hW1 HS1 HR1 HB1
  have SR := Ro.new w2 86 (u32s (List.replicate 8 0))
  have SM := Lib.hid ((Below.refl w2.heap.size w2).alloc (Nat.le_refl _) (.cells (u32s (List.replicate 8 0)).toArray 86))
  go_wp2_with (refine wpList_store_ro rfl (.tmp 5) (.tmp 9) rfl rfl rfl row34 SR (by simp [u32s]) (by rw [u32s_len, pieces_len]) (u32s_one _) ?_)
  intro w3 R3 g3
  have N3 : Hid (AdA w w2.heap.size L W n w3) := Lib.hid ⟨(S2.out.later SM.out).far g3 (fun e => by injection e; have := G2.out; omega), (R2.out.later SM.out).far g3 (fun e => by injection e; have := G2.out; omega), by rw [HN.out]; exact R3,
    (D2.out.trans (SM.out.mono D2.out.size)).grown g3 (by have := D2.out.size; simp; omega) (fun q e => by injection e; have := G2.out; omega)⟩
  clear S2 R2 D2 SM SR R3 g3
  have c0 := N3.out.st.stC HW.out.len (partL_len L)
  have f0 := N3.out.st.free 72
  have rB : n % 64 < 64 := Nat.mod_lt _ (by decide)
  go_wp2_with fail
  have N4 : Hid (AdA w w2.heap.size L W (n + m) (w3.setCell ⟨w.heap.size, 72, none⟩ (.int .u64 ((n + m : Nat) : Int)))) := Lib.hid ⟨by have h := N3.out.st.set 72 (.int .u64 ((n + m : Nat) : Int)); rwa [stV_count HW.out.len (partL_len L)] at h, N3.out.rs.other (by omega) _, N3.out.ws.other (by have := G2.out; omega) _, N3.out.bel.setCell (Nat.le_refl _) _⟩
  obtain ⟨w4, hw4⟩ : ∃ w4, w4 = (w3.setCell ⟨w.heap.size, 72, none⟩ (.int .u64 ((n + m : Nat) : Int))) := ⟨_, rfl⟩
  rw [← hw4] at N4
  go_loopw [1, 6] (fun b f wr => ∃ (K : Nat) (A : Option Addr) (c : Nat), K ≤ m ∧ b = .slice A (m - K) c ∧ m - K ≤ c ∧ f = .int .i64 (((n + K) % 64 : Nat) : Int) ∧ Bs w A (m - K) (M.drop K) ∧ AdA w w2.heap.size (L ++ M.take K) W (n + m) wr) (fun b _ _ => lenOf b)
  case atStart => exact ⟨0, A, c, by omega, rfl, hc, by go_num, HA.out, by simpa [hw4] using N4.out⟩
  case round =>
    clear N3 N4 hw4 c0 f0 rB HA
    obtain ⟨K, A, c, hK, rfl, hc, rfl, hA, N⟩ := hrel
    have HN5 := Lib.hid N
    have HA := Lib.hid hA
    clear hA N
    have eX : (L ++ M.take K).length = n + K := by rw [List.length_append, List.length_take, HN.out, HM.out]; omega
    have bX : AllB (L ++ M.take K) := HL.out.app (fun x hx => HMB.out x (List.mem_of_mem_take hx))
    by_cases hlt : K < m
    · obtain ⟨r, hr⟩ : ∃ r, (n + K) % 64 = r := ⟨_, rfl⟩
      obtain ⟨d, hd⟩ : ∃ d, m - K = d := ⟨_, rfl⟩
      obtain ⟨q, hq⟩ : ∃ q, min d (64 - r) = q := ⟨_, rfl⟩
      have r64 : r < 64 := by omega
      have d0 : 0 < d := by omega
      have qd : q ≤ d := by omega
      have q0 : 0 < q := by omega
      have qr : r + q ≤ 64 := by omega
      have yl : ((M.drop K).take q).length = q := by rw [List.length_take, List.length_drop, HM.out]; omega
      have tm := take_more L M K q
      have yB : AllB ((M.drop K).take q) := fun x hx => HMB.out x (List.mem_of_mem_drop (List.mem_of_mem_take hx))
      have rX : (L ++ M.take K).length % 64 = r := by rw [eX, hr]
      have k1 : (n + (K + q)) % 64 = (r + q) % 64 := by omega
      have k2 : m - (K + q) = d - q := by omega
      have k3 : K + q ≤ m := by omega
      have k4 : M.drop (K + q) = (M.drop K).drop q := by rw [List.drop_drop]
      have z1 : r + q = 64 ∨ (q = d ∧ r + q < 64) := by omega
      rw [hr, hd]
      rw [hd] at HA hc
      obtain ⟨X, hX⟩ : ∃ X, L ++ M.take K = X := ⟨_, rfl⟩
      obtain ⟨Y, hY⟩ : ∃ Y, (M.drop K).take q = Y := ⟨_, rfl⟩
      rw [hX] at HN5 rX bX tm
      rw [hY] at yl tm yB
      have TM := Lib.hid tm
      have RX := Lib.hid rX
      have BX := Lib.hid bX
      have YL := Lib.hid yl
      have YB := Lib.hid yB
      have K1 := Lib.hid k1
      have K2 := Lib.hid k2
      have K3 := Lib.hid k3
      have K4 := Lib.hid k4
      have HQ := Lib.hid hq
      have HY := Lib.hid hY
      have dm : d ≤ 1099511627776 := by omega
      clear tm rX bX yl yB k1 k2 k3 k4 hq hX hY hr hd eX hlt hK
      have t0 : decide ((0 : Int) < (d : Int)) = true := decide_eq_true (by omega)
      have fin : ∀ (A' : Option Addr) (f : Nat) (w8 : World), (∀ w' L, Bs w' A d L → Bs w' A' (d - q) (L.drop q)) → (r + q) % 64 = f → AdA w w2.heap.size (X ++ Y) W (n + m) w8 →
          ∃ (K : Nat) (A : Option Addr) (c' : Nat), K ≤ m ∧ Value.slice A' (d - q) (c - q) = .slice A (m - K) c' ∧ m - K ≤ c' ∧ Value.int .i64 (f : Int) = .int .i64 (((n + K) % 64 : Nat) : Int) ∧ Bs w A (m - K) (M.drop K) ∧ AdA w w2.heap.size (L ++ M.take K) W (n + m) w8 := by
        intro A' f w8 h1 h2 h3
        refine ⟨K + q, A', c - q, K3.out, by rw [K2.out], by rw [K2.out]; omega, by rw [K1.out, h2], ?_, by rw [TM.out]; exact h3⟩
        rw [K2.out, K4.out]
        exact h1 w _ HA.out
      have FIN := Lib.hid fin
      clear fin
      go_wp2_with (first | (refine wpList_arr rfl (.tmp 24) (.tmp 25) rfl rfl rfl r64 ?_) | (refine wpList_copy_gr rfl (.tmp 26) (.tmp 27) rfl rfl rfl HN5.out.st (HA.out.later HN5.out.bel) (by rw [stV_len HW.out.len (partL_len _)]; omega) HQ.out ?_))
      intro w5 R5 g5
      rw [HY.out] at R5
      have hR5 := Lib.hid R5
      have hg5 := Lib.hid g5
      clear R5 g5
      go_wp2_with (refine wpList_from rfl (.tmp 29) (.tmp 30) rfl rfl rfl qd hc ?_)
      intro A' hA'
      have HA' := Lib.hid hA'
      clear hA'
      rcases z1 with z1 | ⟨z1, z2⟩
      · have NB := Lib.hid (HN5.out.full HW.out.len G2.out (by rw [YL.out]; exact z1) hR5.out hg5.out)
        have t1 : decide ((r : Int) + (q : Int) = 64) = true := decide_eq_true (by omega)
        have PL : Hid ((splice (partL X) r Y).length = 64) := Lib.hid (by rw [length_splice _ _ _ (by rw [YL.out, partL_len]; omega), partL_len])
        clear hR5 hg5
        have e64 : (r : Int) + (q : Int) = 64 := by omega
        go_wp2_with (first | (refine wpList_load_ro rfl (.tmp 5) rfl rfl row34 NB.out.ws (by rw [u32s_len, pieces_len]) ?_) | (refine wpList_load_part rfl (.tmp 38) rfl rfl row35 (NB.out.st.stP HW.out.len) (by rw [vals_length, PL.out]) ?_))
        refine (mix_any (pieces_len _ _) PL.out (splice_byt _ (partL_byt BX.out) YB.out) _ (HD.out.later HD.out.lt NB.out.bel)).mono ?_
        rintro e w6 ⟨rfl, hb⟩
        have N6 := Lib.hid (NB.out.later hb)
        clear hb NB
        go_wp2_with (refine wpList_store_ro rfl (.tmp 5) (.tmp 40) rfl rfl rfl row34 N6.out.ws (by rw [u32s_len, pieces_len]) (by rw [u32s_len, comp_len]) (u32s_one _) ?_)
        intro w7 R7 g7
        have N7 := Lib.hid (N6.out.words G2.out R7 g7)
        clear R7 g7 N6
        go_wp2_with (refine wpList_store_part (vs := vals (List.replicate 64 0)) rfl (.tmp 42) (.tmp 41) rfl rfl rfl row35 N7.out.st (by rw [stV_len HW.out.len PL.out]; omega) (by rw [vals_length]; rfl) (vals_one _) ?_)
        intro w8 R8 g8
        have N8 := Lib.hid ((N7.out.parts G2.out HW.out.len (by rw [PL.out]; rfl) R8 g8).done RX.out (by rw [YL.out]; exact z1))
        clear R8 g8 N7
        go_wp2_with fail
        exact ⟨FIN.out A' 0 w8 HA'.out (by omega) N8.out, by simp [lenOf]; omega⟩
      · have N8 := Lib.hid (HN5.out.more HW.out.len G2.out RX.out (by rw [YL.out]; exact z2) hR5.out hg5.out)
        have t1 : decide ((r : Int) + (q : Int) = 64) = false := decide_eq_false (by omega)
        have e64 : ¬ (r : Int) + (q : Int) = 64 := by omega
        have hf : (r + q) % 64 = r + q := by omega
        have HF := Lib.hid hf
        clear hR5 hg5 z1 hf
        go_wp2_with fail
        have F := FIN.out A' _ w5 HA'.out HF.out N8.out
        rw [Int.natCast_add] at F
        exact ⟨F, by simp [lenOf]; omega⟩
    · obtain rfl : K = m := by omega
      have eL : L ++ M.take K = L ++ M := by rw [List.take_of_length_le (by rw [HM.out]; exact Nat.le_refl _)]
      rw [eL] at HN5 eX
      obtain ⟨X, hX⟩ : ∃ X, L ++ M = X := ⟨_, rfl⟩
      rw [hX] at HN5 eX
      have HX := Lib.hid hX
      have EX := Lib.hid eX
      have c1 := HN5.out.st.stC HW.out.len (partL_len X)
      clear hX eX eL bX hlt HA hK
      rw [Nat.sub_self]
      by_cases h64 : 64 ≤ n + K
      · have t1 : decide ((64 : Int) ≤ ((n + K : Nat) : Int)) = true := decide_eq_true (by omega)
        go_wp2_with (first | (refine wpList_load_ro rfl (.tmp 5) rfl rfl row34 HN5.out.ws (by rw [u32s_len, pieces_len]) ?_) | (refine wpList_store_part (k := 0) rfl (.tmp 47) (.tmp 46) rfl rfl rfl row34 HN5.out.st (by rw [stV_len HW.out.len (partL_len X)]; omega) (by rw [u32s_len, pieces_len]) (u32s_one _) ?_))
        intro w6 R6 g6
        rw [stV_words (by rw [pieces_len, HW.out.len])] at R6
        have S6 := Lib.hid R6
        have B6 := Lib.hid (HN5.out.bel.grown g6 HN5.out.bel.size (fun q e => by injection e; omega))
        have R7 := Lib.hid (HN5.out.rs.far g6 (fun e => by injection e; omega))
        clear R6 g6
        go_wp2_with (first | (refine wpList_load_ro rfl (.tmp 2) rfl rfl row38 S6.out (stV_len (pieces_len _ _) (partL_len X)) ?_) | (refine wpList_store_ro rfl (.tmp 4) (.tmp 48) rfl rfl rfl row38 R7.out (stV_len rfl rfl) (stV_len (pieces_len _ _) (partL_len X)) (stV_one _ _ _) ?_))
        intro w8 R8 g8
        go_wp2_with fail
        exact bodyPost_ret (results_ro Tryd.results64 _ rfl row38 R8 (stV_len (pieces_len _ _) (partL_len X))) rfl ⟨pieces X (X.length / 64), by rw [HX.out, EX.out], ⟨pieces_len _ _, fun _ => by rw [HX.out], fun h => absurd h (by rw [HX.out, EX.out]; omega)⟩, B6.out.grown g8 B6.out.size (fun q e => by injection e; omega)⟩
      · have t1 : decide ((64 : Int) ≤ ((n + K : Nat) : Int)) = false := decide_eq_false (by omega)
        go_wp2_with (first | (refine wpList_load_ro rfl (.tmp 2) rfl rfl row38 HN5.out.st (stV_len HW.out.len (partL_len X)) ?_) | (refine wpList_store_ro rfl (.tmp 4) (.tmp 48) rfl rfl rfl row38 HN5.out.rs (stV_len rfl rfl) (stV_len HW.out.len (partL_len X)) (stV_one _ _ _) ?_))
        intro w8 R8 g8
        go_wp2_with fail
        exact bodyPost_ret (results_ro Tryd.results64 _ rfl row38 R8 (stV_len HW.out.len (partL_len X))) rfl ⟨W, by rw [HX.out, EX.out], ⟨HW.out.len, fun h => absurd h (by rw [HX.out, EX.out]; omega), fun _ => HW.out.zer (by rw [HN.out]; omega)⟩, HN5.out.bel.grown g8 HN5.out.bel.size (fun q e => by injection e; omega)⟩
end Go.Proofs.YtbdjcbdnhaddoaaDoor

/- The sum of a state's bytes, as the code reckons it. No condition but a bound on the length. -/
namespace Go.Proofs.YtbdjcbdnhaddoaaDoor
open Go.RowKit

/-! What the last piece is. -/
theorem part_set (L : List Nat) : (partL L).set (L.length % 64) 128 = endB L := by
  unfold partL endB
  rw [List.set_append_right _ _ (by rw [rest_len]; exact Nat.le_refl _), rest_len, Nat.sub_self, show 64 - L.length % 64 = (63 - L.length % 64) + 1 by omega, List.replicate_succ]
  rfl
theorem endA_len {L : List Nat} (h : L.length % 64 < 56) : (endA L).length = 56 := by
  unfold endA; rw [List.length_append, rest_len, List.length_cons, List.length_replicate]; omega
theorem endB_len (L : List Nat) : (endB L).length = 64 := by rw [← part_set, List.length_set, partL_len]
theorem endB_short {L : List Nat} (h : L.length % 64 < 56) : endB L = endA L ++ upW [] 8 := by
  unfold endB endA upW
  rw [show 63 - L.length % 64 = (55 - L.length % 64) + 8 by omega, ← List.replicate_append_replicate]
  simp
theorem endB_byt {L : List Nat} (h : AllB L) : AllB (endB L) := AllB.app (fun x hx => h x (List.mem_of_mem_drop hx)) (AllB.app (L := [128]) (allB_one (by decide)) (allB_zeros _))
theorem endA_byt {L : List Nat} (h : AllB L) : AllB (endA L) := AllB.app (fun x hx => h x (List.mem_of_mem_drop hx)) (AllB.app (L := [128]) (allB_one (by decide)) (allB_zeros _))
theorem bits8_byt (n : Nat) : AllB (bits8 n) := fun x hx => by
  simp only [bits8, List.mem_map] at hx
  obtain ⟨i, _, rfl⟩ := hx
  exact Nat.mod_lt _ (by decide)
theorem bits8_get (n i : Nat) (h : i < 8) : (bits8 n)[i]? = some (n * 8 % 18446744073709551616 / 2 ^ (56 - 8 * i) % 256) := by
  simp [bits8, h]
def upB (Z : List Nat) (n i : Nat) : List Nat := Z ++ upW ((bits8 n).take i) 8
theorem upB_next {Z : List Nat} (hZ : Z.length = 56) (n i x : Nat) (hi : i < 8) (hx : x = n * 8 % 18446744073709551616 / 2 ^ (56 - 8 * i) % 256) : (upB Z n i).set (56 + i) x = upB Z n (i + 1) := by
  unfold upB
  have hl : ((bits8 n).take i).length = i := by rw [List.length_take, bits8_len]; omega
  rw [List.set_append_right _ _ (by omega), hZ, Nat.add_sub_cancel_left]
  have h := upW_set (W := (bits8 n).take i) (n := 8) x (by omega)
  rw [hl] at h
  rw [h, hx, List.take_add_one, bits8_get n i hi]
  rfl
theorem upB_len {Z : List Nat} (hZ : Z.length = 56) (n i : Nat) (hi : i ≤ 8) : (upB Z n i).length = 64 := by
  unfold upB
  rw [List.length_append, hZ, upW_len (by rw [List.length_take]; omega)]
theorem upB_full (Z : List Nat) (n : Nat) : upB Z n 8 = Z ++ bits8 n := by
  unfold upB
  rw [List.take_of_length_le (by rw [bits8_len]; exact Nat.le_refl _), upW_full (bits8_len n)]

structure EnA (w : World) (B C : Nat) (H P : List Nat) (wr : World) : Prop where
  rs : Ro wr (w.heap.size + 1) 32 (vals (List.replicate 32 0))
  ws : Ro wr B 86 (u32s H)
  la : Ro wr C 87 (vals P)
  bel : Below w.heap.size w wr
section
variable {w : World} {B C : Nat} {H P : List Nat} {wr w1 : World}
theorem EnA.later (N : EnA w B C H P wr) (b : Below wr.heap.size wr w1) : EnA w B C H P w1 := ⟨N.rs.later b, N.ws.later b, N.la.later b, N.bel.trans (b.mono N.bel.size)⟩
theorem EnA.words {H' : List Nat} (N : EnA w B C H P wr) (hB : w.heap.size + 2 ≤ B) (ne : B ≠ C) (R : Ro w1 B 86 (u32s H')) (g : wr.grownBy w1 (some B)) : EnA w B C H' P w1 :=
  ⟨N.rs.far g (fun e => by injection e; omega), R, N.la.far g (fun e => by injection e; omega), N.bel.grown g N.bel.size (fun q e => by injection e; omega)⟩
theorem EnA.last {P' : List Nat} (N : EnA w B C H P wr) (hC : w.heap.size + 2 ≤ C) (ne : B ≠ C) (R : Ro w1 C 87 (vals P')) (g : wr.grownBy w1 (some C)) : EnA w B C H P' w1 :=
  ⟨N.rs.far g (fun e => by injection e; omega), N.ws.far g (fun e => by injection e; omega), R, N.bel.grown g N.bel.size (fun q e => by injection e; omega)⟩
theorem EnA.set (N : EnA w B C H P wr) (hC : w.heap.size + 2 ≤ C) (ne : B ≠ C) (k x : Nat) : EnA w B C H (P.set k x) (wr.setCell ⟨C, k, none⟩ (.int .u8 (x : Int))) :=
  ⟨N.rs.other (by omega) _, N.ws.other (by omega) _, N.la.set8 k x, N.bel.setCell (by simp; omega) _⟩
end

theorem quiet_load_part {o : Oper} {a : Act} {D : World → Prop} {K : Act → Prop} {T : TypeId} {n b k : Nat} {vs : List Value} (x : Operand) (ho : o.op = .load T x) (hx : a.eval x = .pointer (some ⟨b, k, none⟩)) (hT : IsRow T n)
    (hC : ∀ w, D w → w.rangeAt b k vs) (hl : vs.length = n) (hk : K (a.put o.dst (.agg vs.toArray))) : o.quiet Tryd.prog a D K :=
  ⟨.agg vs.toArray, fun w hw => by
    unfold Oper.quietAt execOp
    obtain ⟨⟨f, h1⟩ | ⟨j, e, h1⟩, h3⟩ := hT
    · simp only [ho, hx, Instr.loadAt, Instr.sureAddr, Sem.run_bind, Sem.run_pure, Result.andThen_ok, run_loadVar_mid w b k T vs _ (hC w hw) h1 rfl (by rw [h3]; simp [hl])]
      exact ⟨rfl, rfl⟩
    · simp only [ho, hx, Instr.loadAt, Instr.sureAddr, Sem.run_bind, Sem.run_pure, Result.andThen_ok, run_loadVar_mid w b k T vs _ (hC w hw) h1 rfl (by rw [h3]; simp [hl])]
      exact ⟨rfl, rfl⟩, hk⟩
theorem rangeAt_later {w w1 : World} {b k : Nat} {vs : List Value} {T : TypeId} {zs : List Value} (R : Ro w b T zs) (h : w.rangeAt b k vs) (g : Below w.heap.size w w1) : w1.rangeAt b k vs := fun j v hv => by
  rw [← h j v hv]; exact g.cell R.lt
theorem Ro.whole {w : World} {b : Nat} {T : TypeId} {zs : List Value} (R : Ro w b T zs) : w.rangeAt b 0 zs := fun j v hv => by rw [Nat.zero_add]; exact R.cell hv
theorem wp_store_ro {w : World} {o : Oper} {a : Act} {Q : Exit → Act → World → Prop} {K : Act → World → Prop} {T S : TypeId} {n b : Nat} {vs zs : List Value} (x y : Operand) (ho : o.op = .store T x y) (hx : a.eval x = .pointer (some ⟨b, 0, none⟩)) (hy : a.eval y = .agg vs.toArray) (hT : IsRow T n) (hr : Ro w b S zs) (hz : zs.length = n) (hl : vs.length = n) (h1 : ∀ u ∈ vs, u.oneCell' = true)
    (h : ∀ w', Ro w' b S vs → w.grownBy w' (some b) → K (a.put o.dst undef) w') : o.wp Tryd.prog a w K Q :=
  wp_store_row T x y ho b vs.toArray hx hy S zs.toArray hr (by rw [hT.info]; simp [hl]) (by simp [hz, hl]) (all_one h1) (h _ (setRow_heap w b _ _ _ _ hr) (grownBy_setRow w b _))

set_option maxRecDepth 100000 in
set_option maxHeartbeats 4000000 in
theorem end_any {L W : List Nat} (hW : WOf L W) (hL : AllB L) (hl : L.length < 2199023255552) (w : World) (hLd : Laid w) :
    Calls Tryd.prog 65 #[.agg (stV W (partL L) L.length).toArray] w fun e w' => e = .returned (.agg (vals (shaS L)).toArray) ∧ Below w.heap.size w w' := by
  have S0 := Ro.new w 89 (stV W (partL L) L.length)
  have S1 := S0.alloc (.cells (vals (List.replicate 32 0)).toArray 32)
  have R1 := Ro.new (w.alloc (.cells (stV W (partL L) L.length).toArray 89)) 32 (vals (List.replicate 32 0))
  rw [World.size_alloc] at R1
  have B1 := ((Below.refl w.heap.size w).alloc (Nat.le_refl _) (.cells (stV W (partL L) L.length).toArray 89)).alloc (by simp) (.cells (vals (List.replicate 32 0)).toArray 32)
  have HS1 := Lib.hid S1
  have HR1 := Lib.hid R1
  have HB1 := Lib.hid B1
  have HW := Lib.hid hW
  have HL := Lib.hid hL
  have HD := Lib.hid hLd
  clear hW hL hLd S0 S1 R1 B1
  obtain ⟨n, hn⟩ : ∃ n, L.length = n := ⟨_, rfl⟩
  rw [hn] at hl
  have HN := Lib.hid hn
  rw [hn] at HS1 HR1 HB1 ⊢
  clear hn
  have CS : Hid (∀ w1, Laid w1 → Calls Tryd.prog 76 #[.agg (stV W (partL L) n).toArray] w1 fun e w' => e = .returned (.agg (u32s (pieces L (n / 64))).toArray) ∧ Below w1.heap.size w1 w') := Lib.hid (by
    intro w1 h1
    have h := sum_any HW.out (by rw [HN.out]; omega) w1 h1
    rwa [HN.out] at h)
  go_enter Tryd.func65, Tryd.ntmps65
  go_wp2_with fail
  obtain ⟨W1, hW1⟩ : ∃ W1, W1 = ((w.alloc (.cells (stV W (partL L) n).toArray 89)).alloc (.cells (vals (List.replicate 32 0)).toArray 32)) := ⟨_, rfl⟩
  rw [← hW1] at HS1 HR1 HB1
  change Code.wp _ _ _ _ ((w.alloc (.cells (stV W (partL L) n).toArray 89)).alloc (.cells (vals (List.replicate 32 0)).toArray 32))
  rw [← hW1]
  clear hW1
  refine wp_region_grow 4 (by kernel_rfl) (Nat.le_of_ble_eq_true (by kernel_rfl)) (by kernel_rfl) (by kernel_rfl) (fun _ _ _ _ _ h => h) ?_
  apply Exists.intro
  refine ⟨?_, ?_⟩
  · intro wg hg
    simp only [List.take_succ_cons, List.take_zero]
    have SG := HS1.out.later hg
    have DG : ∀ u : After wg, Laid u.w := fun u => HD.out.later HD.out.lt ((HB1.out.trans (hg.mono HB1.out.size)).trans (u.below.mono (Nat.le_trans HB1.out.size hg.size)))
    have C : ∀ u : After wg, Calls Tryd.prog 76 #[.agg (stV W (partL L) n).toArray] u.w fun e w' => e = .returned (.agg (u32s (pieces L (n / 64))).toArray) ∧ Below u.w.heap.size u.w w' := fun u => CS.out u.w (DG u)
    have HC := Lib.hid C
    have HSG := Lib.hid SG
    clear C DG SG
    go_big_quiet_want
    refine quiet_load_part (.tmp 1) rfl rfl row38 (fun w9 h9 => by obtain ⟨u, rfl⟩ := h9; exact rangeAt_later HSG.out HSG.out.whole u.below) (stV_len HW.out.len (partL_len L)) ?_
    simp only [Act.put, List.setIfInBounds_toArray, List.set_cons_succ, List.set_cons_zero]
    go_big_quiet_on
    go_big_quiet_step (exact after_call (HC.out _))
    go_big_quiet_step (fail)
    go_big_quiet_want
    refine quiet_load_part (.tmp 10) rfl rfl row35 (fun w9 h9 => by obtain ⟨u, rfl⟩ := h9; exact rangeAt_later HSG.out (HSG.out.stP HW.out.len) u.below) (by rw [vals_length, partL_len]) ?_
    simp only [Act.put, List.setIfInBounds_toArray, List.set_cons_succ, List.set_cons_zero]
    go_big_quiet_on
    refine wpQuiet_nil ?_
    exact rfl
  intro wg hg
  show wpK _ _ _ _ _ 4 _ _ _
  refine wpK_box2 (f := 2) (i := 4) (k := 5) (c := (u32s (List.replicate 8 0)).toArray) (c2 := (vals (List.replicate 64 0)).toArray) (T := 86) (T2 := 87) (by kernel_rfl) (by kernel_rfl) (by kernel_rfl) (by decide) rfl rfl rfl rfl rfl rfl (by decide) (fun a w => by go_simp; rfl) (fun a w => by go_simp; rfl) hg ?_
  intro B C wh gh lB lC ne HB HC
  replace lB := Nat.le_trans hg.size lB
  replace lC := Nat.le_trans hg.size lC
  have ge := hg.trans gh
  clear hg gh
  refine wpK_one (f := 1) (i := 6) (by kernel_rfl) rfl rfl ?_
  intro wc gc K hK
  refine wp_store_ro (vs := u32s (pieces L (n / 64))) (.tmp 3) (.tmp 9) rfl rfl rfl row34 (HB.later gc) (by simp [u32s]) (by rw [u32s_len, pieces_len]) (u32s_one _) ?_
  intro wd RB gB
  refine hK _ _ ((ge.trans gc).grown gB (Nat.le_trans ge.size gc.size) (fun q e => by injection e; omega)) ?_
  have HC2 := Ro.far (HC.later gc) gB (fun e => by injection e; omega)
  replace ge : Grows W1 wd := (ge.trans gc).grown gB (Nat.le_trans ge.size gc.size) (fun q e => by injection e; omega)
  clear hK K gB gc HB HC
  refine wpK_one (f := 0) (i := 7) (by kernel_rfl) rfl rfl ?_
  intro we gc K hK
  refine wp_store_ro (vs := vals (partL L)) (.tmp 4) (.tmp 11) rfl rfl rfl row35 (HC2.later gc) (by simp [vals]) (by rw [vals_length, partL_len]) (vals_one _) ?_
  intro wf RC gC
  have RB2 := Ro.far (RB.later gc) gC (fun e => by injection e; omega)
  replace ge : Grows W1 wf := (ge.trans gc).grown gC (Nat.le_trans ge.size gc.size) (fun q e => by injection e; omega)
  refine hK _ _ ge ?_
  clear hK K gC gc HC2 RB
  refine wpK_end (by kernel_rfl) ?_
  intro wi gi
  have S3 := Lib.hid (HS1.out.later (ge.trans gi))
  have lW : w.heap.size + 2 ≤ W1.heap.size := by have := HR1.out.lt; omega
  have LB : Hid (w.heap.size + 2 ≤ B) := Lib.hid (Nat.le_trans lW lB)
  have LC : Hid (w.heap.size + 2 ≤ C) := Lib.hid (Nat.le_trans lW lC)
  have NE := Lib.hid ne
  have N3 : Hid (EnA w B C (pieces L (n / 64)) (partL L) wi) := Lib.hid ⟨HR1.out.later (ge.trans gi), RB2.later gi, RC.later gi, HB1.out.trans ((ge.trans gi).mono HB1.out.size)⟩
  clear ge gi RB2 RC HS1 HR1 HB1 lW lB lC ne
  have c0 := S3.out.stC HW.out.len (partL_len L)
  have hmod : n % 64 < 64 := Nat.mod_lt _ (by decide)
  obtain ⟨r, hr⟩ : ∃ r, n % 64 = r := ⟨_, rfl⟩
  rw [hr] at hmod
  have er : (n : Int) % 64 = (r : Int) := by omega
  have HR := Lib.hid hr
  have c1 := N3.out.la.u8 (k := r) (by rw [partL_len]; exact hmod)
  have f1 := N3.out.la.free r
  clear hr
  show Exit.then _ _ Exit.normal _ _
  have N4 : Hid (EnA w B C (pieces L (n / 64)) (endB L) (wi.setCell ⟨C, r, none⟩ (.int .u8 ((128 : Nat) : Int))) ∧ Ro (wi.setCell ⟨C, r, none⟩ (.int .u8 ((128 : Nat) : Int))) w.heap.size 89 (stV W (partL L) n)) := Lib.hid (by
    have h := N3.out.set LC.out NE.out r 128
    have e : (partL L).set r 128 = endB L := by rw [← HR.out, ← HN.out]; exact part_set L
    rw [e] at h
    exact ⟨h, S3.out.other (by have := LC.out; omega) _⟩)
  clear N3 S3
  by_cases hr56 : r < 56
  · have t1 : decide ((56 : Int) ≤ (r : Int)) = false := decide_eq_false (by omega)
    have hLr : L.length % 64 < 56 := by rw [HN.out, HR.out]; exact hr56
    have eB := endB_short hLr
    rw [eB] at N4
    obtain ⟨Z, hZ⟩ : ∃ Z, endA L = Z := ⟨_, rfl⟩
    obtain ⟨H, hH⟩ : ∃ H, pieces L (n / 64) = H := ⟨_, rfl⟩
    rw [hZ, hH] at N4
    have ZL : Hid (Z.length = 56) := Lib.hid (by rw [← hZ]; exact endA_len hLr)
    have ZB : Hid (AllB Z) := Lib.hid (by rw [← hZ]; exact endA_byt HL.out)
    have H8 : Hid (H.length = 8) := Lib.hid (by rw [← hH]; exact pieces_len _ _)
    have SH : Hid (bytesS (comp H (Z ++ bits8 n)) = shaS L) := Lib.hid (by rw [sha_short L hLr, HN.out, hZ, hH])
    rw [hH]
    clear hZ hH eB hLr
    have N5 : Hid (EnA w B C H (upB Z n 0) (wi.setCell ⟨C, r, none⟩ (.int .u8 ((128 : Nat) : Int))) ∧ Ro (wi.setCell ⟨C, r, none⟩ (.int .u8 ((128 : Nat) : Int))) w.heap.size 89 (stV W (partL L) n)) := Lib.hid N4.out
    clear N4
    have c72 := N5.out.2.stC HW.out.len (partL_len L)
    have wr8 : IntKind.u64.wrap ((n : Int) * 8) = ((n * 8 % 18446744073709551616 : Nat) : Int) := by rw [IntKind.wrap_u64]; omega
    go_wp2_with fail
    go_loopw [27] (fun i wr => ∃ t : Nat, t ≤ 8 ∧ i = .int .i64 (t : Nat) ∧ EnA w B C H (upB Z n t) wr) (fun i _ => 8 - (intOf i).toNat)
    case atStart => exact ⟨0, by omega, rfl, N5.out.1⟩
    case round =>
      clear N5
      obtain ⟨t, ht, rfl, N⟩ := hrel
      have HN5 := Lib.hid N
      clear N
      by_cases hlt : t < 8
      · have ca := HN5.out.la.u8 (k := 56 + t) (by rw [upB_len ZL.out n t ht]; omega)
        have fa := HN5.out.la.free (56 + t)
        have FN : Hid (∀ (V : Int) (D : Nat), D = 2 ^ (56 - 8 * t) → V = ((n * 8 % 18446744073709551616 / D % 256 : Nat) : Int) → EnA w B C H (upB Z n (t + 1)) (wr.setCell ⟨C, 56 + t, none⟩ (.int .u8 V))) := Lib.hid (fun V D hD hV => by
          subst hD
          subst hV
          have h := HN5.out.set LC.out NE.out (56 + t) (n * 8 % 18446744073709551616 / 2 ^ (56 - 8 * t) % 256)
          rwa [upB_next ZL.out n t _ hlt rfl] at h)
        have z8 : t = 0 ∨ t = 1 ∨ t = 2 ∨ t = 3 ∨ t = 4 ∨ t = 5 ∨ t = 6 ∨ t = 7 := by omega
        clear HN5 hlt ht
        rcases z8 with rfl | rfl | rfl | rfl | rfl | rfl | rfl | rfl
        · go_wp2_with fail
          exact ⟨⟨1, by omega, rfl, FN.out _ 72057594037927936 rfl (by omega)⟩, by simp [intOf]⟩
        · go_wp2_with fail
          exact ⟨⟨2, by omega, rfl, FN.out _ 281474976710656 rfl (by omega)⟩, by simp [intOf]⟩
        · go_wp2_with fail
          exact ⟨⟨3, by omega, rfl, FN.out _ 1099511627776 rfl (by omega)⟩, by simp [intOf]⟩
        · go_wp2_with fail
          exact ⟨⟨4, by omega, rfl, FN.out _ 4294967296 rfl (by omega)⟩, by simp [intOf]⟩
        · go_wp2_with fail
          exact ⟨⟨5, by omega, rfl, FN.out _ 16777216 rfl (by omega)⟩, by simp [intOf]⟩
        · go_wp2_with fail
          exact ⟨⟨6, by omega, rfl, FN.out _ 65536 rfl (by omega)⟩, by simp [intOf]⟩
        · go_wp2_with fail
          exact ⟨⟨7, by omega, rfl, FN.out _ 256 rfl (by omega)⟩, by simp [intOf]⟩
        · go_wp2_with fail
          exact ⟨⟨8, by omega, rfl, FN.out _ 1 rfl (by omega)⟩, by simp [intOf]⟩
      · obtain rfl : t = 8 := by omega
        rw [upB_full] at HN5
        go_wp2_with (first | (refine wpList_load_ro rfl (.tmp 3) rfl rfl row34 HN5.out.ws (by rw [u32s_len, H8.out]) ?_) | (refine wpList_load_ro rfl (.tmp 4) rfl rfl row35 HN5.out.la (by rw [vals_length, List.length_append, ZL.out, bits8_len]) ?_))
        refine (mix_any H8.out (by rw [List.length_append, ZL.out, bits8_len]) (ZB.out.app (bits8_byt _)) _ (HD.out.later HD.out.lt HN5.out.bel)).mono ?_
        rintro e w6 ⟨rfl, hb⟩
        have N6 := Lib.hid (HN5.out.later hb)
        clear hb HN5
        go_wp2_with fail
        refine (bytesOf_any (comp_len _ _) _).mono ?_
        rintro e w7 ⟨rfl, hb⟩
        have N7 := Lib.hid (N6.out.later hb)
        clear hb N6
        rw [SH.out]
        go_wp2_with (refine wpList_store_ro rfl (.tmp 2) (.tmp 43) rfl rfl rfl row26 N7.out.rs (by rw [vals_length]; rfl) (by rw [vals_length]; exact bytesS_len _) (vals_one _) ?_)
        intro w8 R8 g8
        go_wp2_with fail
        exact bodyPost_ret (results_ro Tryd.results65 _ rfl row26 R8 (by rw [vals_length]; exact bytesS_len _)) rfl ⟨rfl, N7.out.bel.grown g8 N7.out.bel.size (fun q e => by injection e; omega)⟩
  · have t1 : decide ((56 : Int) ≤ (r : Int)) = true := decide_eq_true (by omega)
    have hLr : 56 ≤ L.length % 64 := by rw [HN.out, HR.out]; omega
    obtain ⟨H0, hH0⟩ : ∃ H, pieces L (n / 64) = H := ⟨_, rfl⟩
    rw [hH0] at N4
    have H08 : Hid (H0.length = 8) := Lib.hid (by rw [← hH0]; exact pieces_len _ _)
    have SL : Hid (shaS L = bytesS (comp (comp H0 (endB L)) (List.replicate 56 0 ++ bits8 n))) := Lib.hid (by rw [sha_long L hLr, HN.out, hH0])
    rw [hH0]
    clear hH0 hLr
    go_wp2_with (first | (refine wpList_load_ro rfl (.tmp 3) rfl rfl row34 N4.out.1.ws (by rw [u32s_len, H08.out]) ?_) | (refine wpList_load_ro rfl (.tmp 4) rfl rfl row35 N4.out.1.la (by rw [vals_length, endB_len]) ?_))
    refine (mix_any H08.out (endB_len L) (endB_byt HL.out) _ (HD.out.later HD.out.lt N4.out.1.bel)).mono ?_
    rintro e w3 ⟨rfl, hb⟩
    have M3 : Hid (EnA w B C H0 (endB L) w3 ∧ Ro w3 w.heap.size 89 (stV W (partL L) n)) := Lib.hid ⟨N4.out.1.later hb, N4.out.2.later hb⟩
    clear hb N4
    go_wp2_with (refine wpList_store_ro rfl (.tmp 3) (.tmp 22) rfl rfl rfl row34 M3.out.1.ws (by rw [u32s_len, H08.out]) (by rw [u32s_len, comp_len]) (u32s_one _) ?_)
    intro w4 R4 g4
    have M4 : Hid (EnA w B C (comp H0 (endB L)) (endB L) w4 ∧ Ro w4 w.heap.size 89 (stV W (partL L) n)) := Lib.hid ⟨M3.out.1.words LB.out NE.out R4 g4, M3.out.2.far g4 (fun e => by injection e; have := LB.out; omega)⟩
    clear R4 g4 M3
    go_wp2_with (refine wpList_store_ro (vs := vals (List.replicate 64 0)) rfl (.tmp 4) (.tmp 23) rfl rfl rfl row35 M4.out.1.la (by rw [vals_length, endB_len]) (by rw [vals_length]; rfl) (vals_one _) ?_)
    intro w5 R5 g5
    have M5 : Hid (EnA w B C (comp H0 (endB L)) (List.replicate 64 0) w5 ∧ Ro w5 w.heap.size 89 (stV W (partL L) n)) := Lib.hid ⟨M4.out.1.last LC.out NE.out R5 g5, M4.out.2.far g5 (fun e => by injection e; have := LC.out; omega)⟩
    clear R5 g5 M4
    obtain ⟨Z, hZ⟩ : ∃ Z, List.replicate 56 0 = Z := ⟨_, rfl⟩
    obtain ⟨H, hH⟩ : ∃ H, comp H0 (endB L) = H := ⟨_, rfl⟩
    have e64 : List.replicate 64 0 = upB Z n 0 := by rw [← hZ]; rfl
    rw [hZ, hH] at SL
    rw [hH, e64] at M5
    have ZL : Hid (Z.length = 56) := Lib.hid (by rw [← hZ]; rfl)
    have ZB : Hid (AllB Z) := Lib.hid (by rw [← hZ]; exact allB_zeros 56)
    have H8 : Hid (H.length = 8) := Lib.hid (by rw [← hH]; exact comp_len _ _)
    have SH : Hid (bytesS (comp H (Z ++ bits8 n)) = shaS L) := Lib.hid SL.out.symm
    have N5 : Hid (EnA w B C H (upB Z n 0) w5 ∧ Ro w5 w.heap.size 89 (stV W (partL L) n)) := M5
    clear M5 SL hZ hH e64
    have c72 := N5.out.2.stC HW.out.len (partL_len L)
    have wr8 : IntKind.u64.wrap ((n : Int) * 8) = ((n * 8 % 18446744073709551616 : Nat) : Int) := by rw [IntKind.wrap_u64]; omega
    go_wp2_with fail
    go_loopw [27] (fun i wr => ∃ t : Nat, t ≤ 8 ∧ i = .int .i64 (t : Nat) ∧ EnA w B C H (upB Z n t) wr) (fun i _ => 8 - (intOf i).toNat)
    case atStart => exact ⟨0, by omega, rfl, N5.out.1⟩
    case round =>
      clear N5
      obtain ⟨t, ht, rfl, N⟩ := hrel
      have HN5 := Lib.hid N
      clear N
      by_cases hlt : t < 8
      · have ca := HN5.out.la.u8 (k := 56 + t) (by rw [upB_len ZL.out n t ht]; omega)
        have fa := HN5.out.la.free (56 + t)
        have FN : Hid (∀ (V : Int) (D : Nat), D = 2 ^ (56 - 8 * t) → V = ((n * 8 % 18446744073709551616 / D % 256 : Nat) : Int) → EnA w B C H (upB Z n (t + 1)) (wr.setCell ⟨C, 56 + t, none⟩ (.int .u8 V))) := Lib.hid (fun V D hD hV => by
          subst hD
          subst hV
          have h := HN5.out.set LC.out NE.out (56 + t) (n * 8 % 18446744073709551616 / 2 ^ (56 - 8 * t) % 256)
          rwa [upB_next ZL.out n t _ hlt rfl] at h)
        have z8 : t = 0 ∨ t = 1 ∨ t = 2 ∨ t = 3 ∨ t = 4 ∨ t = 5 ∨ t = 6 ∨ t = 7 := by omega
        clear HN5 hlt ht
        rcases z8 with rfl | rfl | rfl | rfl | rfl | rfl | rfl | rfl
        · go_wp2_with fail
          exact ⟨⟨1, by omega, rfl, FN.out _ 72057594037927936 rfl (by omega)⟩, by simp [intOf]⟩
        · go_wp2_with fail
          exact ⟨⟨2, by omega, rfl, FN.out _ 281474976710656 rfl (by omega)⟩, by simp [intOf]⟩
        · go_wp2_with fail
          exact ⟨⟨3, by omega, rfl, FN.out _ 1099511627776 rfl (by omega)⟩, by simp [intOf]⟩
        · go_wp2_with fail
          exact ⟨⟨4, by omega, rfl, FN.out _ 4294967296 rfl (by omega)⟩, by simp [intOf]⟩
        · go_wp2_with fail
          exact ⟨⟨5, by omega, rfl, FN.out _ 16777216 rfl (by omega)⟩, by simp [intOf]⟩
        · go_wp2_with fail
          exact ⟨⟨6, by omega, rfl, FN.out _ 65536 rfl (by omega)⟩, by simp [intOf]⟩
        · go_wp2_with fail
          exact ⟨⟨7, by omega, rfl, FN.out _ 256 rfl (by omega)⟩, by simp [intOf]⟩
        · go_wp2_with fail
          exact ⟨⟨8, by omega, rfl, FN.out _ 1 rfl (by omega)⟩, by simp [intOf]⟩
      · obtain rfl : t = 8 := by omega
        rw [upB_full] at HN5
        go_wp2_with (first | (refine wpList_load_ro rfl (.tmp 3) rfl rfl row34 HN5.out.ws (by rw [u32s_len, H8.out]) ?_) | (refine wpList_load_ro rfl (.tmp 4) rfl rfl row35 HN5.out.la (by rw [vals_length, List.length_append, ZL.out, bits8_len]) ?_))
        refine (mix_any H8.out (by rw [List.length_append, ZL.out, bits8_len]) (ZB.out.app (bits8_byt _)) _ (HD.out.later HD.out.lt HN5.out.bel)).mono ?_
        rintro e w6 ⟨rfl, hb⟩
        have N6 := Lib.hid (HN5.out.later hb)
        clear hb HN5
        go_wp2_with fail
        refine (bytesOf_any (comp_len _ _) _).mono ?_
        rintro e w7 ⟨rfl, hb⟩
        have N7 := Lib.hid (N6.out.later hb)
        clear hb N6
        rw [SH.out]
        go_wp2_with (refine wpList_store_ro rfl (.tmp 2) (.tmp 43) rfl rfl rfl row26 N7.out.rs (by rw [vals_length]; rfl) (by rw [vals_length]; exact bytesS_len _) (vals_one _) ?_)
        intro w8 R8 g8
        go_wp2_with fail
        exact bodyPost_ret (results_ro Tryd.results65 _ rfl row26 R8 (by rw [vals_length]; exact bytesS_len _)) rfl ⟨rfl, N7.out.bel.grown g8 N7.out.bel.size (fun q e => by injection e; omega)⟩
end Go.Proofs.YtbdjcbdnhaddoaaDoor
