/- A state as its cells, and what parts of a text are pieces. No condition. -/
import Derived.Test.YtimjmmiajgfblaaGreatDoorGab
import Derived.Deep.MidRow
import Derived.LoopTactic

namespace Go.Proofs.YtimjmmiajgfblaaGreatDoor
open Go.RowKit

/-! Splices. -/
theorem splice_mid {α : Type} {A B C D : List α} {k : Nat} (hk : A.length = k) (h : D.length = B.length) : splice (A ++ (B ++ C)) k D = A ++ (D ++ C) := by
  subst hk
  unfold splice
  rw [h, List.take_left, ← List.drop_drop, List.drop_left, List.drop_left]
theorem splice_in {α : Type} {A B C D : List α} {j k : Nat} (hk : A.length = j) (h : k + D.length ≤ B.length) : splice (A ++ (B ++ C)) (j + k) D = A ++ (splice B k D ++ C) := by
  subst hk
  unfold splice
  rw [List.take_length_add_append, List.take_append_of_le_length (by omega), Nat.add_assoc, ← List.drop_drop, List.drop_left, List.drop_append_of_le_length (by omega)]
  simp
theorem vals_splice (P M : List Nat) (k : Nat) : vals (splice P k M) = splice (vals P) k (vals M) := by simp [splice, vals, List.map_take, List.map_drop]
theorem splice_tail {α : Type} (A Z D : List α) (h : D.length ≤ Z.length) : splice (A ++ Z) A.length D = A ++ (D ++ Z.drop D.length) := by
  have _ := h
  unfold splice
  rw [List.take_left, ← List.drop_drop, List.drop_left]

/-! Parts of a text. -/
def rest (L : List Nat) : List Nat := L.drop (64 * (L.length / 64))
def partL (L : List Nat) : List Nat := rest L ++ List.replicate (64 - L.length % 64) 0
theorem rest_len (L : List Nat) : (rest L).length = L.length % 64 := by unfold rest; rw [List.length_drop]; omega
theorem partL_len (L : List Nat) : (partL L).length = 64 := by unfold partL; rw [List.length_append, rest_len, List.length_replicate]; omega
theorem allB_zeros (n : Nat) : AllB (List.replicate n 0) := fun x hx => by rw [List.eq_of_mem_replicate hx]; decide
theorem partL_byt {L : List Nat} (h : AllB L) : AllB (partL L) := AllB.app (fun x hx => h x (List.mem_of_mem_drop hx)) (allB_zeros _)
theorem part_nil : partL [] = List.replicate 64 0 := rfl
theorem pieces_pre (X Y : List Nat) : ∀ n, 64 * n ≤ X.length → pieces (X ++ Y) n = pieces X n
  | 0, _ => rfl
  | n + 1, h => by
    rw [pieces, pieces, pieces_pre X Y n (by omega), List.drop_append_of_le_length (by omega), List.take_append_of_le_length (by rw [List.length_drop]; omega)]
theorem comp_len (h p : List Nat) : (comp h p).length = 8 := rfl
theorem pieces_len (L : List Nat) : ∀ n, (pieces L n).length = 8
  | 0 => rfl
  | n + 1 => by rw [pieces, comp_len]
theorem part_add (X Y : List Nat) (h : X.length % 64 + Y.length < 64) : partL (X ++ Y) = splice (partL X) (X.length % 64) Y ∧ (X ++ Y).length / 64 = X.length / 64 := by
  have e : (X ++ Y).length / 64 = X.length / 64 := by rw [List.length_append]; omega
  refine ⟨?_, e⟩
  have h1 : rest (X ++ Y) = rest X ++ Y := by unfold rest; rw [e, List.drop_append_of_le_length (by omega)]
  unfold partL
  rw [h1, ← rest_len X, splice_tail _ _ _ (by rw [List.length_replicate, rest_len]; omega), List.drop_replicate, List.append_assoc, List.length_append, rest_len]
  congr 3
  omega
theorem part_full (X Y : List Nat) (h : X.length % 64 + Y.length = 64) : splice (partL X) (X.length % 64) Y = rest X ++ Y := by
  unfold partL
  rw [← rest_len X, splice_tail _ _ _ (by rw [List.length_replicate, rest_len]; omega), List.drop_replicate, rest_len, show 64 - X.length % 64 - Y.length = 0 by omega]
  simp
theorem piece_full (X Y : List Nat) (h : X.length % 64 + Y.length = 64) : pieces (X ++ Y) (X.length / 64 + 1) = comp (pieces X (X.length / 64)) (rest X ++ Y) := by
  rw [pieces, pieces_pre X Y _ (by omega), List.drop_append_of_le_length (by omega)]
  congr 1
  show (rest X ++ Y).take 64 = _
  rw [List.take_of_length_le (by rw [List.length_append, rest_len]; omega)]
theorem full_len (X Y : List Nat) (h : X.length % 64 + Y.length = 64) : (X ++ Y).length / 64 = X.length / 64 + 1 ∧ (X ++ Y).length % 64 = 0 ∧ partL (X ++ Y) = List.replicate 64 0 := by
  have e : (X ++ Y).length = 64 * (X.length / 64 + 1) := by rw [List.length_append]; omega
  refine ⟨by omega, by omega, ?_⟩
  have h1 : rest (X ++ Y) = [] := List.eq_nil_of_length_eq_zero (by rw [rest_len]; omega)
  unfold partL
  rw [h1, show 64 - (X ++ Y).length % 64 = 64 by omega]
  rfl
/-! What a text's end is. -/
theorem bits8_len (n : Nat) : (bits8 n).length = 8 := by simp [bits8]
def endA (L : List Nat) : List Nat := rest L ++ 128 :: List.replicate (55 - L.length % 64) 0
def endB (L : List Nat) : List Nat := rest L ++ 128 :: List.replicate (63 - L.length % 64) 0
theorem sha_short (L : List Nat) (h : L.length % 64 < 56) : shaS L = bytesS (comp (pieces L (L.length / 64)) (endA L ++ bits8 L.length)) := by
  have g : gapN L.length = 55 - L.length % 64 := by unfold gapN; omega
  have e : text L = L ++ (128 :: List.replicate (55 - L.length % 64) 0 ++ bits8 L.length) := by unfold text; rw [g, List.append_assoc]
  have hl : L.length % 64 + (128 :: List.replicate (55 - L.length % 64) 0 ++ bits8 L.length).length = 64 := by
    rw [List.length_append, bits8_len, List.length_cons, List.length_replicate]; omega
  unfold shaS
  rw [e, (full_len L _ hl).1, piece_full L _ hl]
  unfold endA
  rw [List.append_assoc]
theorem sha_long (L : List Nat) (h : 56 ≤ L.length % 64) : shaS L = bytesS (comp (comp (pieces L (L.length / 64)) (endB L)) (List.replicate 56 0 ++ bits8 L.length)) := by
  have g : gapN L.length = (63 - L.length % 64) + 56 := by unfold gapN; omega
  have e : text L = (L ++ (128 :: List.replicate (63 - L.length % 64) 0)) ++ (List.replicate 56 0 ++ bits8 L.length) := by
    unfold text; rw [g, ← List.replicate_append_replicate]; simp
  have hl : L.length % 64 + (128 :: List.replicate (63 - L.length % 64) 0).length = 64 := by
    rw [List.length_cons, List.length_replicate]; omega
  obtain ⟨f1, f2, f3⟩ := full_len L _ hl
  have hl2 : (L ++ (128 :: List.replicate (63 - L.length % 64) 0)).length % 64 + (List.replicate 56 0 ++ bits8 L.length).length = 64 := by
    rw [f2, List.length_append, bits8_len, List.length_replicate]
  have r0 : rest (L ++ (128 :: List.replicate (63 - L.length % 64) 0)) = [] := List.eq_nil_of_length_eq_zero (by rw [rest_len, f2])
  unfold shaS
  rw [e, (full_len _ _ hl2).1, piece_full _ _ hl2, r0, f1, piece_full L _ hl]
  rfl

/-! A state in memory. -/
def stV (W P : List Nat) (c : Nat) : List Value := u32s W ++ (vals P ++ [.int .u64 (c : Int)])
theorem stV_len {W P : List Nat} {c : Nat} (hW : W.length = 8) (hP : P.length = 64) : (stV W P c).length = 73 := by
  unfold stV; rw [List.length_append, List.length_append, u32s_len, vals_length, hW, hP]; rfl
theorem stV_one (W P : List Nat) (c : Nat) : ∀ u ∈ stV W P c, u.oneCell' = true := by
  intro u hu
  unfold stV at hu
  rcases List.mem_append.1 hu with h | h
  · exact u32s_one _ _ h
  rcases List.mem_append.1 h with h | h
  · exact vals_one _ _ h
  · rw [List.mem_singleton] at h; subst h; rfl
theorem stV_words {W W' P : List Nat} {c : Nat} (h : W'.length = W.length) : splice (stV W P c) 0 (u32s W') = stV W' P c := by
  unfold stV
  exact splice_mid (A := []) rfl (by rw [u32s_len, u32s_len, h])
theorem stV_part {W P P' : List Nat} {c : Nat} (hW : W.length = 8) (h : P'.length = P.length) : splice (stV W P c) 8 (vals P') = stV W P' c := by
  unfold stV
  exact splice_mid (by rw [u32s_len, hW]) (by rw [vals_length, vals_length, h])
theorem stV_in {W P M : List Nat} {c k : Nat} (hW : W.length = 8) (h : k + M.length ≤ P.length) : splice (stV W P c) (8 + k) (vals M) = stV W (splice P k M) c := by
  unfold stV
  rw [vals_splice]
  exact splice_in (by rw [u32s_len, hW]) (by rw [vals_length, vals_length]; exact h)
theorem stV_count {W P : List Nat} {c d : Nat} (hW : W.length = 8) (hP : P.length = 64) : (stV W P c).set 72 (.int .u64 (d : Int)) = stV W P d := by
  unfold stV
  rw [List.set_append_right _ _ (by rw [u32s_len]; omega), List.set_append_right _ _ (by rw [u32s_len, vals_length]; omega), u32s_len, vals_length, hW, hP]
  rfl
section
variable {w : World} {b c : Nat} {T : TypeId} {W P : List Nat}
theorem Ro.mid {A B C : List Value} {k : Nat} (h : Ro w b T (A ++ (B ++ C))) (hk : A.length = k) : w.rangeAt b k B := by
  subst hk
  intro j v hv
  have hj := (List.getElem?_eq_some_iff.1 hv).1
  exact h.cell (by rw [List.getElem?_append_right (Nat.le_add_right _ _), Nat.add_sub_cancel_left, List.getElem?_append_left hj]; exact hv)
theorem Ro.stW (h : Ro w b T (stV W P c)) : w.rangeAt b 0 (u32s W) := Ro.mid (A := []) h rfl
theorem Ro.stP (h : Ro w b T (stV W P c)) (hW : W.length = 8) : w.rangeAt b 8 (vals P) := Ro.mid h (by rw [u32s_len, hW])
theorem Ro.stC (h : Ro w b T (stV W P c)) (hW : W.length = 8) (hP : P.length = 64) : w.cell? ⟨b, 72, none⟩ = some (.int .u64 (c : Int)) := h.cell (by
  unfold stV
  rw [List.getElem?_append_right (by rw [u32s_len]; omega), List.getElem?_append_right (by rw [u32s_len, vals_length]; omega), u32s_len, vals_length, hW, hP]
  rfl)
end
section
variable {w : World} {ops : Array Oper} {rest : List Oper} {o : Oper} {a : Act} {Q : Exit → Act → World → Prop} {K : Act → World → Prop} {T S : TypeId} {n b k : Nat} {vs zs : List Value}
theorem wpList_load_part (hgd : o.guard = none) (x : Operand) (ho : o.op = .load T x) (hx : a.eval x = .pointer (some ⟨b, k, none⟩)) (hT : IsRow T n) (hr : w.rangeAt b k vs) (hl : vs.length = n)
    (h : wpList Tryz.prog ops Q rest (a.put o.dst (.agg vs.toArray)) w) : wpList Tryz.prog ops Q (o :: rest) a w := by
  obtain ⟨⟨f, h1⟩ | ⟨j, e, h1⟩, h3⟩ := hT
  · exact wpList_load_mid hgd T x ho b k hx vs _ hr h1 rfl (by rw [h3]; simp [hl]) h
  · exact wpList_load_mid hgd T x ho b k hx vs _ hr h1 rfl (by rw [h3]; simp [hl]) h
theorem wpList_store_part (hgd : o.guard = none) (x y : Operand) (ho : o.op = .store T x y) (hx : a.eval x = .pointer (some ⟨b, k, none⟩)) (hy : a.eval y = .agg vs.toArray) (hT : IsRow T n) (hr : Ro w b S zs) (hz : k + n ≤ zs.length) (hl : vs.length = n) (h1 : ∀ u ∈ vs, u.oneCell' = true)
    (h : ∀ w', Ro w' b S (splice zs k vs) → w.grownBy w' (some b) → wpList Tryz.prog ops Q rest (a.put o.dst undef) w') : wpList Tryz.prog ops Q (o :: rest) a w := by
  refine wpList_plain hgd fun K hK => ?_
  have e := hK _ _ (h _ (setRow_heap w b _ (zs.take k ++ (vs ++ zs.drop (k + vs.length))).toArray _ _ hr) (grownBy_setRow w b (zs.take k ++ (vs ++ zs.drop (k + vs.length))).toArray))
  have hst := run_storeCells_at (P := Tryz.prog) b k S vs 0 zs.toArray w hr (by simp; omega) h1
  have hs : (storeVar T ⟨b, k, none⟩ (.agg vs.toArray)).run Tryz.prog w = .ok () (w.setRow b (zs.take k ++ (vs ++ zs.drop (k + vs.length))).toArray) := by
    have hi := hT.info
    cases hq : Tryz.prog.info? T with
    | none => simp [hq] at hi
    | some i =>
      have hs : i.size = vs.length := by simp [hq] at hi; omega
      simp [storeVar, sizeOf, typeInfo, hq, Value.cells, hs, hst]
  unfold Oper.wp execOp
  simp only [ho, hx, hy, Instr.storeAt, Instr.sureAddr, Sem.run_bind, Sem.run_pure, Result.andThen_ok, hs]
  exact e
end
end Go.Proofs.YtimjmmiajgfblaaGreatDoor

/- Eight words as 32 bytes, as the code does it. No condition. -/
namespace Go.Proofs.YtimjmmiajgfblaaGreatDoor
open Go.RowKit

theorem Tryz.info33 : (Tryz.prog.info? 22).map (·.size) = some 1 := by kernel_rfl
theorem Tryz.agg33 (w : World) : (isAgg 22).run Tryz.prog w = .ok false w := by kernel_rfl
theorem run_index34 {L : List Nat} (hl : L.length = 8) (w : World) {t : Nat} (ht : t < 8) : (Instr.index 125 (.agg (u32s L).toArray) (.int .i64 (t : Int))).run Tryz.prog w = .ok (.int .u32 (nth L t : Nat)) w := by
  have h1 : (u32s L)[t]? = some (.int .u32 (nth L t : Nat)) := u32s_get L t (by omega)
  have hi := Tryz.info33
  cases hq : Tryz.prog.info? 22 with
  | none => simp [hq] at hi
  | some i =>
    have hs : i.size = 1 := by simpa [hq] using hi
    simp [Instr.index, asIntOf, run_underlying Tryz.underlying125, ht, part, Sem.run_bind, sizeOf, typeInfo, hq, hs, h1]
theorem bytesS_len (h : List Nat) : (bytesS h).length = 32 := by simp [bytesS]
theorem byteAt_lt (h : List Nat) (i : Nat) : byteAt h i < 256 := Nat.mod_lt _ (by decide)
theorem bytesS_byt (h : List Nat) : AllB (bytesS h) := fun x hx => by
  simp only [bytesS, List.mem_map] at hx
  obtain ⟨i, _, rfl⟩ := hx
  exact byteAt_lt h i
def byT (h : List Nat) (i : Nat) : List Nat := (List.range i).map (byteAt h)
theorem byT_len (h : List Nat) (i : Nat) : (byT h i).length = i := by simp [byT]
theorem byT_next (h : List Nat) (i : Nat) : byT h (i + 1) = byT h i ++ [byteAt h i] := by simp [byT, List.range_succ]
theorem byT_full (h : List Nat) : upW (byT h 32) 32 = bytesS h := upW_full (byT_len h 32)
structure BoA (w : World) (h : List Nat) (i : Nat) (wr : World) : Prop where
  a : Ro wr w.heap.size 125 (u32s h)
  r : Ro wr (w.heap.size + 1) 25 (vals (List.replicate 32 0))
  o : Ro wr (w.heap.size + 2) 25 (vals (upW (byT h i) 32))
  bel : Below w.heap.size w wr
theorem BoA.step {w : World} {h : List Nat} {i x : Nat} {wr : World} (s : BoA w h i wr) (hi : i < 32) (hx : x = byteAt h i) : BoA w h (i + 1) (wr.setCell ⟨w.heap.size + 2, i, none⟩ (.int .u8 (x : Int))) := by
  refine ⟨s.a.other (by omega) _, s.r.other (by omega) _, ?_, s.bel.setCell (by simp) _⟩
  have h1 := s.o.set8 i x
  have h2 := upW_set (W := byT h i) (n := 32) x (by rw [byT_len]; exact hi)
  rw [byT_len] at h2
  rw [h2, hx, ← byT_next] at h1
  rw [hx]
  exact h1
theorem BoA.start (w : World) (h : List Nat) : BoA w h 0 (((w.alloc (.cells (u32s h).toArray 125)).alloc (.cells (vals (List.replicate 32 0)).toArray 25)).alloc (.cells (vals (List.replicate 32 0)).toArray 25)) := by
  refine ⟨((Ro.new w _ _).alloc _).alloc _, ?_, ?_, (((Below.refl _ _).alloc (Nat.le_refl _) _).alloc (by simp) _).alloc (by simp; omega) _⟩
  · have := (Ro.new (w.alloc (.cells (u32s h).toArray 125)) 25 (vals (List.replicate 32 0))).alloc (.cells (vals (List.replicate 32 0)).toArray 25)
    rwa [World.size_alloc] at this
  · have := Ro.new ((w.alloc (.cells (u32s h).toArray 125)).alloc (.cells (vals (List.replicate 32 0)).toArray 25)) 25 (vals (List.replicate 32 0))
    rw [World.size_alloc, World.size_alloc] at this
    exact this
theorem byte_at {h : List Nat} {t j x : Nat} (hj : j < 4) (hx : nth h t = x) : byteAt h (4 * t + j) = x / 2 ^ (24 - 8 * j) % 256 := by
  unfold byteAt
  rw [show (4 * t + j) / 4 = t by omega, show (4 * t + j) % 4 = j by omega, hx]

set_option maxRecDepth 100000 in
set_option maxHeartbeats 4000000 in
theorem bytesOf_any {h : List Nat} (hh : h.length = 8) (w : World) : Calls Tryz.prog 113 #[.agg (u32s h).toArray] w fun e w' => e = .returned (.agg (vals (bytesS h)).toArray) ∧ Below w.heap.size w w' := by
  have HH := Lib.hid hh
  have ix := fun w t => run_index34 (t := t) HH.out w
  clear hh
  go_enter Tryz.func113, Tryz.ntmps113
  go_wp2_with (refine wpList_load_ro rfl (.tmp 1) rfl rfl row34 (BoA.start w h).a (by rw [u32s_len, HH.out]) ?_)
  go_loopw [7] (fun i wr => ∃ t : Nat, t ≤ 8 ∧ i = .int .i64 (t : Nat) ∧ BoA w h (4 * t) wr) (fun i _ => 8 - (intOf i).toNat)
  case atStart => exact ⟨0, by omega, rfl, BoA.start w h⟩
  case round =>
    obtain ⟨t, ht, rfl, S⟩ := hrel
    by_cases hlt : t < 8
    · have t1 : decide ((t : Int) < 8) = true := decide_eq_true (by omega)
      have i1 := fun w => ix w t hlt
      obtain ⟨x, hx⟩ : ∃ x, nth h t = x := ⟨_, rfl⟩
      rw [hx] at i1
      have c0 := S.o.u8 (k := 4 * t) (by rw [upW_len (by rw [byT_len]; omega)]; omega)
      have c1 := S.o.u8 (k := 4 * t + 1) (by rw [upW_len (by rw [byT_len]; omega)]; omega)
      have c2 := S.o.u8 (k := 4 * t + 2) (by rw [upW_len (by rw [byT_len]; omega)]; omega)
      have c3 := S.o.u8 (k := 4 * t + 3) (by rw [upW_len (by rw [byT_len]; omega)]; omega)
      have f0 := S.o.free (4 * t)
      have f1 := S.o.free (4 * t + 1)
      have f2 := S.o.free (4 * t + 2)
      have f3 := S.o.free (4 * t + 3)
      have e0 := byte_at (j := 0) (by decide) hx
      have e1 := byte_at (j := 1) (by decide) hx
      have e2 := byte_at (j := 2) (by decide) hx
      have e3 := byte_at (j := 3) (by decide) hx
      have HE : Hid (BoA w h (4 * (t + 1)) ((((wr.setCell ⟨w.heap.size + 2, 4 * t, none⟩ (.int .u8 ((x / 16777216 % 256 : Nat) : Int))).setCell ⟨w.heap.size + 2, 4 * t + 1, none⟩ (.int .u8 ((x / 65536 % 256 : Nat) : Int))).setCell ⟨w.heap.size + 2, 4 * t + 2, none⟩ (.int .u8 ((x / 256 % 256 : Nat) : Int))).setCell ⟨w.heap.size + 2, 4 * t + 3, none⟩ (.int .u8 ((x % 256 : Nat) : Int)))) :=
        Lib.hid ((((S.step (by omega) e0.symm).step (by omega) e1.symm).step (by omega) e2.symm).step (by omega) (by rw [e3]; simp))
      clear hx S e0 e1 e2 e3 ix
      go_wp2_with fail
      exact ⟨⟨t + 1, by omega, by go_num, HE.out⟩, by simp [intOf]; omega⟩
    · obtain rfl : t = 8 := by omega
      have o1 := S.o
      rw [byT_full] at o1
      have O1 := Lib.hid o1
      have HS := Lib.hid S
      clear o1 S ix
      go_wp2_with (first | (refine wpList_load_ro rfl (.tmp 3) rfl rfl row26 O1.out (by rw [vals_length, bytesS_len]) ?_) | (refine wpList_store_ro rfl (.tmp 2) (.tmp 38) rfl rfl rfl row26 HS.out.r (by simp [vals]) (by rw [vals_length, bytesS_len]) (vals_one _) ?_))
      intro w4 R4 g4
      go_wp2_with fail
      exact bodyPost_ret (results_ro Tryz.results113 _ rfl row26 R4 (by rw [vals_length, bytesS_len])) rfl ⟨rfl, HS.out.bel.grown g4 HS.out.bel.size (fun q e => by cases e; omega)⟩
end Go.Proofs.YtimjmmiajgfblaaGreatDoor

/- The reference's text of bytes. No condition but a bound on the length. -/
namespace Go.Proofs.YtimjmmiajgfblaaGreatDoor
open Go.RowKit

def textA (L : List Nat) (j : Nat) : List Nat := L ++ 128 :: List.replicate j 0
theorem textA_len (L : List Nat) (j : Nat) : (textA L j).length = L.length + 1 + j := by unfold textA; rw [List.length_append, List.length_cons, List.length_replicate]; omega
theorem textA_next (L : List Nat) (j : Nat) : textA L j ++ [0] = textA L (j + 1) := by
  unfold textA
  rw [List.append_assoc, List.cons_append, ← List.replicate_append_replicate (n := j) (m := 1)]
  rfl
def lenOf' : Value → Nat | .slice _ n _ => n | _ => 0
theorem textA_one (L : List Nat) : L ++ [128] = textA L 0 := rfl
theorem text_eq (L : List Nat) : text L = textA L (gapN L.length) ++ bits8 L.length := rfl
theorem bits8_take (n t : Nat) (h : t < 8) : (bits8 n).take (t + 1) = (bits8 n).take t ++ [n * 8 % 18446744073709551616 / 2 ^ (56 - 8 * t) % 256] := by
  rw [List.take_add_one]
  congr 1
  have : (bits8 n)[t]? = some (n * 8 % 18446744073709551616 / 2 ^ (56 - 8 * t) % 256) := by simp [bits8, h]
  rw [this]
  rfl

theorem Bs.litE (w : World) {V : Int} {x : Nat} (hV : V = (x : Int)) (h : x < 256) : Bs (w.alloc (.cells #[.int .u8 V] 5)) (some ⟨w.heap.size, 0, none⟩) 1 [x] := by subst hV; exact Bs.lit1 w h

set_option maxRecDepth 100000 in
set_option maxHeartbeats 4000000 in
theorem text_any {A : Option Addr} {n c : Nat} {L : List Nat} (w : World) (hn : n ≤ 549755813888) (hL : Bs w A n L) : Calls Tryz.prog 94 #[.slice A n c] w (GivesB w (text L)) := by
  have HL := Lib.hid hL
  have HN := Lib.hid hL.len
  clear hL
  go_enter Tryz.func94, Tryz.ntmps94
  go_wp2_with (at_builtin; refine wpList_app rfl _ _ rfl rfl (Own.made (Below.refl _ _) _ _ ?c1 ?c2) rfl (HL.out.later ((Below.refl _ _).alloc (Nat.le_refl _) _)) ?c3 ?_)
  case c1 => decide
  case c2 => rfl
  case c3 => omega
  intro A1 c1 w1 hc1 h1 _
  have O1 := Lib.hid h1
  clear h1
  go_wp2_with (at_builtin; refine wpList_app rfl _ _ rfl rfl (O1.out.later ((Below.refl _ _).alloc (Nat.le_refl _) _)) rfl (Bs.lit1 _ (x := 128) (by decide)) ?d3 ?_)
  case d3 => omega
  intro A2 c2 w2 hc2 h2 _
  have O2 : Hid (Own w (.slice A2 (n + 1) c2) (n + 1) (textA L 0) w2) := Lib.hid h2
  clear h2 O1
  go_wp2_with fail
  go_loopw [3] (fun v wr => ∃ (j : Nat) (A' : Option Addr) (c' : Nat), j ≤ gapN n ∧ v = .slice A' (n + 1 + j) c' ∧ Own w (.slice A' (n + 1 + j) c') (n + 1 + j) (textA L j) wr) (fun v _ => gapN n - (lenOf' v - n - 1))
  case atStart => exact ⟨0, A2, c2, Nat.zero_le _, rfl, O2.out⟩
  case round =>
    clear O2
    obtain ⟨j, A', c', hj, rfl, O⟩ := hrel
    have HO := Lib.hid O
    clear O
    have g64 : gapN n < 64 := Nat.mod_lt _ (by decide)
    have gf := gap_full n
    by_cases hlt : j < gapN n
    · have e1 : ¬ (((n + 1 + j : Nat) : Int) % 64 = 56) := by unfold gapN at *; omega
      have t1 : decide (((n + 1 + j : Nat) : Int) % 64 = 56) = false := decide_eq_false e1
      have t2 : (((n + 1 + j : Nat) : Int) % 64 != 56) = true := by rw [bne_iff_ne]; exact e1
      go_wp2_with (at_builtin; refine wpList_app rfl _ _ rfl rfl (HO.out.later ((Below.refl _ _).alloc (Nat.le_refl _) _)) rfl (Bs.lit1 _ (x := 0) (by decide)) ?d3 ?_)
      case d3 => omega
      intro A3 c3 w3 hc3 h3 _
      have O3 := Lib.hid h3
      clear h3
      go_wp2_with fail
      exact ⟨⟨j + 1, A3, c3, by omega, rfl, by rw [← textA_next]; exact O3.out⟩, by simp [lenOf']; omega⟩
    · obtain rfl : j = gapN n := by omega
      obtain ⟨j, hjj⟩ : ∃ j, gapN n = j := ⟨_, rfl⟩
      rw [hjj] at HO g64 gf ⊢
      have e1 : ((n + 1 + j : Nat) : Int) % 64 = 56 := by omega
      have t1 : decide (((n + 1 + j : Nat) : Int) % 64 = 56) = true := decide_eq_true e1
      have t2 : (((n + 1 + j : Nat) : Int) % 64 != 56) = false := by simp only [bne_eq_false_iff_eq]; exact e1
      have HJ := Lib.hid hjj
      have LJ : n + 1 + j + 8 ≤ 1099511627776 := by omega
      clear hlt gf hjj hj
      have E0 : Hid (Own w (.slice A' (n + 1 + j + 0) c') (n + 1 + j + 0) (textA L j ++ (bits8 n).take 0) wr) := Lib.hid (by rw [List.take_zero, List.append_nil]; exact HO.out)
      clear HO
      go_wp2_with fail
      have t3 : (((n : Int) + 1 + (j : Int)) % 64 != 56) = false := by simp only [bne_eq_false_iff_eq]; omega
      rw [t3]
      clear t1 t2 e1 t3
      go_loopw [3, 5] (fun v i wr => ∃ (t : Nat) (A' : Option Addr) (c' : Nat), t ≤ 8 ∧ v = .slice A' (n + 1 + j + t) c' ∧ i = .int .i64 (7 - (t : Int)) ∧ Own w (.slice A' (n + 1 + j + t) c') (n + 1 + j + t) (textA L j ++ (bits8 n).take t) wr) (fun _ i _ => (intOf i + 1).toNat)
      case atStart => exact ⟨0, A', c', by omega, rfl, rfl, E0.out⟩
      case round =>
        clear E0
        obtain ⟨t, A4, c4, ht, rfl, rfl, O⟩ := hrel
        have HQ := Lib.hid O
        clear O
        by_cases hlt : t < 8
        · have BT := Lib.hid (bits8_take n t hlt)
          have z8 : t = 0 ∨ t = 1 ∨ t = 2 ∨ t = 3 ∨ t = 4 ∨ t = 5 ∨ t = 6 ∨ t = 7 := by omega
          clear hlt ht
          rcases z8 with rfl | rfl | rfl | rfl | rfl | rfl | rfl | rfl
          · go_wp2_with (at_builtin; refine wpList_app rfl _ _ rfl rfl (HQ.out.later ((Below.refl _ _).alloc (Nat.le_refl _) _)) rfl (Bs.litE _ (x := n * 8 % 18446744073709551616 / 72057594037927936 % 256) ?e1 (Nat.mod_lt _ (by decide))) ?e2 ?_)
            case e1 => omega
            case e2 => omega
            intro A3 c3 w3 hc3 h3 _
            have O3 := Lib.hid h3
            clear h3
            go_wp2_with fail
            exact ⟨⟨1, A3, c3, by omega, rfl, rfl, by have h := O3.out; rw [BT.out, ← List.append_assoc]; first | exact h | simpa using h⟩, by simp [intOf]⟩
          · go_wp2_with (at_builtin; refine wpList_app rfl _ _ rfl rfl (HQ.out.later ((Below.refl _ _).alloc (Nat.le_refl _) _)) rfl (Bs.litE _ (x := n * 8 % 18446744073709551616 / 281474976710656 % 256) ?e1 (Nat.mod_lt _ (by decide))) ?e2 ?_)
            case e1 => omega
            case e2 => omega
            intro A3 c3 w3 hc3 h3 _
            have O3 := Lib.hid h3
            clear h3
            go_wp2_with fail
            exact ⟨⟨2, A3, c3, by omega, rfl, rfl, by have h := O3.out; rw [BT.out, ← List.append_assoc]; first | exact h | simpa using h⟩, by simp [intOf]⟩
          · go_wp2_with (at_builtin; refine wpList_app rfl _ _ rfl rfl (HQ.out.later ((Below.refl _ _).alloc (Nat.le_refl _) _)) rfl (Bs.litE _ (x := n * 8 % 18446744073709551616 / 1099511627776 % 256) ?e1 (Nat.mod_lt _ (by decide))) ?e2 ?_)
            case e1 => omega
            case e2 => omega
            intro A3 c3 w3 hc3 h3 _
            have O3 := Lib.hid h3
            clear h3
            go_wp2_with fail
            exact ⟨⟨3, A3, c3, by omega, rfl, rfl, by have h := O3.out; rw [BT.out, ← List.append_assoc]; first | exact h | simpa using h⟩, by simp [intOf]⟩
          · go_wp2_with (at_builtin; refine wpList_app rfl _ _ rfl rfl (HQ.out.later ((Below.refl _ _).alloc (Nat.le_refl _) _)) rfl (Bs.litE _ (x := n * 8 % 18446744073709551616 / 4294967296 % 256) ?e1 (Nat.mod_lt _ (by decide))) ?e2 ?_)
            case e1 => omega
            case e2 => omega
            intro A3 c3 w3 hc3 h3 _
            have O3 := Lib.hid h3
            clear h3
            go_wp2_with fail
            exact ⟨⟨4, A3, c3, by omega, rfl, rfl, by have h := O3.out; rw [BT.out, ← List.append_assoc]; first | exact h | simpa using h⟩, by simp [intOf]⟩
          · go_wp2_with (at_builtin; refine wpList_app rfl _ _ rfl rfl (HQ.out.later ((Below.refl _ _).alloc (Nat.le_refl _) _)) rfl (Bs.litE _ (x := n * 8 % 18446744073709551616 / 16777216 % 256) ?e1 (Nat.mod_lt _ (by decide))) ?e2 ?_)
            case e1 => omega
            case e2 => omega
            intro A3 c3 w3 hc3 h3 _
            have O3 := Lib.hid h3
            clear h3
            go_wp2_with fail
            exact ⟨⟨5, A3, c3, by omega, rfl, rfl, by have h := O3.out; rw [BT.out, ← List.append_assoc]; first | exact h | simpa using h⟩, by simp [intOf]⟩
          · go_wp2_with (at_builtin; refine wpList_app rfl _ _ rfl rfl (HQ.out.later ((Below.refl _ _).alloc (Nat.le_refl _) _)) rfl (Bs.litE _ (x := n * 8 % 18446744073709551616 / 65536 % 256) ?e1 (Nat.mod_lt _ (by decide))) ?e2 ?_)
            case e1 => omega
            case e2 => omega
            intro A3 c3 w3 hc3 h3 _
            have O3 := Lib.hid h3
            clear h3
            go_wp2_with fail
            exact ⟨⟨6, A3, c3, by omega, rfl, rfl, by have h := O3.out; rw [BT.out, ← List.append_assoc]; first | exact h | simpa using h⟩, by simp [intOf]⟩
          · go_wp2_with (at_builtin; refine wpList_app rfl _ _ rfl rfl (HQ.out.later ((Below.refl _ _).alloc (Nat.le_refl _) _)) rfl (Bs.litE _ (x := n * 8 % 18446744073709551616 / 256 % 256) ?e1 (Nat.mod_lt _ (by decide))) ?e2 ?_)
            case e1 => omega
            case e2 => omega
            intro A3 c3 w3 hc3 h3 _
            have O3 := Lib.hid h3
            clear h3
            go_wp2_with fail
            exact ⟨⟨7, A3, c3, by omega, rfl, rfl, by have h := O3.out; rw [BT.out, ← List.append_assoc]; first | exact h | simpa using h⟩, by simp [intOf]⟩
          · go_wp2_with (at_builtin; refine wpList_app rfl _ _ rfl rfl (HQ.out.later ((Below.refl _ _).alloc (Nat.le_refl _) _)) rfl (Bs.litE _ (x := n * 8 % 18446744073709551616 / 1 % 256) ?e1 (Nat.mod_lt _ (by decide))) ?e2 ?_)
            case e1 => omega
            case e2 => omega
            intro A3 c3 w3 hc3 h3 _
            have O3 := Lib.hid h3
            clear h3
            go_wp2_with fail
            exact ⟨⟨8, A3, c3, by omega, rfl, rfl, by have h := O3.out; rw [BT.out, ← List.append_assoc]; first | exact h | simpa using h⟩, by simp [intOf]⟩
        · obtain rfl : t = 8 := by omega
          go_wp2_with fail
          go_ret
          refine ⟨A4, _, c4, rfl, ?_, ?_⟩
          · have h := HQ.out.shape
            obtain ⟨a, b, h1, h2⟩ := h
            injection h1 with _ _ h3
            omega
          · have h := HQ.out
            rw [List.take_of_length_le (by rw [bits8_len]; exact Nat.le_refl _)] at h
            rw [text_eq, HN.out, HJ.out]
            exact h
end Go.Proofs.YtimjmmiajgfblaaGreatDoor
