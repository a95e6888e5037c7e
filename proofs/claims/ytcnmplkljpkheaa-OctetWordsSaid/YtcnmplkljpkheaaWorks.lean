/- The anchor of layer 4's laws: the chapter's examples are true. No condition. -/
import Derived.Test.YtcnmplkljpkheaaRUnturned
import Derived.Test.YtcnmplkljpkheaaRTakeVar
import Derived.Test.YtcnmplkljpkheaaSome
import Derived.ChangeKeysEq
namespace Go.Proofs.Ytcnmplkljpkheaa
open Go.RowKit

instance (L : List Nat) : Decidable (AllB L) := by unfold AllB; infer_instance
theorem eqItems_bytes (H K : List Nat) (d : Nat) (w : World) : ∀ is : List Nat, (∀ i ∈ is, i < H.length ∧ i < K.length) →
    (Op.eqItems (d + 1) 5 1 (vals H).toArray (vals K).toArray is).run Try.prog w = .ok (decide (∀ i ∈ is, nth H i = nth K i)) w
  | [], _ => by simp [Op.eqItems]
  | i :: is, h => by
    have ih := eqItems_bytes H K d w is (fun j hj => h j (by simp [hj]))
    obtain ⟨h1, h2⟩ := h i (by simp)
    have pt : ∀ L : List Nat, i < L.length → (part 5 (vals L).toArray i).run Try.prog w = .ok (.int .u8 (nth L i : Nat)) w := fun L hl => by
      simp [part, isAgg, run_underlying Try.underlying5, vals_get L i hl]
    have e1 := pt H h1
    have e2 := pt K h2
    by_cases e : nth H i = nth K i
    · have : (∀ j ∈ i :: is, nth H j = nth K j) ↔ (∀ j ∈ is, nth H j = nth K j) := by simp [e]
      simp only [this]
      rw [← ih]
      simp only [Op.eqItems, Sem.run_bind, Nat.mul_one, e1, e2, Result.andThen_ok, run_equalIn_int w _ _ _ _ _ _ Try.underlying5]
      simp [e]
    · have : ¬ (∀ j ∈ i :: is, nth H j = nth K j) := fun h => e (h i (by simp))
      simp only [this, decide_false]
      simp only [Op.eqItems, Sem.run_bind, Nat.mul_one, e1, e2, Result.andThen_ok, run_equalIn_int w _ _ _ _ _ _ Try.underlying5]
      have e3 : ¬ ((nth H i : Nat) : Int) = ((nth K i : Nat) : Int) := by omega
      simp [e3]
theorem eq_hash {H K : List Nat} (hH : H.length = 32) (hK : K.length = 32) (w : World) : (Op.equalIn 10000 42 (.agg (vals H).toArray) (.agg (vals K).toArray)).run Try.prog w = .ok (eqB H K) w := by
  obtain ⟨i, hi⟩ : ∃ i, Try.prog.info? 5 = some i := Option.isSome_iff_exists.1 (by kernel_rfl)
  rw [run_equalIn_array w 9999 (e := 5) (n := 32) _ _ Try.underlying42 hi, show Try.prog.cellsOf 5 = 1 from by kernel_rfl, eqItems_bytes H K 9998 w (List.range 32) (fun i hi => by
    have := List.mem_range.1 hi
    omega)]
  congr 1
  unfold eqB
  rw [decide_eq_decide]
  constructor
  · intro h
    exact nth_ext (by omega) fun k hk => h k (List.mem_range.2 (by omega))
  · rintro rfl
    exact fun _ _ => rfl
theorem eql_hash {H K : List Nat} (hH : H.length = 32) (hK : K.length = 32) (w : World) : (binOp .eql 42 (hashV H) (hashV K)).run Try.prog w = .ok (.bool (eqB H K)) w := by
  have := eq_hash hH hK w
  unfold hashV
  simp [binOp, Op.equal, Op.maxDepth, this]
theorem neq_hash {H K : List Nat} (hH : H.length = 32) (hK : K.length = 32) (w : World) : (binOp .neq 42 (hashV H) (hashV K)).run Try.prog w = .ok (.bool (!eqB H K)) w := by
  have := eq_hash hH hK w
  unfold hashV
  simp [binOp, Op.equal, Op.maxDepth, this]

/-- What is written as letters is read again. -/
theorem hexL_nth : ∀ (L : List Nat) (k : Nat), k < L.length → nth (hexL L) (2 * k) = letterN (nth L k / 16) ∧ nth (hexL L) (2 * k + 1) = letterN (nth L k % 16)
  | x :: l, 0, _ => ⟨rfl, rfl⟩
  | x :: l, k + 1, h => by
    have := hexL_nth l k (by simpa using h)
    have e1 : nth (x :: l) (k + 1) = nth l k := by simp [nth, List.getD]
    have e2 : nth (hexL (x :: l)) (2 * (k + 1)) = nth (hexL l) (2 * k) := by simp [hexL, nth, List.getD, Nat.mul_add]
    have e3 : nth (hexL (x :: l)) (2 * (k + 1) + 1) = nth (hexL l) (2 * k + 1) := by simp [hexL, nth, List.getD, Nat.mul_add]
    rw [e1, e2, e3]
    exact this
theorem letter_back {x : Nat} (h : x < 16) : hokB (letterN x) = true ∧ hv (letterN x) = x := (letter_is (letterN_lt h) h).1 rfl
theorem unh_hex {L : List Nat} (h : AllB L) : ∀ k, k ≤ L.length → unh (hexL L) k = L.take k
  | 0, _ => rfl
  | k + 1, hk => by
    obtain ⟨h1, h2⟩ := hexL_nth L k (by omega)
    have hx := nth_lt h k
    rw [unh, unh_hex h k (by omega), h1, h2, (letter_back (by omega : nth L k / 16 < 16)).2, (letter_back (by omega : nth L k % 16 < 16)).2, take_snoc' L k (by omega)]
    congr 2; omega
theorem hex_ok {L : List Nat} (h : AllB L) : UnhOk (hexL L) := ⟨by rw [hexL_length]; omega, fun j hj => by
  rw [hexL_length] at hj
  have hx := nth_lt h (j / 2)
  obtain ⟨h1, h2⟩ := hexL_nth L (j / 2) (by omega)
  rcases (by omega : j = 2 * (j / 2) ∨ j = 2 * (j / 2) + 1) with e | e
  · rw [e, h1]; exact (letter_back (by omega)).1
  · rw [e, h2]; exact (letter_back (by omega)).1⟩
theorem unhL_hex {L : List Nat} (h : AllB L) : unhL (hexL L) = L := by
  rw [unhL_ok (hex_ok h), hexL_length, show 2 * L.length / 2 = L.length by omega, unh_hex h _ (Nat.le_refl _), List.take_of_length_le (Nat.le_refl _)]
theorem unt_hex {H : List Nat} (h : H32 H) : UntOk (hexL H.reverse) ∧ untH (hexL H.reverse) = H ∧ untE (hexL H.reverse) = 0 := by
  have ok : UntOk (hexL H.reverse) := ⟨hex_ok h.rev.byt, by rw [hexL_length, h.rev.len]⟩
  exact ⟨ok, by rw [untH, if_pos ok, unhL_hex h.rev.byt, List.reverse_reverse], if_pos ok⟩

theorem wp_load_agg {w : World} {o : Oper} {a : Act} {Q : Exit → Act → World → Prop} {K : Act → World → Prop} (x : Operand) (ho : o.op = .load 42 x) {b : Nat} {H : List Nat} (hx : a.eval x = .pointer (some ⟨b, 0, none⟩)) (hr : Row w b 42 H) (hl : H.length = 32)
    (h : K (a.put o.dst (.agg (vals H).toArray)) w) : o.wp Try.prog a w K Q := wp_load_hash x ho hx hr hl h
def H12 : List Nat := 1 :: 2 :: List.replicate 30 0
theorem h12 : H32 H12 := ⟨by simp [H12], fun x hx => by
  simp only [H12, List.mem_cons] at hx
  rcases hx with rfl | rfl | hx
  · decide
  · decide
  · rw [List.eq_of_mem_replicate hx]; decide⟩

set_option maxRecDepth 100000 in
set_option maxHeartbeats 4000000 in
theorem works_any (w : World) : Calls Try.prog 9 #[] w fun e w' => e = .returned (.bool true) ∧ Below w.heap.size w w' := by
  have L1 := Lib.hid (Bs.lit w [253, 253, 0] (by decide))
  have B1 : Hid (Below w.heap.size w (w.alloc (.cells (vals [253, 253, 0]).toArray 5))) := Lib.hid ((Below.refl _ _).alloc (Nat.le_refl _) _)
  go_enter Try.func9, Try.ntmps9
  go_wp2_with fail
  refine (takeVar_any 0 (by decide) (by decide) _ (by decide) (by decide) L1.out).mono ?_
  rintro e w1 ⟨rfl, hb⟩
  rw [show tvRn [253, 253, 0] 0 = 253 by decide, show tvRp [253, 253, 0] 0 = 3 by decide, show tvRe [253, 253, 0] 0 = 0 by decide]
  have B2 := Lib.hid (B1.out.trans (hb.mono B1.out.size))
  have L2 := Lib.hid (Bs.lit w1 [253, 252, 0] (by decide))
  have B3 : Hid (Below w.heap.size w (w1.alloc (.cells (vals [253, 252, 0]).toArray 5))) := Lib.hid (B2.out.alloc B2.out.size _)
  clear hb
  go_wp2_with fail
  refine (takeVar_any 0 (by decide) (by decide) _ (by decide) (by decide) L2.out).mono ?_
  rintro e w2 ⟨rfl, hb⟩
  rw [show tvRn [253, 252, 0] 0 = 0 by decide, show tvRp [253, 252, 0] 0 = 0 by decide, show tvRe [253, 252, 0] 0 = 5 by decide]
  have B4 := Lib.hid (B3.out.trans (hb.mono B3.out.size))
  clear hb
  go_wp2_with fail
  refine (unhex_any _ _ (by decide)).mono ?_
  rintro e w3 ⟨A, n, c, rfl, hnc, O⟩
  rw [show unhE (strL { data := #[48, 97, 102, 102] }) = 0 by decide]
  rw [show unhL (strL { data := #[48, 97, 102, 102] }) = [10, 255] by decide] at O
  obtain rfl : n = 2 := O.len.symm
  have B5 := Lib.hid (B4.out.trans (O.bel.mono B4.out.size))
  have R5 := Lib.hid O.reads
  clear O hnc
  go_wp2_with fail
  refine (turned_any h12 _).mono ?_
  rintro e w4 ⟨rfl, hb⟩
  have B6 := Lib.hid (B5.out.trans (hb.mono B5.out.size))
  have R6 := Lib.hid (R5.out.later hb)
  clear hb
  obtain ⟨S, hS⟩ : ∃ S, strB (hexL H12.reverse) = S := ⟨_, rfl⟩
  rw [hS]
  have hS2 : strL S = hexL H12.reverse := by rw [← hS]; exact strL_strB (hexL_byt h12.rev.byt)
  have hS3 : S.size ≤ 549755813888 := by rw [← hS, strB_size, hexL_length, h12.rev.len]; decide
  have HS2 := Lib.hid hS2
  have HS3 := Lib.hid hS3
  clear hS hS2 hS3
  go_wp2_with fail
  refine (unturned_any S _ HS3.out).mono ?_
  rintro e w5 ⟨rfl, hb⟩
  rw [HS2.out, (unt_hex h12).2.1, (unt_hex h12).2.2]
  have B7 := Lib.hid (B6.out.trans (hb.mono B6.out.size))
  have R7 := Lib.hid (R6.out.later hb)
  have Z7 := Lib.hid (Row.new w5 42 (List.replicate 32 0))
  have B8 : Hid (Below w.heap.size w (w5.alloc (.cells (vals (List.replicate 32 0)).toArray 42))) := Lib.hid (B7.out.alloc B7.out.size _)
  clear hb
  go_wp2_with (refine wpList_store_hash rfl (.tmp 9) (.tmp 31) rfl rfl rfl Z7.out (by simp) h12.len ?_; intro w' h1 h2; have H1 := Lib.hid h1; have H2 := Lib.hid h2; clear h1 h2)
  have R8 : Hid (Bs w' A 2 [10, 255]) := Lib.hid ((R7.out.later ((Below.refl _ _).alloc (Nat.le_refl _) (.cells (vals (List.replicate 32 0)).toArray 42))).far H2.out (fun a e e2 => by
    obtain ⟨b, e3, hlt, _⟩ := R7.out.cel (by omega)
    rw [e] at e3
    injection e3 with e3
    subst e3
    injection e2 with e2
    omega))
  have B9 : Hid (Below w.heap.size w w') := Lib.hid (B8.out.grown H2.out B8.out.size (fun q e => by cases e; exact B7.out.size))
  have L9 := Lib.hid (Bs.lit w' [10, 255] (by decide))
  have BA : Hid (Below w.heap.size w (w'.alloc (.cells (vals [10, 255]).toArray 5))) := Lib.hid (B9.out.alloc B9.out.size _)
  have RA := Lib.hid (R8.out.later ((Below.refl _ _).alloc (Nat.le_refl _) (.cells (vals [10, 255]).toArray 5)))
  have HA := Lib.hid (H1.out.later ((Below.refl _ _).alloc (Nat.le_refl _) (.cells (vals [10, 255]).toArray 5)))
  refine (same_any _ (by decide) (by decide) RA.out L9.out).mono ?_
  rintro e w6 ⟨rfl, hb⟩
  rw [show eqB [10, 255] [10, 255] = true by decide]
  have BB := Lib.hid (BA.out.trans (hb.mono BA.out.size))
  have RB := Lib.hid (RA.out.later hb)
  have HB := Lib.hid (HA.out.later hb)
  clear hb
  go_wp2_with fail
  refine (hex_any _ (by decide) RB.out).mono ?_
  rintro e w7 ⟨rfl, hb⟩
  rw [show strB (hexL [10, 255]) = { data := #[48, 97, 102, 102] } from rfl]
  have BC := Lib.hid (BB.out.trans (hb.mono BB.out.size))
  have HC := Lib.hid (HB.out.later hb)
  clear hb
  have EQ : ∀ w, (Op.equalIn 10000 42 (.agg (vals H12).toArray) (.agg #[.int .u8 1, .int .u8 2, .int .u8 0, .int .u8 0, .int .u8 0, .int .u8 0, .int .u8 0, .int .u8 0, .int .u8 0, .int .u8 0, .int .u8 0, .int .u8 0, .int .u8 0, .int .u8 0, .int .u8 0, .int .u8 0, .int .u8 0, .int .u8 0, .int .u8 0, .int .u8 0, .int .u8 0, .int .u8 0, .int .u8 0, .int .u8 0, .int .u8 0, .int .u8 0, .int .u8 0, .int .u8 0, .int .u8 0, .int .u8 0, .int .u8 0, .int .u8 0])).run Try.prog w = .ok true w := fun w => (eq_hash h12.len h12.len w).trans (by rw [show eqB H12 H12 = true from decide_eq_true rfl])
  go_wp2_with (refine BigFrame.wpList_want (by rfl) fun K hK => wp_load_agg (.tmp 9) rfl rfl HC.out h12.len ?_)
  refine (put_any 513 (by decide) 2 _ (by decide) (Bs.nil _ _)).mono ?_
  rintro e w8 ⟨A2, n, c2, rfl, hnc, O⟩
  rw [show putS [] 513 2 = [1, 2] by decide] at O
  obtain rfl : n = 2 := O.len.symm
  have R8' := Lib.hid (O.reads.later ((Below.refl _ _).alloc (Nat.le_refl _) (.cells (vals [1, 2]).toArray 5)))
  have BD : Hid (Below w.heap.size w w8) := Lib.hid (BC.out.trans (O.bel.mono BC.out.size))
  have BE : Hid (Below w.heap.size w (w8.alloc (.cells (vals [1, 2]).toArray 5))) := Lib.hid (BD.out.alloc BD.out.size _)
  have LE := Lib.hid (Bs.lit w8 [1, 2] (by decide))
  clear O hnc EQ
  go_wp2_with fail
  refine (same_any _ (by decide) (by decide) R8'.out LE.out).mono ?_
  rintro e w9 ⟨rfl, hb⟩
  rw [show eqB [1, 2] [1, 2] = true by decide]
  have BF := Lib.hid (BE.out.trans (hb.mono BE.out.size))
  clear hb
  go_wp2_with fail
  go_ret
  exact ⟨rfl, BF.out⟩
end Go.Proofs.Ytcnmplkljpkheaa
