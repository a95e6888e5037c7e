/- The reference's reader: numbers, counts and items. No condition. -/
import Derived.Test.YtbdjcbdnhaddoaaDoorRRd
namespace Go.Proofs.YtbdjcbdnhaddoaaDoor
open Go.RowKit

theorem val_drop {y : List Nat} {j : Nat} (h : j < y.length) : valLE (y.drop j) = nth y j + 256 * valLE (y.drop (j + 1)) := by
  rw [List.drop_eq_getElem_cons h, valLE]
  congr 1
  simp [nth, List.getD, h]
theorem val_drop_lt {y : List Nat} (hb : AllB y) (j : Nat) : valLE (y.drop j) < 256 ^ (y.length - j) := by
  have := val_lt (L := y.drop j) (fun x hx => hb x (List.mem_of_mem_drop hx))
  rwa [List.length_drop] at this
/-- What number gives. -/
def NumE (w0 : World) (r : Nat) (w : World) (k : Nat) (L : List Nat) (bad : Bool) (e : Ending) (w' : World) : Prop := ∃ (x : Nat) (L' : List Nat) (bad' : Bool), e = .returned (.int .u64 (x : Int)) ∧ x < 256 ^ k ∧ RR w0 w' r L' bad' ∧ Gr r w w' ∧ St (numP k) bad L x L' bad'
set_option maxRecDepth 100000 in
set_option maxHeartbeats 2000000 in
theorem rnumber_any {w0 w : World} {r : Nat} {L : List Nat} {bad : Bool} {k : Nat} (R : RR w0 w r L bad) (hk : k ≤ 8) :
    Calls Tryd.prog 39 #[.pointer (some ⟨r, 0, none⟩), .int .i64 (k : Int)] w (NumE w0 r w k L bad) := by
  have RB := Lib.hid R.byt
  have CT := Lib.hid (rtake_any (n := k) R (by omega))
  clear R
  go_enter Tryd.func39, Tryd.ntmps39
  go_wp2_with (go_at_call 40; refine CT.out.mono ?_)
  rintro e w1 ⟨A, m, c, L', bad', rfl, hmc, hm30, RR1, G1, hT⟩
  have hm8 : m ≤ k := by
    rcases hT with ⟨_, _, h, _⟩ | ⟨_, h, _⟩ <;> omega
  obtain ⟨y, hy, hs, hz⟩ := takes_st hT
  have HS := Lib.hid hs
  have HZ0 := Lib.hid hz
  have H1 := Lib.hid RR1
  have HG := Lib.hid G1
  have HY := Lib.hid (hy.later RR1.bel)
  have LY := Lib.hid hy.len
  have BY := Lib.hid hy.byt
  have W1 : IntKind.i64.wrap ((m : Int) - 1) = (m : Int) - 1 := IntWalk.i64_in _ ⟨by omega, by omega⟩
  clear CT RR1 G1 hT hy hs hz
  go_wp2_with fail
  go_loopw [6, 7] (fun x i wr => ∃ (j : Nat) (z : Nat), j ≤ m ∧ i = .int .i64 ((j : Int) - 1) ∧ x = .int .u64 (z : Int) ∧ z = valLE (y.drop j) ∧ wr = w1) (fun _ i _ => (intOf i + 1).toNat)
  case atStart => exact ⟨m, 0, Nat.le_refl _, rfl, rfl, by rw [List.drop_of_length_le (by rw [LY.out]; exact Nat.le_refl _)]; rfl, rfl⟩
  case round =>
    obtain ⟨j, z, hj, rfl, rfl, hz, rfl⟩ := hrel
    have HZ := Lib.hid hz
    clear hz
    by_cases h0 : 0 < j
    · obtain ⟨i, rfl⟩ : ∃ i, j = i + 1 := ⟨j - 1, by omega⟩
      have t1 : decide ((0 : Int) ≤ ((i + 1 : Nat) : Int) - 1) = true := decide_eq_true (by omega)
      obtain ⟨a, rfl, _, ca, lt1⟩ := HY.out.at_ (k := i) (by omega)
      obtain ⟨b, hb⟩ : ∃ b, nth y i = b := ⟨_, rfl⟩
      have hv := val_drop (y := y) (j := i) (by rw [LY.out]; omega)
      have hl := val_drop_lt BY.out (i + 1)
      rw [← HZ.out, hb] at hv
      rw [← HZ.out, LY.out] at hl
      rw [hb] at ca lt1
      have hz7 : z < 72057594037927936 := Nat.lt_of_lt_of_le hl (Nat.le_trans (Nat.pow_le_pow_right (by decide) (by omega : m - (i + 1) ≤ 7)) (by decide))
      have W2 : IntKind.u64.wrap ((z : Int) * 256) = (z : Int) * 256 := by rw [IntKind.wrap_u64]; omega
      have W3 : IntKind.i64.wrap ((i : Int) - 1) = (i : Int) - 1 := IntWalk.i64_in _ ⟨by omega, by omega⟩
      have ho : bits BinOp.or IntKind.u64 ((z : Int) * 256) (b : Int) = ((b + 256 * z : Nat) : Int) := by
        have e1 : ((z : Int) * 256) = ((256 * z : Nat) : Int) := by omega
        rw [e1, bits_or_u64_nat (256 * z) b (by omega) (by omega)]
        have := Nat.two_pow_add_eq_or_of_lt (show b < 2 ^ 8 from lt1) z
        rw [show (2 : Nat) ^ 8 = 256 from rfl] at this
        rw [← this]
        omega
      have HV := Lib.hid hv
      clear hv hl hb hz7
      go_wp2_with fail
      exact ⟨⟨i, b + 256 * z, by omega, rfl, rfl, HV.out.symm, trivial⟩, by simp [intOf]⟩
    · have t1 : decide ((0 : Int) ≤ (j : Int) - 1) = false := decide_eq_false (by omega)
      obtain rfl : j = 0 := by omega
      have hx : z < 256 ^ k ∧ St (numP k) bad L z L' bad' := by
        have hz := HZ.out
        rw [List.drop_zero] at hz
        rcases HS.out with ⟨h1, h2, h3⟩ | ⟨h1, h2⟩
        · have hn : numP k L = some (z, L') := by unfold numP; rw [h3, hz]; rfl
          exact ⟨(numP_some hn RB.out).2.2, .inl ⟨h1, h2, hn⟩⟩
        · have hy0 := HZ0.out h1
          rw [hy0] at hz
          rw [hz]
          refine ⟨Nat.pow_pos (by decide), .inr ⟨h1, fun h => ?_⟩⟩
          unfold numP
          rw [h2 h]
          rfl
      have HX := Lib.hid hx
      clear hx
      go_wp2_with fail
      go_ret
      exact ⟨z, L', bad', rfl, HX.out.1, H1.out, HG.out, HX.out.2⟩
theorem st_bind {α β : Type} {p : List Nat → Option (α × List Nat)} {q : α → List Nat → Option (β × List Nat)} {b0 b1 b2 : Bool} {L L1 L2 : List Nat} {x : α} {y : β} (h1 : St p b0 L x L1 b1) (h2 : St (q x) b1 L1 y L2 b2) : St (fun L => (p L).bind fun z => q z.1 z.2) b0 L y L2 b2 := by
  rcases h1 with ⟨a1, a2, a3⟩ | ⟨a1, a2⟩
  · rcases h2 with ⟨c1, c2, c3⟩ | ⟨c1, c2⟩
    · exact .inl ⟨a1, c2, by show (p L).bind _ = _; rw [a3]; exact c3⟩
    · exact .inr ⟨c1, fun _ => by show (p L).bind _ = _; rw [a3]; exact c2 a2⟩
  · rcases h2 with ⟨c1, _, _⟩ | ⟨c1, _⟩
    · rw [a1] at c1; cases c1
    · exact .inr ⟨c1, fun h => by show (p L).bind _ = _; rw [a2 h]; rfl⟩
theorem st_pure {α : Type} {b : Bool} {L : List Nat} {x : α} : St (fun L => some (x, L)) b L x L b := by
  cases b
  · exact .inl ⟨rfl, rfl, rfl⟩
  · exact .inr ⟨rfl, fun h => by cases h⟩
theorem st_eq {α : Type} {p q : List Nat → Option (α × List Nat)} {b b' : Bool} {L L' : List Nat} {x : α} (h : St p b L x L' b') (e : p L = q L) : St q b L x L' b' := by
  rcases h with ⟨a1, a2, a3⟩ | ⟨a1, a2⟩
  · exact .inl ⟨a1, a2, by rw [← e]; exact a3⟩
  · exact .inr ⟨a1, fun k => by rw [← e]; exact a2 k⟩
/-- A count of something, each of a byte at least. -/
def cntP2 (L : List Nat) : Option (Nat × List Nat) := (cntP L).bind fun x => if x.1 ≤ x.2.length then some x else none
theorem item2 (L : List Nat) : ((cntP2 L).bind fun z => takeP z.1 z.2) = itemP L := by
  unfold cntP2 itemP
  cases h : cntP L with
  | none => rfl
  | some x =>
    rw [Option.bind_some, Option.bind_some]
    by_cases hl : x.1 ≤ x.2.length
    · rw [if_pos hl, Option.bind_some]
    · rw [if_neg hl, takeP_none (by omega)]; rfl
/-- What count gives. -/
def CntE (w0 : World) (r : Nat) (w : World) (L : List Nat) (bad : Bool) (e : Ending) (w' : World) : Prop := ∃ (n : Nat) (L' : List Nat) (bad' : Bool), e = .returned (.int .i64 (n : Int)) ∧ n ≤ 1073741824 ∧ RR w0 w' r L' bad' ∧ Gr r w w' ∧ St cntP2 bad L n L' bad'
theorem cnt_sel {x k : Nat} {L : List Nat} (h : (x = 253 ∧ k = 2) ∨ (x = 254 ∧ k = 4) ∨ (x = 255 ∧ k = 8)) : (if x = 253 then numP 2 L else if x = 254 then numP 4 L else if x = 255 then numP 8 L else some (x, L)) = numP k L := by
  rcases h with ⟨rfl, rfl⟩ | ⟨rfl, rfl⟩ | ⟨rfl, rfl⟩ <;> rfl
theorem st_cnt {x y k : Nat} {b0 b1 b2 : Bool} {L L1 L2 : List Nat} (h1 : St (numP 1) b0 L x L1 b1) (h : (x = 253 ∧ k = 2) ∨ (x = 254 ∧ k = 4) ∨ (x = 255 ∧ k = 8)) (h2 : St (numP k) b1 L1 y L2 b2) : St cntP b0 L y L2 b2 :=
  st_bind (q := fun x L => if x = 253 then numP 2 L else if x = 254 then numP 4 L else if x = 255 then numP 8 L else some (x, L)) h1 (st_eq h2 (cnt_sel h).symm)
theorem st_cnt0 {x : Nat} {b0 b1 : Bool} {L L1 : List Nat} (h1 : St (numP 1) b0 L x L1 b1) (h : x ≠ 253 ∧ x ≠ 254 ∧ x ≠ 255) : St cntP b0 L x L1 b1 :=
  st_bind (q := fun x L => if x = 253 then numP 2 L else if x = 254 then numP 4 L else if x = 255 then numP 8 L else some (x, L)) h1 (st_eq st_pure (by rw [if_neg h.1, if_neg h.2.1, if_neg h.2.2]))
set_option maxRecDepth 100000 in
set_option maxHeartbeats 2000000 in
theorem rcount_any {w0 w : World} {r : Nat} {L : List Nat} {bad : Bool} (R : RR w0 w r L bad) :
    Calls Tryd.prog 42 #[.pointer (some ⟨r, 0, none⟩)] w (CntE w0 r w L bad) := by
  have C1 : Hid (Calls Tryd.prog 39 #[.pointer (some ⟨r, 0, none⟩), .int .i64 1] w (NumE w0 r w 1 L bad)) := Lib.hid (rnumber_any (k := 1) R (by decide))
  have rlo := R.lo
  clear R
  go_enter Tryd.func42, Tryd.ntmps42
  go_wp2_with (go_at_call 39; refine C1.out.mono ?_)
  rintro e w1 ⟨x, L1, b1, rfl, hx, R1, G1, S1⟩
  have H1 := Lib.hid R1
  have HG := Lib.hid G1
  have HS := Lib.hid S1
  clear C1 R1 G1 S1
  have C2 : Hid (Calls Tryd.prog 39 #[.pointer (some ⟨r, 0, none⟩), .int .i64 2] w1 (NumE w0 r w1 2 L1 b1)) := Lib.hid (rnumber_any (k := 2) H1.out (by decide))
  have C4 : Hid (Calls Tryd.prog 39 #[.pointer (some ⟨r, 0, none⟩), .int .i64 4] w1 (NumE w0 r w1 4 L1 b1)) := Lib.hid (rnumber_any (k := 4) H1.out (by decide))
  have C8 : Hid (Calls Tryd.prog 39 #[.pointer (some ⟨r, 0, none⟩), .int .i64 8] w1 (NumE w0 r w1 8 L1 b1)) := Lib.hid (rnumber_any (k := 8) H1.out (by decide))
  go_upto_if 7 with fail
  go_cut [3] from 8 to 17 (fun v wx => ∃ (y : Nat) (L2 : List Nat) (b2 : Bool), v = .int .u64 (y : Int) ∧ y < 18446744073709551616 ∧ RR w0 wx r L2 b2 ∧ Gr r w wx ∧ St cntP bad L y L2 b2)
  case first =>
    by_cases q1 : x = 253
    · subst q1
      go_wp2_with (go_at_call 39; refine C2.out.mono ?_; rintro e w2 ⟨y, L2, b2, rfl, hy, R2, G2, S2⟩)
      go_meet
      exact ⟨y, L2, b2, rfl, by omega, R2, gr_trans HG.out G2, st_cnt HS.out (.inl ⟨rfl, rfl⟩) S2⟩
    · have t1 : ((x : Int) == 253) = false := by rw [beq_eq_false_iff_ne]; omega
      by_cases q2 : x = 254
      · subst q2
        go_wp2_with (go_at_call 39; refine C4.out.mono ?_; rintro e w2 ⟨y, L2, b2, rfl, hy, R2, G2, S2⟩)
        go_meet
        exact ⟨y, L2, b2, rfl, by omega, R2, gr_trans HG.out G2, st_cnt HS.out (.inr (.inl ⟨rfl, rfl⟩)) S2⟩
      · have t2 : ((x : Int) == 254) = false := by rw [beq_eq_false_iff_ne]; omega
        by_cases q3 : x = 255
        · subst q3
          go_wp2_with (go_at_call 39; refine C8.out.mono ?_; rintro e w2 ⟨y, L2, b2, rfl, hy, R2, G2, S2⟩)
          go_meet
          exact ⟨y, L2, b2, rfl, by omega, R2, gr_trans HG.out G2, st_cnt HS.out (.inr (.inr ⟨rfl, rfl⟩)) S2⟩
        · have t3 : ((x : Int) == 255) = false := by rw [beq_eq_false_iff_ne]; omega
          have hx64 : x < 18446744073709551616 := by omega
          have HX := Lib.hid hx64
          clear hx hx64
          go_wp2_with fail
          go_meet
          exact ⟨x, L1, b1, rfl, HX.out, H1.out, HG.out, st_cnt0 HS.out ⟨q1, q2, q3⟩⟩
  case rest =>
    obtain ⟨y, L2, b2, rfl, hy, R2, G2, S2⟩ := hcut
    obtain ⟨A, m, c, h1, h2, h3, h4⟩ := R2.box
    obtain rfl := h4.len
    have c0 := h1.cell (k := 0) (v := .slice A L2.length c) rfl
    have c1 := h1.cell (k := 1) (v := .bool b2) rfl
    have f1 := h1.free 1
    have HB := Lib.hid h1
    have HR2 := Lib.hid R2
    have HG2 := Lib.hid G2
    have HS2 := Lib.hid S2
    have H4 := Lib.hid h4
    have W1 : IntKind.u64.wrap (L2.length : Int) = (L2.length : Int) := by rw [IntKind.wrap_u64]; omega
    clear R2 G2 S2 h1 h4 HS HG H1 C2 C4 C8 hx
    by_cases hl : L2.length < y
    · have t1 : decide ((L2.length : Int) < (y : Int)) = true := decide_eq_true (by omega)
      have t1n : decide (L2.length < y) = true := decide_eq_true hl
      have HL := Lib.hid hl
      clear hl
      go_wp2_with fail
      go_ret
      refine ⟨0, L2, true, rfl, by decide, ⟨⟨A, _, c, HB.out.set 1 (.bool true), h2, h3, H4.out⟩, rlo, HR2.out.bel.setCell (p := ⟨r, 1, none⟩) rlo _⟩, gr_trans HG2.out (gr_set _ r 1 _), .inr ⟨rfl, fun hb => ?_⟩⟩
      unfold cntP2
      rcases HS2.out with ⟨a1, a2, a3⟩ | ⟨a1, a2⟩
      · rw [a3, Option.bind_some, if_neg (by have := HL.out; simp only; omega)]
      · rw [a2 hb]; rfl
    · have t1 : decide ((L2.length : Int) < (y : Int)) = false := decide_eq_false (by omega)
      have t1n : decide (L2.length < y) = false := decide_eq_false hl
      have W2 : IntKind.i64.wrap (y : Int) = (y : Int) := IntWalk.i64_in _ ⟨by omega, by omega⟩
      have HL : Hid (y ≤ L2.length ∧ y ≤ 1073741824) := Lib.hid ⟨by omega, by omega⟩
      clear hl
      go_wp2_with fail
      go_ret
      refine ⟨y, L2, b2, rfl, HL.out.2, HR2.out, HG2.out, ?_⟩
      rcases HS2.out with ⟨a1, a2, a3⟩ | ⟨a1, a2⟩
      · exact .inl ⟨a1, a2, by unfold cntP2; rw [a3, Option.bind_some, if_pos HL.out.1]⟩
      · exact .inr ⟨a1, fun h => by unfold cntP2; rw [a2 h]; rfl⟩
/-- What item gives. -/
def ItemE (w0 : World) (r : Nat) (w : World) (L : List Nat) (bad : Bool) (e : Ending) (w' : World) : Prop := ∃ (y : List Nat) (A : Option Addr) (n c : Nat) (L' : List Nat) (bad' : Bool), e = .returned (.slice A n c) ∧ n ≤ c ∧ n ≤ 1073741824 ∧ BsP w' (fun b => w.heap.size ≤ b) A n y ∧ RR w0 w' r L' bad' ∧ Gr r w w' ∧ St itemP bad L y L' bad'
set_option maxRecDepth 100000 in
set_option maxHeartbeats 2000000 in
theorem ritem_any {w0 w : World} {r : Nat} {L : List Nat} {bad : Bool} (R : RR w0 w r L bad) :
    Calls Tryd.prog 43 #[.pointer (some ⟨r, 0, none⟩)] w (ItemE w0 r w L bad) := by
  have C1 := Lib.hid (rcount_any R)
  clear R
  go_enter Tryd.func43, Tryd.ntmps43
  go_wp2_with (go_at_call 42; refine C1.out.mono ?_)
  rintro e w1 ⟨n, L1, b1, rfl, hn, R1, G1, S1⟩
  have HS := Lib.hid S1
  have HG := Lib.hid G1
  have C2 := Lib.hid (rtake_any (n := n) R1 (by omega))
  clear C1 R1 G1 S1
  go_wp2_with (go_at_call 40; refine C2.out.mono ?_)
  rintro e w2 ⟨A, m, c, L2, b2, rfl, hmc, hm30, R2, G2, hT⟩
  obtain ⟨y, hy, hs, _⟩ := takes_st hT
  have S2 := Lib.hid (st_eq (st_bind (q := takeP) HS.out hs) (item2 L))
  have HR := Lib.hid R2
  have HG2 := Lib.hid (gr_trans HG.out G2)
  have HY := Lib.hid (hy.later R2.bel)
  have O0 : Hid (Own w2 (.slice none 0 0) 0 [] w2) := Lib.hid ⟨World.ownsRow_nil _ _ _ _, allB_nil, Below.refl _ _⟩
  clear C2 R2 G2 hT hy hs HS HG
  go_wp2_with (at_builtin; refine wpList_appB rfl (.const (.slice none 0 0)) (.tmp 8) rfl rfl O0.out rfl HY.out (by omega) ?_)
  intro A3 n3 c3 w3 hc3 O G
  have HO := Lib.hid O
  have LO := Lib.hid O.len
  have LY := Lib.hid HY.out.len
  have b3 := O.bel
  have HR3 := Lib.hid (HR.out.later b3)
  have HG3 := Lib.hid (gr_trans HG2.out (gr_below r b3))
  have gs : w.heap.size ≤ w2.heap.size := HG2.out.size
  clear O G b3 HR HG2 HY O0
  go_wp2_with fail
  go_ret
  refine ⟨y, A3, n3, c3, L2, b2, rfl, hc3, ?_, ⟨?_, ?_⟩, HR3.out, HG3.out, S2.out⟩
  · have h1 := LO.out
    have h2 := LY.out
    try simp only [List.nil_append] at h1
    omega
  · have := HO.out.reads
    simpa using this
  · intro hn3 a e
    have := HO.out.new a.block (by rw [e]; rfl)
    omega
end Go.Proofs.YtbdjcbdnhaddoaaDoor
