/- The document's lines of all bytes so far: what the reference gives, in feedS's words. No condition but a bound on the length. -/
import Derived.Test.YtfmfooocfcdalaaTx
namespace Go.Proofs.Ytfmfooocfcdalaa
open Go.RowKit
attribute [local go_sem ↓] appL_mark

/-- What holds when i bytes of L were gone through. -/
structure LS (W : World) (L : List Nat) (lv : Value) (p i : Nat) (us : List Value) (Ls : List (List Nat)) (wr : World) : Prop where
  fed : feedS ([], [], false) (L.take i) = (Ls, (L.drop p).take (i - p), false)
  pi : p ≤ i
  iL : i ≤ L.length
  tx : Tx (fun k => W.heap.size ≤ k) W.heap.size lv us Ls wr
  bel : Below W.heap.size W wr
def LI (W : World) (L : List Nat) (lv : Value) (p i : Nat) (wr : World) : Prop := ∃ us Ls, LS W L lv p i us Ls wr
theorem LI.start (W : World) (L : List Nat) : LI W L (.slice none 0 0) 0 0 W := ⟨[], [], rfl, Nat.le_refl _, Nat.zero_le _, Tx.nil _ _ _, Below.refl _ _⟩
theorem take_one {L : List Nat} {i : Nat} (h : i < L.length) : L.take (i + 1) = L.take i ++ [nth L i] := by
  rw [List.take_succ_eq_append_getElem h]
  simp [nth, List.getD, List.getElem?_eq_getElem h]
theorem fed_one {L : List Nat} {i : Nat} (h : i < L.length) (st : St) : feedS st (L.take (i + 1)) = stepB (feedS st (L.take i)) (nth L i) := by
  rw [take_one h, feedS_app]; rfl
theorem LS.len {W : World} {L : List Nat} {lv : Value} {p i : Nat} {us : List Value} {Ls : List (List Nat)} {wr : World} (h : LS W L lv p i us Ls wr) : ((L.drop p).take (i - p)).length = i - p := by
  have := h.iL; have := h.pi; simp; omega
theorem LI.keep {W : World} {L : List Nat} {lv : Value} {p i : Nat} {wr : World} (h : LI W L lv p i wr) (hi : i < L.length) (hx : nth L i ≠ 10) (hm : i - p ≠ 65536) : LI W L lv p (i + 1) wr := by
  obtain ⟨us, Ls, h⟩ := h
  have hl := h.len
  have hp := h.pi
  refine ⟨us, Ls, ?_, by omega, hi, h.tx, h.bel⟩
  rw [fed_one hi, h.fed]
  unfold stepB
  rw [if_neg (by simp), if_neg hx, if_neg (by show ¬ ((L.drop p).take (i - p)).length = 65536; omega)]
  show (Ls, _, false) = _
  have e : (L.drop p).take (i + 1 - p) = (L.drop p).take (i - p) ++ [nth L i] := by
    rw [show i + 1 - p = (i - p) + 1 by omega, List.take_succ_eq_append_getElem (by simp; omega)]
    simp [nth, List.getD, List.getElem?_eq_getElem hi, show p + (i - p) = i by omega]
  rw [e]
theorem LI.over {W : World} {L : List Nat} {lv : Value} {p i : Nat} {wr : World} (h : LI W L lv p i wr) (hi : i < L.length) (hx : nth L i ≠ 10) (hm : i - p = 65536) :
    ∃ us Ls, feedS ([], [], false) L = (Ls, [], true) ∧ Tx (fun k => W.heap.size ≤ k) W.heap.size lv us Ls wr ∧ Below W.heap.size W wr := by
  obtain ⟨us, Ls, h⟩ := h
  have hl := h.len
  have hp := h.pi
  refine ⟨us, Ls, ?_, h.tx, h.bel⟩
  have e : feedS ([], [], false) (L.take (i + 1)) = (Ls, [], true) := by
    rw [fed_one hi, h.fed]
    unfold stepB
    rw [if_neg (by simp), if_neg hx, if_pos (by show ((L.drop p).take (i - p)).length = 65536; omega)]
  rw [← List.take_append_drop (i + 1) L, feedS_app, e, feedS_over]
theorem LI.bel {W : World} {L : List Nat} {lv : Value} {p i : Nat} {wr : World} (h : LI W L lv p i wr) : Below W.heap.size W wr := by
  obtain ⟨us, Ls, h⟩ := h
  exact h.bel
theorem LI.line {W : World} {L : List Nat} {lv : Value} {p i : Nat} {wr w1 : World} {A : Option Addr} {n c : Nat} (h : LI W L lv p i wr) (hi : i < L.length) (hL : L.length ≤ 549755813888) (hx : nth L i = 10) (O : Own wr (.slice A n c) n ((L.drop p).take (i - p)) w1) (hnc : n ≤ c) (ty : TypeId) :
    ∃ lv' w2, (Builtin.append_ #[30, 30] ty #[lv, .slice (some ⟨w1.heap.size, 0, none⟩) 1 1]).run Try.prog (w1.alloc (.cells #[.slice A n c] 27)) = .ok lv' w2 ∧ LI W L lv' (i + 1) (i + 1) w2 := by
  obtain ⟨us, Ls, h⟩ := h
  have hp := h.pi
  have hs := h.bel.size
  have hs1 := O.bel.size
  have hu : us.length ≤ L.length := by
    have := feedS_small (L.take i) ([], [], false) (by simp) (by simp)
    rw [h.fed] at this
    have h2 := this.2
    have h3 := h.tx.lines.len
    simp at h2
    omega
  have g2 : Below wr.heap.size wr (w1.alloc (.cells #[.slice A n c] 27)) := O.bel.alloc hs1 _
  have T2 : Tx (fun k => W.heap.size ≤ k) W.heap.size lv us Ls (w1.alloc (.cells #[.slice A n c] 27)) := h.tx.later g2 (fun _ _ hk => hk)
  have R2 : Bs (w1.alloc (.cells #[.slice A n c] 27)) A n ((L.drop p).take (i - p)) := O.reads.later ((Below.refl _ _).alloc (Nat.le_refl _) _)
  obtain ⟨lv', w2, a1, a2, a3, a4⟩ := T2.add (ok0 := fun k => wr.heap.size ≤ k) (A := some ⟨w1.heap.size, 0, none⟩) (m := 1) (c := 1) (vs := [.slice A n c]) (ls := [(L.drop p).take (i - p)]) ty (by simp; omega) rfl (fun a e j u hj => by
      injection e with e
      subst e
      match j, hj with
      | 0, hj =>
        simp at hj
        subst hj
        have hh := heap_alloc_new w1 (.cells #[.slice A n c] 27)
        show World.cell? _ ((⟨w1.heap.size, 0, none⟩ : Addr).add 0) = _
        rw [show (⟨w1.heap.size, 0, none⟩ : Addr).add 0 = ⟨w1.heap.size, 0, none⟩ from rfl]
        unfold World.cell?
        simp only [hh]
        rfl) (by simp) (.snoc .nil ⟨A, n, c, rfl, hnc, R2, fun a e => ⟨(O.new a.block (by rw [e]; rfl)).1, by have := (O.new a.block (by rw [e]; rfl)).2; simp; omega⟩⟩)
      (fun k hk h0 => ⟨by omega, fun e => by have := (h.tx.lt k e).2; omega⟩) (by simp; omega) (by simp; omega)
  refine ⟨lv', w2, a1, _, _, ?_, Nat.le_refl _, hi, a2, ?_⟩
  · rw [fed_one hi, h.fed]
    unfold stepB
    rw [if_neg (by simp), if_pos hx]
    simp
  · have h1 := h.bel.trans (g2.mono h.bel.size)
    exact h1.grown a3 h1.size (fun k e => (h.tx.lt k e).1)

/-- What the reference's Lines gives. -/
def LinesOut (W : World) (L : List Nat) (e : Ending) (W' : World) : Prop :=
  ∃ lv us Ls M ov A n c, feedS ([], [], false) L = (Ls, M, ov) ∧ e = .returned (.tuple #[lv, .slice A n c, .bool ov]) ∧ Tx (fun k => W.heap.size ≤ k) W.heap.size lv us Ls W' ∧ Own W (.slice A n c) n M W'

set_option maxRecDepth 100000 in
set_option maxHeartbeats 8000000 in
theorem lines_any {A : Option Addr} {n c : Nat} {L : List Nat} (W : World) (hL : Bs W A n L) (hnc : n ≤ c) (hn : n ≤ 549755813888) : Calls Try.prog 19 #[.slice A n c] W (LinesOut W L) := by
  have HL := Lib.hid hL
  have HLl := Lib.hid hL.len
  clear hL
  go_enter Try.func19, Try.ntmps19
  go_wp2_with fail
  go_loopw [2, 5, 6] (fun lv p i wr => ∃ q k : Nat, p = .int .i64 (q : Nat) ∧ i = .int .i64 (k : Nat) ∧ q ≤ k ∧ k ≤ n ∧ LI W L lv q k wr) (fun _ _ i _ => n - (intOf i).toNat)
  case atStart => exact ⟨0, 0, rfl, rfl, by omega, by omega, LI.start W L⟩
  case round =>
    obtain ⟨q, k, rfl, rfl, hqk, hkn, li⟩ := hrel
    have LI0 := Lib.hid li
    have BB := Lib.hid li.bel
    clear li
    by_cases hlt : k < n
    · obtain ⟨a, rfl, ha, ca, la⟩ := (HL.out.later BB.out).at_ hlt
      have hcq : ¬ c = q := by omega
      by_cases hx : nth L k = 10
      · have HX := Lib.hid hx
        rw [hx] at ca
        clear hx
        have PB : Hid (Bs wr (some (a.add q)) (k - q) ((L.drop q).take (k - q))) := Lib.hid (by
          have h := (HL.out.later BB.out).cut (k := q) (m := k - q) (c := c) (by omega) (by omega)
          rwa [if_neg hcq] at h)
        go_wp2_with (at_builtin; refine wpList_app rfl _ _ rfl rfl (Own.made (Below.refl _ _) _ _ ?c1 ?c2) rfl (PB.out.later ((Below.refl _ _).alloc (Nat.le_refl _) _)) ?c3 ?_)
        case c1 => decide
        case c2 => rfl
        case c3 => omega
        intro A' c' w1 hc1 O g1
        obtain ⟨lv', w2, hap, li2⟩ := LI0.out.line (by have := HLl.out; omega) (by have := HLl.out; omega) HX.out O (by omega) 30
        rw [appL_mark] at hap
        have LI2 := Lib.hid li2
        clear O g1 li2
        go_wp2_with fail
        go_roundw
        case rel => exact ⟨k + 1, k + 1, by go_num, by go_num, by omega, by omega, LI2.out⟩
        case measure => simp [intOf]; omega
      · have HX := Lib.hid hx
        obtain ⟨x, hxx⟩ : ∃ x, nth L k = x := ⟨_, rfl⟩
        rw [hxx] at ca la hx
        have t6 : ((x : Int) == 10) = false := by rw [beq_eq_false_iff_ne]; omega
        clear hxx
        have q1 : IntKind.i64.wrap ((k : Int) - (q : Int)) = (k : Int) - (q : Int) := by unfold IntKind.wrap; simp [IntKind.bits, IntKind.signed]; omega
        by_cases hm : k - q = 65536
        · have hm2 : (k : Int) - (q : Int) = 65536 := by omega
          have t7 : ((k : Int) - (q : Int) == 65536) = true := by rw [beq_iff_eq]; exact hm2
          obtain ⟨us, Ls, h1, h2, h3⟩ := LI0.out.over (by have := HLl.out; omega) HX.out hm
          have H1 := Lib.hid h1
          have H2 := Lib.hid h2
          have H3 := Lib.hid h3
          clear h1 h2 h3 hm2 hm
          go_wp2_with fail
          go_ret3
          exact ⟨u2, us, Ls, [], true, none, 0, 0, H1.out, rfl, H2.out, World.ownsRow_nil _ _ _ _, allB_nil, H3.out⟩
        · have hm2 : (k : Int) - (q : Int) ≠ 65536 := by omega
          have t7 : ((k : Int) - (q : Int) == 65536) = false := by rw [beq_eq_false_iff_ne]; exact hm2
          have LI2 := Lib.hid (LI0.out.keep (by have := HLl.out; omega) HX.out hm)
          clear hm2
          go_wp2_with fail
          go_roundw
          case rel => exact ⟨q, k + 1, rfl, by go_num, by omega, by omega, LI2.out⟩
          case measure => simp [intOf]; omega
    · obtain rfl : k = n := by omega
      obtain ⟨us, Ls, ls⟩ := LI0.out
      have hfed := ls.fed
      have hlen := ls.len
      rw [List.take_of_length_le (by have := HLl.out; omega)] at hfed
      have HF := Lib.hid hfed
      have HT := Lib.hid ls.tx
      clear ls hfed
      have PB := Lib.hid ((HL.out.later BB.out).cut (k := q) (m := k - q) (c := c) (by omega) (by omega))
      by_cases hcq : c = q
      · subst hcq
        rw [if_pos rfl] at PB
        obtain rfl : k = c := by omega
        replace PB : Hid (Bs wr A 0 ((L.drop k).take (k - k))) := Lib.hid ⟨by have := PB.out.len; omega, PB.out.byt, fun h => absurd h (by omega)⟩
        go_wp2_with (at_builtin; refine wpList_app rfl _ _ rfl rfl (Own.made (Below.refl _ _) _ _ ?d1 ?d2) rfl (PB.out.later ((Below.refl _ _).alloc (Nat.le_refl _) _)) ?d3 ?_)
        case d1 => decide
        case d2 => rfl
        case d3 => omega
        intro A' c' w1 O g1
        have O := Lib.hid O
        clear g1
        go_wp2_with fail
        go_ret3
        exact ⟨u2, us, Ls, _, false, A', 0, c', HF.out, rfl, HT.out.later (O.out.bel) (fun _ _ h => h), by rw [Nat.sub_self, List.take_zero]; exact O.out.weaken BB.out⟩
      · rw [if_neg hcq] at PB
        go_wp2_with (at_builtin; refine wpList_app rfl _ _ rfl rfl (Own.made (Below.refl _ _) _ _ ?e1 ?e2) rfl (PB.out.later ((Below.refl _ _).alloc (Nat.le_refl _) _)) ?e3 ?_)
        case e1 => decide
        case e2 => rfl
        case e3 => omega
        intro A' c' w1 hc1 O g1
        have O := Lib.hid O
        clear g1
        go_wp2_with fail
        go_ret3
        exact ⟨u2, us, Ls, _, false, A', k - q, c', HF.out, rfl, HT.out.later (O.out.bel) (fun _ _ h => h), O.out.weaken BB.out⟩
end Go.Proofs.Ytfmfooocfcdalaa
