/- The reference's Get: the row of inputs while a witness is put in; what all its reads come to. No condition. -/
import Derived.Test.YtbdjcbdnhaddoaaDoorRBody
namespace Go.Proofs.YtbdjcbdnhaddoaaDoor
open Go.RowKit

/-- The row of inputs, the j-th one's witness being made: all else lies below m3. -/
structure OpenRow (w1 : World) (lo hi m3 g n : Nat) (l : List InD) (j : Nat) (i : InD) (Aw : Option Addr) (k cw : Nat) : Prop where
  len : l.length = n
  at_ : l[j]? = some i
  g1 : lo ≤ g
  g2 : g < hi
  g3 : g < m3
  row : ∃ X As ns cs Y Z, Ro w1 g 56 (X ++ (inV i.h i.n As ns cs i.q Aw k cw ++ (Y ++ Z))) ∧ X.length = j * 36 ∧ i.Ok ∧ ns ≤ cs ∧ ns ≤ 140737488351232 ∧ BsP w1 (fun b => lo ≤ b ∧ b ≠ g ∧ b < m3) As ns i.s ∧
    Each 36 (InR w1 fun b => lo ≤ b ∧ b ≠ g ∧ b < m3) X (l.take j) ∧ Each 36 (InR w1 fun b => lo ≤ b ∧ b ≠ g ∧ b < m3) Y (l.drop (j + 1))
section
variable {w1 w2 : World} {lo hi m3 g n : Nat} {l : List InD} {j : Nat} {i : InD} {Aw : Option Addr} {k cw : Nat}
theorem OpenRow.of (I : InRow w1 lo hi (some ⟨g, 0, none⟩) n l) (hj : l[j]? = some i) (hm : w1.heap.size ≤ m3) (hc : w1.cell? ⟨g, j * 36 + 35, none⟩ = some (.slice none 0 0)) : OpenRow w1 lo hi m3 g n l j i none 0 0 := by
  obtain ⟨hl, rfl⟩ := List.getElem?_eq_some_iff.1 hj
  have hlen := I.len
  obtain ⟨g', cs, Z, e, h1, h2, h3, h4⟩ := I.row (by omega)
  injection e with e
  injection e with e
  subst e
  obtain ⟨X, V, Y, rfl, hX, hV, ⟨As, ns, cs', Aw, nw, cw, rfl, S⟩, hE1, hE2⟩ := h4.at_ hl
  have wk : ∀ b, (lo ≤ b ∧ b ≠ g) → b < w1.heap.size → lo ≤ b ∧ b ≠ g ∧ b < m3 := fun b hb hl => ⟨hb.1, hb.2, by omega⟩
  have hc2 : w1.cell? ⟨g, j * 36 + 35, none⟩ = some (.slice Aw nw cw) := h3.cell (by
    rw [List.append_assoc, List.getElem?_append_right (by omega), hX, Nat.add_sub_cancel_left, List.append_assoc, List.getElem?_append_left (by rw [hV]; decide)]
    exact inV_get S.ok.h _ _ _ _ _ _ _ _ 3)
  rw [hc] at hc2
  injection hc2 with hc2
  injection hc2 with e1 e2 e3
  subst e1 e2 e3
  refine ⟨hlen, hj, h1, h2, by have := h3.lt; omega, X, As, ns, cs', Y, Z, ?_, hX, S.ok, S.s1, S.s2, S.s.weak wk, hE1.imp fun V x hx => inR_mono.weak hx wk, hE2.imp fun V x hx => inR_mono.weak hx wk⟩
  rw [List.append_assoc, List.append_assoc] at h3
  exact h3
theorem OpenRow.keep (O : OpenRow w1 lo hi m3 g n l j i Aw k cw) (K : Kept (fun b => lo ≤ b ∧ b < m3) w1 w2) : OpenRow w2 lo hi m3 g n l j i Aw k cw := by
  obtain ⟨X, As, ns, cs, Y, Z, h1, h2, h3, h4, h5, h6, h7, h8⟩ := O.row
  have K2 : Kept (fun b => lo ≤ b ∧ b ≠ g ∧ b < m3) w1 w2 := ⟨K.size, fun b hb hl => K.blk b ⟨hb.1, hb.2.2⟩ hl⟩
  exact ⟨O.len, O.at_, O.g1, O.g2, O.g3, X, As, ns, cs, Y, Z, h1.same (K.blk g ⟨O.g1, O.g3⟩ h1.lt), h2, h3, h4, h5, h6.keep K2, h7.imp fun V x hx => inR_mono.keep hx K2, h8.imp fun V x hx => inR_mono.keep hx K2⟩
theorem OpenRow.set (O : OpenRow w1 lo hi m3 g n l j i Aw k cw) (B : Option Addr) (m d : Nat) : OpenRow (w1.setCell ⟨g, j * 36 + 35, none⟩ (.slice B m d)) lo hi m3 g n l j i B m d := by
  obtain ⟨X, As, ns, cs, Y, Z, h1, h2, h3, h4, h5, h6, h7, h8⟩ := O.row
  have K2 : Kept (fun b => lo ≤ b ∧ b ≠ g ∧ b < m3) w1 (w1.setCell ⟨g, j * 36 + 35, none⟩ (.slice B m d)) := Kept.of_grown (gr_set w1 g (j * 36 + 35) (.slice B m d)) fun b hb e => hb.2.1 (by injection e)
  have hV := inV_len h3.h i.n As ns cs i.q Aw k cw
  have := h1.set (j * 36 + 35) (.slice B m d)
  rw [List.set_append_right _ _ (by omega), h2, Nat.add_sub_cancel_left, List.set_append_left _ _ (by rw [hV]; decide), inV_set_w h3.h] at this
  exact ⟨O.len, O.at_, O.g1, O.g2, O.g3, X, As, ns, cs, Y, Z, this, h2, h3, h4, h5, h6.keep K2, h7.imp fun V x hx => inR_mono.keep hx K2, h8.imp fun V x hx => inR_mono.keep hx K2⟩
theorem OpenRow.cell (O : OpenRow w1 lo hi m3 g n l j i Aw k cw) : w1.cell? ⟨g, j * 36 + 35, none⟩ = some (.slice Aw k cw) ∧ (∀ x, w1.frozen? ⟨g, x, none⟩ = false) ∧ g < w1.heap.size := by
  obtain ⟨X, As, ns, cs, Y, Z, h1, h2, h3, h4, h5, h6, h7, h8⟩ := O.row
  have hV := inV_len h3.h i.n As ns cs i.q Aw k cw
  refine ⟨h1.cell ?_, h1.free, h1.lt⟩
  rw [List.getElem?_append_right (by omega), h2, Nat.add_sub_cancel_left, List.getElem?_append_left (by rw [hV]; decide)]
  exact inV_get h3.h _ _ _ _ _ _ _ _ 3
theorem OpenRow.close {y : List (List Nat)} (O : OpenRow w1 lo hi m3 g n l j i Aw k cw) (hk : k ≤ cw) (hk2 : k ≤ 140737488351232) (hy : AllBB y) (hr : Rows w1 (fun b => lo ≤ b ∧ b ≠ g) 1 BsR Aw k y) : InRow w1 lo hi (some ⟨g, 0, none⟩) n (l.set j (withW i y)) := by
  obtain ⟨X, As, ns, cs, Y, Z, h1, h2, h3, h4, h5, h6, h7, h8⟩ := O.row
  have hl := (List.getElem?_eq_some_iff.1 O.at_).1
  refine ⟨by rw [List.length_set]; exact O.len, fun _ => ⟨g, X ++ (inV i.h i.n As ns cs i.q Aw k cw ++ Y), Z, rfl, O.g1, O.g2, by rw [List.append_assoc, List.append_assoc]; exact h1, ?_⟩⟩
  have : l.set j (withW i y) = l.take j ++ withW i y :: l.drop (j + 1) := by rw [List.set_eq_take_append_cons_drop, if_pos hl]
  rw [this]
  have wk : ∀ b, (lo ≤ b ∧ b ≠ g ∧ b < m3) → b < w1.heap.size → lo ≤ b ∧ b ≠ g := fun b hb _ => ⟨hb.1, hb.2.1⟩
  exact (h7.imp fun V x hx => inR_mono.weak hx wk).app (.cons (inV_len h3.h _ _ _ _ _ _ _ _) ⟨As, ns, cs, Aw, k, cw, rfl, ⟨h3.h, h3.hb, h3.n, h3.s, h3.q, hy⟩, h4, h5, h6.weak wk, hk, hk2, hr⟩ (h8.imp fun V x hx => inR_mono.weak hx wk))
theorem Nils.keep {A : Option Addr} (N : Nils w1 A j n) (K : ∀ g, A = some ⟨g, 0, none⟩ → g < w1.heap.size ∧ w2.heap[g]? = w1.heap[g]?) : Nils w2 A j n := by
  intro g hg x h1 h2
  obtain ⟨k1, k2⟩ := K g hg
  have := N g hg x h1 h2
  rw [← this]
  unfold World.cell?
  simp only
  rw [k2]
theorem Nils.set {v : Value} (N : Nils w1 (some ⟨g, 0, none⟩) (j + 1) n) : Nils (w1.setCell ⟨g, j * 36 + 35, none⟩ v) (some ⟨g, 0, none⟩) (j + 1) n := by
  intro g' hg x h1 h2
  injection hg with hg
  injection hg with hg
  subst hg
  rw [World.cell?_setCell_other _ _ _ _ (fun e => by injection e; omega)]
  exact N g rfl x h1 h2
theorem Nils.less {A : Option Addr} (N : Nils w1 A j n) : Nils w1 A (j + 1) n := fun g hg x h1 h2 => N g hg x (by omega) h2
end
theorem Sl.step {α : Type} {p : List Nat → Option (α × List Nat)} {n k : Nat} {b1 bk b' : Bool} {L1 Lk L' : List Nat} {pre : List α} {x : α} (h : Sl p n k b1 L1 pre Lk bk) (hk : k < n) (hx : St p bk Lk x L' b') : Sl p n (k + 1) b1 L1 (pre ++ [x]) L' b' := by
  cases bk with
  | false => exact h.next hk hx
  | true =>
    have hb : b' = true := by
      rcases hx with ⟨a1, _, _⟩ | ⟨a1, _⟩
      · cases a1
      · exact a1
    exact { ok := fun h2 => Bool.noConfusion (hb.symm.trans h2), no := fun _ => h.no rfl }
/-! ### what all the reads come to -/
def skipP (mk : Bool) (L : List Nat) : Option (Unit × List Nat) := if mk then (takeP 2 L).map (fun z => ((), z.2)) else some ((), L)
def witsQ (mk : Bool) (n : Nat) (L : List Nat) : Option (List (List (List Nat)) × List Nat) := if mk then listP witP n L else some ([], L)
def tailP (mk : Bool) (n : Nat) (L : List Nat) : Option ((List (List (List Nat)) × Nat) × List Nat) := (witsQ mk n L).bind fun z => (numP 4 z.2).map fun o => ((z.1, o.1), o.2)
def restP (mk : Bool) (L : List Nat) : Option (((List InD × List OutD) × (List (List (List Nat)) × Nat)) × List Nat) := (skipP mk L).bind fun z => (bodyP z.2).bind fun y => (tailP mk y.1.1.length y.2).map fun x => ((y.1, x.1), x.2)
/-- The reference's mark. -/
def markR (L : List Nat) : Bool := decide (0 < L.length) && decide (nth L 0 = 0)
def madeT (ver : Nat) (x : (List InD × List OutD) × (List (List (List Nat)) × Nat)) : TxD := ⟨ver, witTo x.1.1 x.2.1, x.1.2, x.2.2⟩
theorem listP_len {α : Type} {p : List Nat → Option (α × List Nat)} : ∀ (n : Nat) {b r : List Nat} {l : List α}, listP p n b = some (l, r) → l.length = n
  | 0, b, r, l, h => by
    injection h with h
    injection h with h1 h2
    rw [← h1]; rfl
  | n + 1, b, r, l, h => by
    rw [listP] at h
    obtain ⟨x, hx, h⟩ := Option.bind_eq_some_iff.1 h
    obtain ⟨y, hy, e⟩ := Option.map_eq_some_iff.1 h
    injection e with e1 e2
    rw [← e1, List.length_cons, listP_len n (show listP p n x.2 = some (y.1, y.2) from hy)]
theorem txP_rest {L r1 : List Nat} {ver : Nat} (h : numP 4 L = some (ver, r1)) : txP L = (restP (markR r1) r1).map fun x => (madeT ver x.1, x.2) := by
  by_cases hone : r1.length = 1 ∧ nth r1 0 = 0
  · -- one byte, and it is none
    obtain ⟨h1, h2⟩ := hone
    obtain ⟨x, rfl⟩ : ∃ x, r1 = [x] := by
      match r1, h1 with
      | [x], _ => exact ⟨x, rfl⟩
    have hx : x = 0 := h2
    subst hx
    have e1 : txP L = none := by
      rw [txP_eq h (show marked [0] = false from rfl)]
      rfl
    rw [e1]
    rfl
  · have hm : markR r1 = marked r1 := by
      unfold markR marked
      by_cases h0 : nth r1 0 = 0
      · have : r1.length ≠ 1 := fun e => hone ⟨e, h0⟩
        have e : decide (0 < r1.length) = decide (1 < r1.length) := by
          rw [decide_eq_decide]
          constructor
          · intro; omega
          · intro; omega
        rw [e]
      · rw [decide_eq_false h0, Bool.and_false, Bool.and_false]
    obtain ⟨mk, hmk⟩ : ∃ mk, marked r1 = mk := ⟨_, rfl⟩
    rw [hm, hmk, txP_eq h hmk]
    have hs : skipP mk r1 = some ((), if mk then r1.drop 2 else r1) := by
      unfold skipP
      cases mk with
      | false => rfl
      | true =>
        have h2 : 2 ≤ r1.length := by
          unfold marked at hmk
          rw [Bool.and_eq_true] at hmk
          exact of_decide_eq_true hmk.1
        rw [if_pos rfl, takeP_yes h2]; rfl
    unfold restP
    rw [hs, Option.bind_some]
    simp only
    obtain ⟨r2, hr2⟩ : ∃ r2, (if mk then r1.drop 2 else r1) = r2 := ⟨_, rfl⟩
    rw [hr2]
    unfold bodyP insP outsP
    cases h3 : cntP r2 with
    | none => rfl
    | some n =>
      simp only [Option.bind_some]
      unfold txP1
      cases h4 : listP inP n.1 n.2 with
      | none => rfl
      | some is =>
        simp only [Option.bind_some]
        unfold txP2
        cases h5 : cntP is.2 with
        | none => rfl
        | some m =>
          simp only [Option.bind_some]
          unfold txP3
          cases h6 : listP outP m.1 m.2 with
          | none => rfl
          | some os =>
            simp only [Option.bind_some, Option.map_some]
            unfold txP4 tailP witsP witsQ
            cases mk with
            | false =>
              simp only [Bool.false_eq_true, if_false, Option.bind_some]
              unfold txP5
              cases numP 4 os.2 with
              | none => rfl
              | some l => simp [madeT, witTo]
            | true =>
              simp only [if_true]
              cases h7 : listP witP is.1.length os.2 with
              | none => rfl
              | some ws =>
                simp only [Option.bind_some, Option.map_some]
                unfold txP5
                cases numP 4 ws.2 with
                | none => rfl
                | some l =>
                  have := witTo_all is.1 (ws := ws.1) (listP_len _ h7)
                  simp [madeT, this]
theorem st_rest {mk b1 b2 b3 b4 b5 : Bool} {L L1 L2 L3 L4 : List Nat} {is : List InD} {os : List OutD} {ws : List (List (List Nat))} {lock : Nat} (h2 : St (skipP mk) b1 L () L1 b2) (h3 : St bodyP b2 L1 (is, os) L2 b3) (h4 : St (witsQ mk is.length) b3 L2 ws L3 b4) (h5 : St (numP 4) b4 L3 lock L4 b5) : St (restP mk) b1 L ((is, os), (ws, lock)) L4 b5 := by
  have h6 : St (tailP mk is.length) b3 L2 (ws, lock) L4 b5 := st_pair h4 h5
  have h7 : St (fun L => (bodyP L).bind fun y => (tailP mk y.1.1.length y.2).map fun x => ((y.1, x.1), x.2)) b2 L1 ((is, os), (ws, lock)) L4 b5 :=
    st_bind (q := fun y L => (tailP mk y.1.length L).map fun x => ((y, x.1), x.2)) h3 (by
      rcases h6 with ⟨a1, a2, a3⟩ | ⟨a1, a2⟩
      · refine .inl ⟨a1, a2, ?_⟩
        show (tailP mk is.length L2).map _ = _
        rw [a3]; rfl
      · refine .inr ⟨a1, fun h => ?_⟩
        show (tailP mk is.length L2).map _ = _
        rw [a2 h]; rfl)
  exact st_bind (q := fun _ L => (bodyP L).bind fun y => (tailP mk y.1.1.length y.2).map fun x => ((y.1, x.1), x.2)) h2 h7
end Go.Proofs.YtbdjcbdnhaddoaaDoor
