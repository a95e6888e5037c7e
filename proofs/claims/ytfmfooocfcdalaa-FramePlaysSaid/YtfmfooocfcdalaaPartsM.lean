/- FrameParts: what holds while the second framer is fed part by part. No condition. -/
import Derived.Test.YtfmfooocfcdalaaPartsL
import Derived.Test.YtfmfooocfcdalaaOverL
import Derived.Test.YtfmfooocfcdalaaOpenU
import Derived.Test.YtfmfooocfcdalaaOver
namespace Go.Proofs.Ytfmfooocfcdalaa
open Go.RowKit

theorem feedS_shift (Ls : List (List Nat)) : ∀ (X : List Nat) (ks : List (List Nat)) (M : List Nat) (o : Bool), feedS (Ls ++ ks, M, o) X = (Ls ++ (feedS (ks, M, o) X).1, (feedS (ks, M, o) X).2)
  | [], ks, M, o => rfl
  | x :: l, ks, M, o => by
    have e : stepB (Ls ++ ks, M, o) x = (Ls ++ (stepB (ks, M, o) x).1, (stepB (ks, M, o) x).2) := by
      unfold stepB
      simp only []
      split
      · rfl
      · split
        · simp
        · split <;> rfl
    show feedS (stepB (Ls ++ ks, M, o) x) l = _
    rw [e]
    exact feedS_shift Ls l _ _ _
theorem feedS_next {L : List Nat} {p t : Nat} {Ls : List (List Nat)} {M : List Nat} (h : feedS ([], [], false) (L.take p) = (Ls, M, false)) (hp : p ≤ t) (hL : L.length ≤ 65536) :
    ∃ ks N, feedS ([], M, false) ((L.drop p).take (t - p)) = (ks, N, false) ∧ feedS ([], [], false) (L.take t) = (Ls ++ ks, N, false) := by
  have e : L.take t = L.take p ++ (L.drop p).take (t - p) := by
    have := List.take_add (l := L) (i := p) (j := t - p)
    rwa [show p + (t - p) = t by omega] at this
  have h1 := feedS_shift Ls ((L.drop p).take (t - p)) [] M false
  have h2 : feedS ([], [], false) (L.take t) = feedS (Ls, M, false) ((L.drop p).take (t - p)) := by rw [e, feedS_app, h]
  rw [List.append_nil] at h1
  have h3 := (feedS_few (L.take t) [] [] (by simp; omega)).1
  rw [h2, h1] at h3
  refine ⟨(feedS ([], M, false) ((L.drop p).take (t - p))).1, (feedS ([], M, false) ((L.drop p).take (t - p))).2.1, ?_, ?_⟩
  · exact Prod.ext rfl (Prod.ext rfl h3)
  · rw [h2, h1]
    exact Prod.ext rfl (Prod.ext rfl h3)

theorem Td.later {base f : Nat} {v tv : Value} {us : List Value} {Ls : List (List Nat)} {W W' : World} (h : Td base f v tv us Ls W) (g : Below W.heap.size W W') : Td base f v tv us Ls W' :=
  ⟨ownsRow_later h.row g, h.lines.imp (fun _ _ _ b _ => b.later g) (fun _ _ hk => hk) g.size, h.apart⟩
theorem Td.ll {base f : Nat} {v tv : Value} {us : List Value} {Ls : List (List Nat)} {W : World} (h : Td base f v tv us Ls W) (hs : ∀ l ∈ Ls, l.length ≤ 65536) : ∃ B c, tv = .slice B Ls.length c ∧ Ll W B Ls.length Ls := by
  have hl := h.lines.len
  obtain ⟨B, c, rfl, hc⟩ := row_shape h.row
  rw [hl]
  refine ⟨B, c, rfl, rfl, fun hm => ?_⟩
  obtain ⟨g, cap, hv, _, hlt⟩ := h.row.form (by omega)
  have hB : B = some ⟨g, 0, Option.none⟩ := by injection hv
  subst hB
  refine ⟨_, rfl, hlt, fun i hi => ?_⟩
  obtain ⟨A, n, c', h1, h2, h3⟩ := h.lines.get i (by omega)
  refine ⟨A, n, c', h.row.cells (g := g) rfl i _ h1, ?_, h3⟩
  have e := h3.len
  have hm : Ls.getD i [] ∈ Ls := by
    simp only [List.getD, List.getElem?_eq_getElem hi, Option.getD_some]
    exact List.getElem_mem hi
  have := hs _ hm
  omega

/-- The second framer was fed the first p bytes; tv are the lines that it told. -/
structure PS (w W3 : World) (f : Nat) (L : List Nat) (p : Nat) (tv : Value) (v : Value) (us : List Value) (Ls : List (List Nat)) (M : List Nat) (wr : World) : Prop where
  fed : feedS ([], [], false) (L.take p) = (Ls, M, false)
  td : Td W3.heap.size f v tv us Ls wr
  fr : FrB wr f v false
  held : Own w v M.length M wr
  hb : ∀ k, v.ownBlock = some k → W3.heap.size ≤ k
  old : ∀ k, k < W3.heap.size → k ≠ f → wr.heap[k]? = W3.heap[k]?
  size : W3.heap.size ≤ wr.heap.size
def PE (w W3 : World) (f : Nat) (L : List Nat) (p : Nat) (tv : Value) (wr : World) : Prop := ∃ v us Ls M, PS w W3 f L p tv v us Ls M wr
theorem PE.start {w W3 : World} {f : Nat} {L : List Nat} (h : FrB W3 f (.slice none 0 0) false) (b : Below w.heap.size w W3) : PE w W3 f L 0 (.slice none 0 0) W3 :=
  ⟨.slice none 0 0, [], [], [], rfl, Td.nil _ _ _ _, h, ⟨World.ownsRow_nil _ _ _ _, allB_nil, b⟩, (fun k e => by cases e), fun _ _ _ => rfl, Nat.le_refl _⟩
theorem PE.small {w W3 wr : World} {f : Nat} {L : List Nat} {p : Nat} {tv : Value} {v : Value} {us : List Value} {Ls : List (List Nat)} {M : List Nat} (h : PS w W3 f L p tv v us Ls M wr) : (∀ l ∈ Ls, l.length ≤ 65536) ∧ Ls.length ≤ L.length := by
  have := feedS_small (L.take p) ([], [], false) (by simp) (by simp)
  rw [h.fed] at this
  refine ⟨this.1, ?_⟩
  have h2 := this.2
  simp at h2
  omega
theorem PE.later {w W3 wr wa : World} {f : Nat} {L : List Nat} {p : Nat} {tv : Value} (h : PE w W3 f L p tv wr) (g : Below wr.heap.size wr wa) : PE w W3 f L p tv wa := by
  obtain ⟨v, us, Ls, M, h⟩ := h
  exact ⟨v, us, Ls, M, h.fed, h.td.later g, (g.block f h.fr.lt).trans h.fr, h.held.later g, h.hb, fun k h1 h2 => (g.block k (Nat.lt_of_lt_of_le h1 h.size)).trans (h.old k h1 h2), Nat.le_trans h.size g.size⟩
theorem PE.bel {w W3 wr : World} {f : Nat} {L : List Nat} {p : Nat} {tv : Value} (h : PE w W3 f L p tv wr) : Below w.heap.size w wr := by
  obtain ⟨v, us, Ls, M, h⟩ := h
  exact h.held.bel
/-- Behind a Feed, before its lines are added to the others. -/
structure PM (w W3 : World) (f : Nat) (L : List Nat) (p t : Nat) (tv lv : Value) (wr : World) : Prop where
  ex : ∃ (wa : World) (v0 v : Value) (us vs : List Value) (Ls ls : List (List Nat)) (M N : List Nat),
    PS w W3 f L p tv v0 us Ls M wa ∧ feedS ([], [], false) (L.take t) = (Ls ++ ls, N, false) ∧ FJ w wa f v0.ownBlock ls N 0 v lv vs wr ∧ FrB wr f v false
theorem PE.feed {w W3 wr wa : World} {f : Nat} {L : List Nat} {p t : Nat} {tv : Value} (h : PE w W3 f L p tv wr) (g : Below wr.heap.size wr wa) (hf : w.heap.size ≤ f) (hf3 : f < W3.heap.size) (hp : p ≤ t) (ht : t ≤ L.length) (hlen : L.length ≤ 16384)
    {A : Option Addr} {n c : Nat} (hb : Bs wa A n ((L.drop p).take (t - p))) (hc : n ≤ c) (hc2 : c ≤ 9223372036854775807) (hB : ∀ a, A = some a → wr.heap.size ≤ a.block) :
    Calls Try.prog 11 #[.pointer (some ⟨f, 0, none⟩), .slice A n c] wa fun e W => ∃ lv, e = .returned (.tuple #[lv, .int .i64 0]) ∧ PM w W3 f L p t tv lv W := by
  obtain ⟨v, us, Ls, M, h⟩ := h
  have h2 : PS w W3 f L p tv v us Ls M wa := ⟨h.fed, h.td.later g, (g.block f h.fr.lt).trans h.fr, h.held.later g, h.hb, fun k h1 h2 => (g.block k (Nat.lt_of_lt_of_le h1 h.size)).trans (h.old k h1 h2), Nat.le_trans h.size g.size⟩
  have hlow : ∀ k, v.ownBlock = some k → k < wr.heap.size := fun k e => (h.held.new k e).2
  have hsz := h.size
  clear h
  have h := h2
  clear h2
  obtain ⟨ks, N, h1, h2⟩ := feedS_next h.fed hp (by omega)
  have hM : M.length ≤ L.length := by
    have := feedS_back (L.take p) [] [] Ls M h.fed
    have := congrArg List.length this
    simp [ends] at this
    omega
  have hn : n ≤ 16384 := by have := hb.len; simp at this; omega
  refine (fed_told (w0 := w) wa h.fr h.held hf (fun e => by have := h.hb _ e; omega) (by omega) hb hc hc2 (by omega) (fun _ a e => ⟨by have := hB a e; omega, fun e2 => by have := hB a e; have := hlow _ e2; omega⟩) h1).mono ?_
  rintro e W ⟨v', lv, vs, rfl, hM2, J, F⟩
  exact ⟨lv, rfl, ⟨wa, v, v', us, vs, Ls, ks, M, N, h, h2, J, F⟩⟩
theorem PM.told {w W3 wr : World} {f : Nat} {L : List Nat} {p t : Nat} {tv lv : Value} (h : PM w W3 f L p t tv lv wr) (hlen : L.length ≤ 16384) (ht : t ≤ L.length) (hf : w.heap.size ≤ f) (hf3 : f < W3.heap.size) (ty : TypeId) :
    ∃ tv' W', (Builtin.append_ #[30, 30] ty #[tv, lv]).run Try.prog wr = .ok tv' W' ∧ PE w W3 f L t tv' W' := by
  obtain ⟨wa, v0, v, us, vs, Ls, ls, M, N, h, h2, J, F⟩ := h.ex
  have hz := J.size
  have hS := h.size
  have hlu := h.td.lines.len
  have hlv := J.lines.len
  have hk : (Ls ++ ls).length ≤ L.length := by
    have := feedS_small (L.take t) ([], [], false) (by simp) (by simp)
    rw [h2] at this
    have := this.2
    simp at this ⊢
    omega
  rw [List.length_append] at hk
  obtain ⟨tv', W', a1, a2, a3⟩ := run_told ty (h.td.fed J) J (by omega) (fun k e => ⟨(h.td.row.lt k e).2, (h.td.apart k e).2⟩) (by omega)
  have hf2 := h.fr.lt
  have tlo : ∀ k, tv.ownBlock = some k → W3.heap.size ≤ k := fun k e => (h.td.row.lt k e).1
  refine ⟨tv', W', a1, v, _, _, N, h2, a2, ?_, ⟨?_, J.held.byt, ?_⟩, fun k e => ?_, fun k h3 h4 => ?_, by have := a3.size; omega⟩
  · exact (a3.block f (by omega) (fun e => (h.td.apart f e.symm).1 rfl)).trans F
  · refine J.held.row.kept a3 ?_
    cases hv : v.ownBlock with
    | none => exact .inl rfl
    | some k =>
      refine .inr fun e => ?_
      have h5 := h.td.apart k e.symm
      rcases (J.hb k hv).1 with h6 | h6
      · exact h5.2 h6
      · have := (h.td.row.lt k e.symm).2; omega
  · exact J.held.bel.grown a3 J.held.bel.size (fun k e => by have := tlo k e; omega)
  · rcases (J.hb k e).1 with h6 | h6
    · exact h.hb k h6
    · omega
  · exact (a3.block k (by omega) (fun e => by have := tlo k e.symm; omega)).trans ((J.old k (by omega) h4 (fun e => by have := h.hb k e; omega)).trans (h.old k h3 h4))

theorem LinesV.get' {W : World} {ok : Nat → Prop} {us : List Value} {Ls : List (List Nat)} (h : LinesV W ok us Ls) : ∀ i, i < us.length → ∃ A n c, us[i]? = some (.slice A n c) ∧ n ≤ c ∧ Bs W A n (Ls.getD i []) ∧ ∀ a, A = some a → ok a.block ∧ a.block < W.heap.size := by
  induction h with
  | nil => intro i hi; simp at hi
  | @snoc us Ls u L h hu ih =>
    intro i hi
    have hl := h.len
    by_cases e : i < us.length
    · obtain ⟨A, n, c, h1, h2, h3, h4⟩ := ih i e
      refine ⟨A, n, c, by rw [List.getElem?_append_left e]; exact h1, h2, ?_, h4⟩
      have : (Ls ++ [L]).getD i [] = Ls.getD i [] := by simp [List.getD, List.getElem?_append_left (by omega : i < Ls.length)]
      rw [this]; exact h3
    · have e2 : i = us.length := by simp at hi; omega
      subst e2
      obtain ⟨A, n, c, rfl, h2, h3, h4⟩ := hu
      refine ⟨A, n, c, by simp, h2, ?_, h4⟩
      have : (Ls ++ [L]).getD us.length [] = L := by rw [hl]; simp [List.getD]
      rw [this]; exact h3

/-- A slice of slices that reads as lines, all of it in blocks from lo on. -/
structure LlA (lo : Nat) (W : World) (B : Option Addr) (m : Nat) (Ls : List (List Nat)) : Prop where
  len : Ls.length = m
  row : 0 < m → ∃ b, B = some b ∧ lo ≤ b.block ∧ b.block < W.heap.size ∧ ∀ i, i < m → ∃ A n c, W.cell? (b.add i) = some (.slice A n c) ∧ n ≤ 549755813888 ∧ Bs W A n (Ls.getD i []) ∧ ∀ a, A = some a → lo ≤ a.block
theorem LlA.ll {lo : Nat} {W : World} {B : Option Addr} {m : Nat} {Ls : List (List Nat)} (h : LlA lo W B m Ls) : Ll W B m Ls :=
  ⟨h.len, fun hm => by
    obtain ⟨b, e, _, h2, h3⟩ := h.row hm
    exact ⟨b, e, h2, fun i hi => by
      obtain ⟨A, n, c, a1, a2, a3, _⟩ := h3 i hi
      exact ⟨A, n, c, a1, a2, a3⟩⟩⟩
theorem LlA.kept {lo : Nat} {W W' : World} {B : Option Addr} {m : Nat} {Ls : List (List Nat)} (h : LlA lo W B m Ls) (hs : W.heap.size ≤ W'.heap.size) (hk : ∀ k, lo ≤ k → k < W.heap.size → W'.heap[k]? = W.heap[k]?) : LlA lo W' B m Ls :=
  ⟨h.len, fun hm => by
    obtain ⟨b, e, h1, h2, h3⟩ := h.row hm
    refine ⟨b, e, h1, by omega, fun i hi => ?_⟩
    obtain ⟨A, n, c, a1, a2, a3, a4⟩ := h3 i hi
    refine ⟨A, n, c, (World.cell?_of_block (by rw [add_block]; exact hk _ h1 h2)).trans a1, a2, ?_, a4⟩
    refine a3.kept fun hn a e => ?_
    obtain ⟨a', e', hb, _⟩ := a3.cel hn
    rw [e] at e'
    injection e' with e'
    subst e'
    exact hk _ (a4 a e) hb⟩
theorem FJ.llA {w0 w : World} {f : Nat} {ls : List (List Nat)} {M : List Nat} {er : Int} {v lv : Value} {vs : List Value} {W : World} (h : FJ w0 w f Option.none ls M er v lv vs W) (hs : ∀ l ∈ ls, l.length ≤ 65536) : ∃ B c, lv = .slice B ls.length c ∧ LlA (w.heap.size + 4) W B ls.length ls := by
  have hl := h.lines.len
  obtain ⟨B, c, rfl, hc⟩ := row_shape h.row
  rw [hl]
  refine ⟨B, c, rfl, rfl, fun hm => ?_⟩
  obtain ⟨g, cap, hv, hlo, hlt⟩ := h.row.form (by omega)
  have hB : B = some ⟨g, 0, Option.none⟩ := by injection hv
  subst hB
  refine ⟨_, rfl, hlo, hlt, fun i hi => ?_⟩
  obtain ⟨A, n, c', h1, h2, h3, h4⟩ := h.lines.get' i (by omega)
  refine ⟨A, n, c', h.row.cells (g := g) rfl i _ h1, ?_, h3, fun a e => ?_⟩
  · have e := h3.len
    have hm : ls.getD i [] ∈ ls := by
      simp only [List.getD, List.getElem?_eq_getElem hi, Option.getD_some]
      exact List.getElem_mem hi
    have := hs _ hm
    omega
  · rcases (h4 a e).1 with e2 | e2
    · cases e2
    · exact e2
theorem ends_take (ls : List (List Nat)) (q : Nat) (hq : q < ls.length) : ends (ls.take (q + 1)) = ends (ls.take q) ++ ls.getD q [] ++ [10] := by
  rw [List.take_succ_eq_append_getElem hq, ends_snoc]
  simp [List.getD, List.getElem?_eq_getElem hq]
theorem ends_len (ls : List (List Nat)) : ∀ q, (ends (ls.take q)).length ≤ (ends ls).length := by
  induction ls with
  | nil => intro q; simp
  | cons l ls ih =>
    intro q
    cases q with
    | zero => simp [ends]
    | succ q => have := ih q; simp [ends]; omega
end Go.Proofs.Ytfmfooocfcdalaa
