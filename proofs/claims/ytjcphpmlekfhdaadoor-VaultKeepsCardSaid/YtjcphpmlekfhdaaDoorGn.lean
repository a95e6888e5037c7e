/- The document's Same, of lists that are the same. No condition but bounds. -/
import Derived.Test.YtjcphpmlekfhdaaDoorGl

namespace Go.Proofs.YtjcphpmlekfhdaaDoor
open Go.RowKit

theorem same_self {A B : Option Addr} {n m c d : Nat} {l : List (List Nat)} (w : World) (hA : Rows w anyP 1 ByR A n l) (hB : Rows w anyP 1 ByR B m l) (hn : n ≤ 1099511627776) :
    Calls Tryd.prog 19 #[.slice A n c, .slice B m d] w fun e w' => e = .returned (.bool true) ∧ Below w.heap.size w w' :=
  (same_any w hA hB hn).mono fun e W ⟨h1, h2⟩ => ⟨by rw [h1, decide_eq_true rfl], h2⟩
end Go.Proofs.YtjcphpmlekfhdaaDoor

/- Words of VaultFull: what one Add of one record answers; the rows gathered. No condition but bounds. -/
namespace Go.Proofs.YtjcphpmlekfhdaaDoor
open Go.RowKit

theorem wide_take {l : List (List Nat)} {j : Nat} (h : j < l.length) : wideS (l.take (j + 1)) = wideS (l.take j) + (36 + l[j].length) := by
  unfold wideS
  rw [List.take_add_one, List.getElem?_eq_getElem h, Option.toList_some, List.map_append, List.sum_append]
  simp
theorem wide_app (l k : List (List Nat)) : wideS (l ++ k) = wideS l + wideS k := by
  unfold wideS
  rw [List.map_append, List.sum_append]
theorem wide_one (r : List Nat) : wideS [r] = 36 + r.length := by unfold wideS; simp
theorem wide_take_le (l : List (List Nat)) (j : Nat) : wideS (l.take j) ≤ wideS l := by
  have := wide_app (l.take j) (l.drop j)
  rw [List.take_append_drop] at this
  omega
theorem wide_mem : ∀ {l : List (List Nat)} {r : List Nat}, r ∈ l → 36 + r.length ≤ wideS l
  | x :: l, r, h => by
    have e : wideS (x :: l) = 36 + x.length + wideS l := by unfold wideS; simp
    rw [e]
    rcases List.mem_cons.1 h with rfl | h
    · omega
    · have := wide_mem h
      omega
theorem wide_len : ∀ (l : List (List Nat)), 36 * l.length ≤ wideS l
  | [] => Nat.zero_le _
  | x :: l => by
    have e : wideS (x :: l) = 36 + x.length + wideS l := by unfold wideS; simp
    have := wide_len l
    rw [e, List.length_cons]
    omega
theorem not_long {l : List (List Nat)} (h : wideS l ≤ 32768) : longS l = false := by
  unfold longS
  rw [List.any_eq_false]
  intro r hr
  have := wide_mem hr
  simp
  omega
/-- Add of what is not long, of a vault in order on a disk with no fuse. -/
theorem add_full {S : Dk} {f g : Nat} {l L : List (List Nat)} (A : Alive S f g l) (fu : S.fuse = -1) (hL : longS L = false) :
    (S.room < wideS L ∧ addT false f g l.length L S = (7, S, l.length, false)) ∨
    (wideS L ≤ S.room ∧ ∃ T, addT false f g l.length L S = (0, T, (l ++ L).length, false) ∧ Alive T f g (l ++ L) ∧ T.most = S.most ∧ T.fuse = -1 ∧ T.cnt ≤ S.cnt + 4) := by
  have hm : mayN false L = 0 := by unfold mayN; rw [hL]; rfl
  have e : addT false f g l.length L S = addS f g l.length L S := by unfold addT; rw [if_pos hm]
  have c := cnt_addS f g l.length L S
  rw [e]
  rcases alive_add A hL with ⟨h1, h2⟩ | ⟨T, h1, h2, h3, h4, h5⟩ | ⟨T, _, _, h3, _⟩
  · exact .inl ⟨h2, h1⟩
  · rw [h1] at c
    exact .inr ⟨h3, T, h1, h2, h4, h5 fu, c⟩
  · exact absurd fu h3
theorem compact_full {S : Dk} {f g : Nat} {l L : List (List Nat)} (A : Alive S f g l) (fu : S.fuse = -1) (hL : longS L = false) (hn : L.length < 4294967296) (hg : g < 4611686018427387904) :
    (S.room < 44 + wideS L ∧ compactT false f g l.length L S = (7, S, f, g, l.length, false)) ∨
    (44 + wideS L ≤ S.room ∧ ∃ T, compactT false f g l.length L S = (0, T, 1 - f, g + 1, L.length, false) ∧ Alive T (1 - f) (g + 1) L ∧ T.most = S.most ∧ T.fuse = -1 ∧ T.cnt ≤ S.cnt + 4) := by
  have hm : mayN false L = 0 := by unfold mayN; rw [hL]; rfl
  have e : compactT false f g l.length L S = compactS f g l.length L S := by unfold compactT; rw [if_pos hm]
  have c := cnt_compactS f g l.length L S
  rw [e]
  rcases alive_compact A hL hn with ⟨_, h⟩ | ⟨h1, h2⟩ | ⟨T, h1, h2, h3, h4, h5, _⟩ | ⟨T, _, _, h3, _⟩
  · omega
  · exact .inl ⟨h2, h1⟩
  · rw [h1] at c
    exact .inr ⟨h3, T, h1, h2, h4, h5 fu, c⟩
  · exact absurd fu h3
/-- The rows gathered, beside the vault. -/
structure FulJ (w : World) (d v M : Nat) (a : Value) (all : List (List Nat)) (T : Dk) (X : Nat → Prop) (wr : World) : Prop where
  vs : Vs w d v X T 1 1 all.length false wr
  al : Alive T 1 1 all
  mo : T.most = M
  fu : T.fuse = -1
  own : OwnRw 35 1 ByR w (fun b => b < w.heap.size) a all.length all wr
  xo : ∀ b, b < w.heap.size → X b
  xq : ∀ q, a.ownBlock = some q → X q ∧ q ≠ v
  xs : ∀ b, X b → b < wr.heap.size
section
variable {w wr w1 w2 : World} {d v M : Nat} {a a2 : Value} {all : List (List Nat)} {T T2 : Dk} {X : Nat → Prop}
theorem FulJ.later (J : FulJ w d v M a all T X wr) (b : Below wr.heap.size wr w1) : FulJ w d v M a all T X w1 :=
  ⟨J.vs.later b, J.al, J.mo, J.fu, J.own.later byM b, J.xo, J.xq, fun k hk => Nat.lt_of_lt_of_le (J.xs k hk) b.size⟩
theorem FulJ.kept (J : FulJ w d v M a all T X wr) {T2 : Dk} (V : Vs w d v X T2 1 1 all.length false w1) (A : Alive T2 1 1 all) (mo : T2.most = T.most) (fu : T2.fuse = -1) (K : Kept (fun b => X b ∧ b ≠ v) wr w1) : FulJ w d v M a all T2 X w1 :=
  ⟨V, A, mo.trans J.mo, fu, J.own.same byM (K.narrow fun b hb => hb.elim (fun h => ⟨J.xo b h, by have := J.vs.low; omega⟩) fun h => J.xq b h) V.dp.bel, J.xo, J.xq, fun k hk => Nat.lt_of_lt_of_le (J.xs k hk) K.size⟩
theorem FulJ.ownK (J : FulJ w d v M a all T X wr) (B : Below w.heap.size w w1) (K : Kept (fun b => X b ∧ b ≠ v) wr w1) : OwnRw 35 1 ByR w (fun b => b < w.heap.size) a all.length all w1 :=
  J.own.same byM (K.narrow fun b hb => hb.elim (fun h => ⟨J.xo b h, by have := J.vs.low; omega⟩) fun h => J.xq b h) B
theorem FulJ.ne (J : FulJ w d v M a all T X wr) : ∀ q, a.ownBlock = some q → q ≠ v := fun q hq => (J.xq q hq).2
/-- Behind an Add that put r: the gathered rows, kept; and behind the append. -/
theorem FulJ.next {r : List Nat} (J : FulJ w d v M a all T X wr) (V : Vs w d v X T2 1 1 (all ++ [r]).length false w1) (A : Alive T2 1 1 (all ++ [r])) (mo : T2.most = T.most) (fu : T2.fuse = -1) (hs : wr.heap.size ≤ w1.heap.size)
    (O : OwnRw 35 1 ByR w (fun b => b < w.heap.size) a2 (all.length + 1) (all ++ [r]) w2) (hg : w1.grownBy w2 a.ownBlock) (hn : a2.ownBlock = a.ownBlock ∨ a2.ownBlock = some w1.heap.size) :
    FulJ w d v M a2 (all ++ [r]) T2 (fun b => X b ∨ (w1.heap.size ≤ b ∧ b < w2.heap.size)) w2 := by
  have hl : (all ++ [r]).length = all.length + 1 := by rw [List.length_append]; rfl
  refine ⟨⟨V.dp.wide (Kept.of_grown hg fun b hb e => hb (J.xq b e.symm).1) O.bel fun b hb => hb, .inl V.xv, V.vt.far hg (fun e => (J.xq v e.symm).2 rfl), V.low⟩, A, mo.trans J.mo, fu, by rw [hl]; exact O, fun b hb => .inl (J.xo b hb), fun q hq => ?_, fun b hb => ?_⟩
  · rcases hn with e | e
    · have := J.xq q (by rw [← e]; exact hq)
      exact ⟨.inl this.1, this.2⟩
    · rw [e] at hq
      injection hq with hq
      have := V.vt.lt
      have := O.new q (by rw [e, hq])
      exact ⟨.inr ⟨by omega, by omega⟩, by omega⟩
  · rcases hb with hb | hb
    · exact Nat.lt_of_lt_of_le (J.xs b hb) (Nat.le_trans hs hg.size)
    · exact hb.2
theorem FulJ.reads {A : Option Addr} {c : Nat} (J : FulJ w d v M (.slice A all.length c) all T X wr) (k : Nat) (hk : k ≤ all.length) : Rows wr (fun b => X b ∧ b ≠ v) 1 ByR A k (all.take k) := by
  refine Rows.weak byM ((J.own.short hk).reads byM) fun b hb hl => ?_
  rcases hb with hb | hb
  · have := J.vs.low
    exact ⟨J.xo b hb, by omega⟩
  · cases A with
    | none => cases hb
    | some x =>
      injection hb with hb
      subst hb
      exact J.xq x.block rfl
theorem FulJ.rows {A : Option Addr} {c : Nat} (J : FulJ w d v M (.slice A all.length c) all T X wr) : Rows wr (fun b => X b ∧ b ≠ v) 1 ByR A all.length all := by
  have := J.reads all.length (Nat.le_refl _)
  rwa [List.take_length] at this
end
end Go.Proofs.YtjcphpmlekfhdaaDoor
