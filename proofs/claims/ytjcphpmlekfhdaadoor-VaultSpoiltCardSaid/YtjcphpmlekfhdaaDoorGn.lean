/- The document's Same, of lists that are the same. No condition but bounds. -/
import Derived.Test.YtjcphpmlekfhdaaDoorGl
import Derived.Test.YtjcphpmlekfhdaaDoorGg
import Derived.BigQuiet
import Derived.IntWalk

namespace Go.Proofs.YtjcphpmlekfhdaaDoor
open Go.RowKit

theorem same_self {A B : Option Addr} {n m c d : Nat} {l : List (List Nat)} (w : World) (hA : Rows w anyP 1 ByR A n l) (hB : Rows w anyP 1 ByR B m l) (hn : n ≤ 1099511627776) :
    Calls Tryd.prog 19 #[.slice A n c, .slice B m d] w fun e w' => e = .returned (.bool true) ∧ Below w.heap.size w w' :=
  (same_any w hA hB hn).mono fun e W ⟨h1, h2⟩ => ⟨by rw [h1, decide_eq_true rfl], h2⟩
end Go.Proofs.YtjcphpmlekfhdaaDoor

/- Words of VaultFull: what one Add of one record answers; the rows gathered. No condition but bounds. -/
namespace Go.Proofs.YtjcphpmlekfhdaaDoor
open Go.RowKit

theorem wide_take {l : List (List Nat)} {j : Nat} (h : j < l.length) : wideS (l.take (j + 1)) = wideS (l.take j) + (36 + l[j].length) := by
  unfold wideS
  rw [List.take_add_one, List.getElem?_eq_getElem h, Option.toList_some, List.map_append, List.sum_append]
  simp
theorem wide_app (l k : List (List Nat)) : wideS (l ++ k) = wideS l + wideS k := by
  unfold wideS
  rw [List.map_append, List.sum_append]
theorem wide_one (r : List Nat) : wideS [r] = 36 + r.length := by unfold wideS; simp
theorem wide_take_le (l : List (List Nat)) (j : Nat) : wideS (l.take j) ≤ wideS l := by
  have := wide_app (l.take j) (l.drop j)
  rw [List.take_append_drop] at this
  omega
theorem wide_mem : ∀ {l : List (List Nat)} {r : List Nat}, r ∈ l → 36 + r.length ≤ wideS l
  | x :: l, r, h => by
    have e : wideS (x :: l) = 36 + x.length + wideS l := by unfold wideS; simp
    rw [e]
    rcases List.mem_cons.1 h with rfl | h
    · omega
    · have := wide_mem h
      omega
theorem wide_len : ∀ (l : List (List Nat)), 36 * l.length ≤ wideS l
  | [] => Nat.zero_le _
  | x :: l => by
    have e : wideS (x :: l) = 36 + x.length + wideS l := by unfold wideS; simp
    have := wide_len l
    rw [e, List.length_cons]
    omega
theorem not_long {l : List (List Nat)} (h : wideS l ≤ 32768) : longS l = false := by
  unfold longS
  rw [List.any_eq_false]
  intro r hr
  have := wide_mem hr
  simp
  omega
/-- Add of what is not long, of a vault in order on a disk with no fuse. -/
theorem add_full {S : Dk} {f g : Nat} {l L : List (List Nat)} (A : Alive S f g l) (fu : S.fuse = -1) (hL : longS L = false) :
    (S.room < wideS L ∧ addT false f g l.length L S = (7, S, l.length, false)) ∨
    (wideS L ≤ S.room ∧ ∃ T, addT false f g l.length L S = (0, T, (l ++ L).length, false) ∧ Alive T f g (l ++ L) ∧ T.most = S.most ∧ T.fuse = -1 ∧ T.cnt ≤ S.cnt + 4) := by
  have hm : mayN false L = 0 := by unfold mayN; rw [hL]; rfl
  have e : addT false f g l.length L S = addS f g l.length L S := by unfold addT; rw [if_pos hm]
  have c := cnt_addS f g l.length L S
  rw [e]
  rcases alive_add A hL with ⟨h1, h2⟩ | ⟨T, h1, h2, h3, h4, h5⟩ | ⟨T, _, _, h3, _⟩
  · exact .inl ⟨h2, h1⟩
  · rw [h1] at c
    exact .inr ⟨h3, T, h1, h2, h4, h5 fu, c⟩
  · exact absurd fu h3
theorem compact_full {S : Dk} {f g : Nat} {l L : List (List Nat)} (A : Alive S f g l) (fu : S.fuse = -1) (hL : longS L = false) (hn : L.length < 4294967296) (hg : g < 4611686018427387904) :
    (S.room < 44 + wideS L ∧ compactT false f g l.length L S = (7, S, f, g, l.length, false)) ∨
    (44 + wideS L ≤ S.room ∧ ∃ T, compactT false f g l.length L S = (0, T, 1 - f, g + 1, L.length, false) ∧ Alive T (1 - f) (g + 1) L ∧ T.most = S.most ∧ T.fuse = -1 ∧ T.cnt ≤ S.cnt + 4) := by
  have hm : mayN false L = 0 := by unfold mayN; rw [hL]; rfl
  have e : compactT false f g l.length L S = compactS f g l.length L S := by unfold compactT; rw [if_pos hm]
  have c := cnt_compactS f g l.length L S
  rw [e]
  rcases alive_compact A hL hn with ⟨_, h⟩ | ⟨h1, h2⟩ | ⟨T, h1, h2, h3, h4, h5, _⟩ | ⟨T, _, _, h3, _⟩
  · omega
  · exact .inl ⟨h2, h1⟩
  · rw [h1] at c
    exact .inr ⟨h3, T, h1, h2, h4, h5 fu, c⟩
  · exact absurd fu h3
/-- The rows gathered, beside the vault. -/
structure FulJ (w : World) (d v M : Nat) (a : Value) (all : List (List Nat)) (T : Dk) (X : Nat → Prop) (wr : World) : Prop where
  vs : Vs w d v X T 1 1 all.length false wr
  al : Alive T 1 1 all
  mo : T.most = M
  fu : T.fuse = -1
  own : OwnRw 35 1 ByR w (fun b => b < w.heap.size) a all.length all wr
  xo : ∀ b, b < w.heap.size → X b
  xq : ∀ q, a.ownBlock = some q → X q ∧ q ≠ v
  xs : ∀ b, X b → b < wr.heap.size
section
variable {w wr w1 w2 : World} {d v M : Nat} {a a2 : Value} {all : List (List Nat)} {T T2 : Dk} {X : Nat → Prop}
theorem FulJ.later (J : FulJ w d v M a all T X wr) (b : Below wr.heap.size wr w1) : FulJ w d v M a all T X w1 :=
  ⟨J.vs.later b, J.al, J.mo, J.fu, J.own.later byM b, J.xo, J.xq, fun k hk => Nat.lt_of_lt_of_le (J.xs k hk) b.size⟩
theorem FulJ.kept (J : FulJ w d v M a all T X wr) {T2 : Dk} (V : Vs w d v X T2 1 1 all.length false w1) (A : Alive T2 1 1 all) (mo : T2.most = T.most) (fu : T2.fuse = -1) (K : Kept (fun b => X b ∧ b ≠ v) wr w1) : FulJ w d v M a all T2 X w1 :=
  ⟨V, A, mo.trans J.mo, fu, J.own.same byM (K.narrow fun b hb => hb.elim (fun h => ⟨J.xo b h, by have := J.vs.low; omega⟩) fun h => J.xq b h) V.dp.bel, J.xo, J.xq, fun k hk => Nat.lt_of_lt_of_le (J.xs k hk) K.size⟩
theorem FulJ.ownK (J : FulJ w d v M a all T X wr) (B : Below w.heap.size w w1) (K : Kept (fun b => X b ∧ b ≠ v) wr w1) : OwnRw 35 1 ByR w (fun b => b < w.heap.size) a all.length all w1 :=
  J.own.same byM (K.narrow fun b hb => hb.elim (fun h => ⟨J.xo b h, by have := J.vs.low; omega⟩) fun h => J.xq b h) B
theorem FulJ.ne (J : FulJ w d v M a all T X wr) : ∀ q, a.ownBlock = some q → q ≠ v := fun q hq => (J.xq q hq).2
/-- Behind an Add that put r: the gathered rows, kept; and behind the append. -/
theorem FulJ.next {r : List Nat} (J : FulJ w d v M a all T X wr) (V : Vs w d v X T2 1 1 (all ++ [r]).length false w1) (A : Alive T2 1 1 (all ++ [r])) (mo : T2.most = T.most) (fu : T2.fuse = -1) (hs : wr.heap.size ≤ w1.heap.size)
    (O : OwnRw 35 1 ByR w (fun b => b < w.heap.size) a2 (all.length + 1) (all ++ [r]) w2) (hg : w1.grownBy w2 a.ownBlock) (hn : a2.ownBlock = a.ownBlock ∨ a2.ownBlock = some w1.heap.size) :
    FulJ w d v M a2 (all ++ [r]) T2 (fun b => X b ∨ (w1.heap.size ≤ b ∧ b < w2.heap.size)) w2 := by
  have hl : (all ++ [r]).length = all.length + 1 := by rw [List.length_append]; rfl
  refine ⟨⟨V.dp.wide (Kept.of_grown hg fun b hb e => hb (J.xq b e.symm).1) O.bel fun b hb => hb, .inl V.xv, V.vt.far hg (fun e => (J.xq v e.symm).2 rfl), V.low⟩, A, mo.trans J.mo, fu, by rw [hl]; exact O, fun b hb => .inl (J.xo b hb), fun q hq => ?_, fun b hb => ?_⟩
  · rcases hn with e | e
    · have := J.xq q (by rw [← e]; exact hq)
      exact ⟨.inl this.1, this.2⟩
    · rw [e] at hq
      injection hq with hq
      have := V.vt.lt
      have := O.new q (by rw [e, hq])
      exact ⟨.inr ⟨by omega, by omega⟩, by omega⟩
  · rcases hb with hb | hb
    · exact Nat.lt_of_lt_of_le (J.xs b hb) (Nat.le_trans hs hg.size)
    · exact hb.2
theorem FulJ.reads {A : Option Addr} {c : Nat} (J : FulJ w d v M (.slice A all.length c) all T X wr) (k : Nat) (hk : k ≤ all.length) : Rows wr (fun b => X b ∧ b ≠ v) 1 ByR A k (all.take k) := by
  refine Rows.weak byM ((J.own.short hk).reads byM) fun b hb hl => ?_
  rcases hb with hb | hb
  · have := J.vs.low
    exact ⟨J.xo b hb, by omega⟩
  · cases A with
    | none => cases hb
    | some x =>
      injection hb with hb
      subst hb
      exact J.xq x.block rfl
theorem FulJ.rows {A : Option Addr} {c : Nat} (J : FulJ w d v M (.slice A all.length c) all T X wr) : Rows wr (fun b => X b ∧ b ≠ v) 1 ByR A all.length all := by
  have := J.reads all.length (Nat.le_refl _)
  rwa [List.take_length] at this
end
end Go.Proofs.YtjcphpmlekfhdaaDoor

/- found: may it be that? No condition but bounds. -/
namespace Go.Proofs.YtjcphpmlekfhdaaDoor
open Go.RowKit
attribute [local go_sem] Oper.semAt_some

section
variable {α : Type} {w : World} {P : Nat → Prop} {R : Reads α} {sz : Nat} {Q : List Value → α → Prop}
theorem each_split : ∀ {l k : List α} {cs : List Value}, Each sz Q cs (l ++ k) → ∃ X Z, cs = X ++ Z ∧ X.length = l.length * sz ∧ Each sz Q X l ∧ Each sz Q Z k
  | [], k, cs, h => ⟨[], cs, rfl, by simp, .nil, h⟩
  | x :: l, k, cs, h => by
    cases h with
    | cons h1 h2 h3 =>
      obtain ⟨X, Z, rfl, e, a, b⟩ := each_split h3
      exact ⟨_ ++ X, Z, by rw [List.append_assoc], by rw [List.length_append, h1, e, List.length_cons, Nat.add_mul]; omega, .cons h1 h2 a, b⟩
/-- A slice's two parts. -/
theorem Rows.split {A : Option Addr} {n m : Nat} {l k : List α} (h : Rows w P 1 R A (n + m) (l ++ k)) (hl : l.length = n) : Rows w P 1 R A n l ∧ Rows w P 1 R (A.map fun a => ⟨a.block, a.off + n, none⟩) m k := by
  have hk : k.length = m := by have := h.len; rw [List.length_append] at this; omega
  refine ⟨⟨hl, fun hn => ?_⟩, ⟨hk, fun hm => ?_⟩⟩
  · obtain ⟨b, o, cs, rfl, h1, h2, h3, h4⟩ := h.cel (by omega)
    obtain ⟨X, Z, rfl, e, a, c⟩ := each_split h4
    exact ⟨b, o, X, rfl, h1, h2, fun j v hj => h3 j v (by rw [List.getElem?_append_left (List.getElem?_eq_some_iff.1 hj).1]; exact hj), a⟩
  · obtain ⟨b, o, cs, rfl, h1, h2, h3, h4⟩ := h.cel (by omega)
    obtain ⟨X, Z, rfl, e, a, c⟩ := each_split h4
    rw [Nat.mul_one, hl] at e
    refine ⟨b, o + n, Z, rfl, h1, h2, fun j v hj => ?_, c⟩
    have := h3 (n + j) v (by rw [List.getElem?_append_right (by omega), e, Nat.add_sub_cancel_left]; exact hj)
    rwa [← Nat.add_assoc] at this
end
set_option maxRecDepth 100000 in
set_option maxHeartbeats 4000000 in
/-- What is found is what may be. -/
theorem found_any {A1 A2 A3 A4 : Option Addr} {n1 c1 n2 c2 n3 c3 n4 c4 q : Nat} {o : Bool} {all more next : List (List Nat)} (w : World) (r1 : Rows w anyP 1 ByR A1 n1 all) (r2 : Rows w anyP 1 ByR A2 n2 more) (k1 : n1 ≤ 1099511627776) (k2 : n2 ≤ c2 ∧ n2 ≤ 1099511627776) (k4 : n4 ≤ c4) (k5 : n4 ≤ 1099511627776)
    (r4 : Rows w anyP 1 ByR A4 n4 (all ++ more.take q)) (hq : q ≤ n2) (r3 : o = true → Rows w anyP 1 ByR A3 n3 next) (hne : o = true → all ++ more.take q ≠ next) :
    Calls Tryd.prog 17 #[.agg #[.slice A1 n1 c1, .slice A2 n2 c2, .slice A3 n3 c3, .bool o], .slice A4 n4 c4] w fun e w' => e = .returned (.bool true) ∧ Below w.heap.size w w' := by
  have l1 := r1.len
  have l2 := r2.len
  have l4 := r4.len
  rw [List.length_append, List.length_take, l1, l2] at l4
  have hn4 : n4 = n1 + q := by omega
  obtain ⟨s1, s2⟩ := Rows.split (n := n1) (m := q) (by rw [← hn4]; exact r4) l1
  have t2 : Rows w anyP 1 ByR A2 q (more.take q) := by
    have e : more = more.take q ++ more.drop q := (List.take_append_drop q more).symm
    rw [e] at r2
    exact (Rows.split (n := q) (m := n2 - q) (by rwa [Nat.add_sub_cancel' hq]) (by rw [List.length_take]; omega)).1
  obtain ⟨w1, hw1⟩ : ∃ w1, w1 = w.alloc (.cells #[.slice A1 n1 c1, .slice A2 n2 c2, .slice A3 n3 c3, .bool o] 34) := ⟨_, rfl⟩
  have X1 : Ro w1 w.heap.size 34 [.slice A1 n1 c1, .slice A2 n2 c2, .slice A3 n3 c3, .bool o] := by rw [hw1]; exact Ro.new w _ _
  have b1 : Below w.heap.size w w1 := by rw [hw1]; exact (Below.refl _ _).alloc (Nat.le_refl _) _
  have x0 := X1.cell (k := 0) rfl
  have x1 := X1.cell (k := 1) rfl
  have x2 := X1.cell (k := 2) rfl
  have x3 := X1.cell (k := 3) rfl
  have HX := Lib.hid X1
  have HB := Lib.hid b1
  have S1 := Lib.hid (Rows.later byM s1 b1)
  have s3 : Rows w anyP 1 ByR (if c4 = n1 then A4 else Option.map (fun x => x.add n1) A4) q (more.take q) := by
    by_cases h0 : q = 0
    · subst h0
      rw [List.take_zero]
      exact Rows.nil _ _ _ _ _
    · rw [if_neg (by omega)]
      obtain ⟨b, o', rfl⟩ := rows_some r4 (by omega)
      have e : (⟨b, o', none⟩ : Addr).add n1 = ⟨b, o' + n1, none⟩ := by unfold Addr.add; split <;> simp_all
      show Rows w anyP 1 ByR (some ((⟨b, o', none⟩ : Addr).add n1)) q (more.take q)
      rw [e]
      exact s2
  have S2 := Lib.hid (Rows.later byM s3 b1)
  have T2 := Lib.hid (Rows.later byM t2 b1)
  have R1 := Lib.hid (Rows.later byM r1 b1)
  have r4' := r4
  clear r1 r2 r4 s1 s2 s3 t2 X1 b1
  have RN : Hid (o = true → Rows w1 anyP 1 ByR A3 n3 next) := Lib.hid fun e => Rows.later byM (r3 e) HB.out
  have hs0 : (n4 : Int) - (n1 : Int) = (q : Int) := by omega
  have hsub : IntKind.i64.wrap ((n4 : Int) - (n1 : Int)) = (q : Int) := by rw [hs0]; exact IntWalk.i64_in _ (by omega)
  have h14 : n1 ≤ n4 := by omega
  have h1c : n1 ≤ c4 := by omega
  have h2c : q ≤ c2 := by omega
  have i1 : (n1 : Int) ≤ (c4 : Int) := by omega
  have i2 : (q : Int) ≤ (c2 : Int) := by omega
  have i3 : (n1 : Int) ≤ (n4 : Int) := by omega
  have tq : decide (q ≤ n2) = true := decide_eq_true hq
  have HSB : Hid (n4 - n1 = q) := Lib.hid (by omega)
  clear hn4 l4
  clear r3
  cases o with
  | false =>
    go_enter Tryd.func17, Tryd.ntmps17
    go_wp2_with fail
    rw [← hw1]
    clear hw1 x0 x1 x2 x3
    refine wp_region_seg (W := w1) (by kernel_rfl) fun wa ga => ?_
    refine wpK_seg 0 32 (f := 0) (by kernel_rfl) (fun _ _ _ _ _ h => h) (by kernel_rfl) (by kernel_rfl) (by kernel_rfl) (ga) ?_
    apply Exists.intro
    refine ⟨?_, ?_⟩
    · intro wg hg
      simp only [List.drop_succ_cons, List.drop_zero, List.take_succ_cons, List.take_zero]
      have BG : Hid (Below w1.heap.size w1 wg) := Lib.hid hg
      have y0 : ∀ u : After wg, u.w.cell? ⟨w.heap.size, 0, none⟩ = some (.slice A1 n1 c1) := fun u => ((HX.out.later BG.out).later u.below).cell (k := 0) rfl
      have y1 : ∀ u : After wg, u.w.cell? ⟨w.heap.size, 1, none⟩ = some (.slice A2 n2 c2) := fun u => ((HX.out.later BG.out).later u.below).cell (k := 1) rfl
      have C1 : Hid (∀ u : After wg, Calls Tryd.prog 19 #[.slice A4 n1 c4, .slice A1 n1 c1] u.w fun e w' => e = .returned (.bool true) ∧ Below u.w.heap.size u.w w') := Lib.hid fun u => same_self u.w ((Rows.later byM S1.out BG.out).later byM u.below) ((Rows.later byM R1.out BG.out).later byM u.below) k1
      have C2 : Hid (∀ u : After wg, Calls Tryd.prog 19 #[.slice (if c4 = n1 then A4 else Option.map (fun x => x.add n1) A4) (n4 - n1) (c4 - n1), .slice A2 q c2] u.w fun e w' => e = .returned (.bool true) ∧ Below u.w.heap.size u.w w') := Lib.hid fun u => same_self u.w (by rw [HSB.out]; exact (Rows.later byM S2.out BG.out).later byM u.below) ((Rows.later byM T2.out BG.out).later byM u.below) (by have := HSB.out; omega)
      repeat (go_big_quiet_step (first | (with_reducible exact after_call (C1.out _)) | (with_reducible exact after_call (C2.out _))))
      refine wpQuiet_nil ?_
      exact rfl
    refine wpK_end (by kernel_rfl) ?_
    intro wf gf
    have bf : Below w1.heap.size w1 wf := Grows.trans ga gf
    have HF := Lib.hid (HB.out.trans (bf.mono HB.out.size))
    clear bf gf ga
    go_wp2_with fail
    all_goals go_ret
    all_goals exact ⟨rfl, HF.out⟩
  | true =>
    have sm := same_any (c := c4) (d := c3) w1 (Rows.later byM r4' HB.out) (RN.out rfl) (by omega)
    rw [decide_eq_false (hne rfl)] at sm
    have SM := Lib.hid sm
    clear sm
    go_enter Tryd.func17, Tryd.ntmps17
    go_wp2_with fail
    rw [← hw1]
    refine (SM.out).mono ?_
    rintro e w2 ⟨rfl, b2⟩
    have B2 := Lib.hid b2
    have x0 := (HX.out.later B2.out).cell (k := 0) rfl
    clear hw1 x0 x1 x2 x3 b2 SM
    have x0 := (HX.out.later B2.out).cell (k := 0) rfl
    go_wp2_with fail
    clear x0
    refine wp_region_seg (W := w2) (by kernel_rfl) fun wa ga => ?_
    refine wpK_seg 0 32 (f := 0) (by kernel_rfl) (fun _ _ _ _ _ h => h) (by kernel_rfl) (by kernel_rfl) (by kernel_rfl) (ga) ?_
    apply Exists.intro
    refine ⟨?_, ?_⟩
    · intro wg hg
      simp only [List.drop_succ_cons, List.drop_zero, List.take_succ_cons, List.take_zero]
      have BG : Hid (Below w1.heap.size w1 wg) := Lib.hid (below_trn B2.out hg)
      have y0 : ∀ u : After wg, u.w.cell? ⟨w.heap.size, 0, none⟩ = some (.slice A1 n1 c1) := fun u => ((HX.out.later BG.out).later u.below).cell (k := 0) rfl
      have y1 : ∀ u : After wg, u.w.cell? ⟨w.heap.size, 1, none⟩ = some (.slice A2 n2 c2) := fun u => ((HX.out.later BG.out).later u.below).cell (k := 1) rfl
      have C1 : Hid (∀ u : After wg, Calls Tryd.prog 19 #[.slice A4 n1 c4, .slice A1 n1 c1] u.w fun e w' => e = .returned (.bool true) ∧ Below u.w.heap.size u.w w') := Lib.hid fun u => same_self u.w ((Rows.later byM S1.out BG.out).later byM u.below) ((Rows.later byM R1.out BG.out).later byM u.below) k1
      have C2 : Hid (∀ u : After wg, Calls Tryd.prog 19 #[.slice (if c4 = n1 then A4 else Option.map (fun x => x.add n1) A4) (n4 - n1) (c4 - n1), .slice A2 q c2] u.w fun e w' => e = .returned (.bool true) ∧ Below u.w.heap.size u.w w') := Lib.hid fun u => same_self u.w (by rw [HSB.out]; exact (Rows.later byM S2.out BG.out).later byM u.below) ((Rows.later byM T2.out BG.out).later byM u.below) (by have := HSB.out; omega)
      repeat (go_big_quiet_step (first | (with_reducible exact after_call (C1.out _)) | (with_reducible exact after_call (C2.out _))))
      refine wpQuiet_nil ?_
      exact rfl
    refine wpK_end (by kernel_rfl) ?_
    intro wf gf
    have bf : Below w1.heap.size w1 wf := below_trn B2.out (Grows.trans ga gf)
    have HF := Lib.hid (HB.out.trans (bf.mono HB.out.size))
    clear bf gf ga
    go_wp2_with fail
    all_goals go_ret
    all_goals exact ⟨rfl, HF.out⟩
set_option maxRecDepth 100000 in
set_option maxHeartbeats 4000000 in
theorem found_next {A1 A2 A3 A4 : Option Addr} {n1 c1 n2 c2 n3 c3 n4 c4 : Nat} {next : List (List Nat)} (w : World) (r3 : Rows w anyP 1 ByR A3 n3 next) (r4 : Rows w anyP 1 ByR A4 n4 next) (k5 : n4 ≤ 1099511627776) :
    Calls Tryd.prog 17 #[.agg #[.slice A1 n1 c1, .slice A2 n2 c2, .slice A3 n3 c3, .bool true], .slice A4 n4 c4] w fun e w' => e = .returned (.bool true) ∧ Below w.heap.size w w' := by
  obtain ⟨w1, hw1⟩ : ∃ w1, w1 = w.alloc (.cells #[.slice A1 n1 c1, .slice A2 n2 c2, .slice A3 n3 c3, .bool true] 34) := ⟨_, rfl⟩
  have b1 : Below w.heap.size w w1 := by rw [hw1]; exact (Below.refl _ _).alloc (Nat.le_refl _) _
  have HB := Lib.hid b1
  have SM := Lib.hid (same_self (c := c4) (d := c3) w1 (Rows.later byM r4 b1) (Rows.later byM r3 b1) k5)
  clear b1 r3 r4
  go_enter Tryd.func17, Tryd.ntmps17
  go_wp2_with fail
  rw [← hw1]
  refine (SM.out).mono ?_
  rintro e w2 ⟨rfl, b2⟩
  have HF := Lib.hid (below_trn HB.out b2)
  clear hw1 b2 SM HB
  go_wp2_with fail
  go_ret
  exact ⟨rfl, HF.out⟩
/-- What may be found: all that was there and a beginning of what was to be added; or all that a compaction was to leave. -/
def MayBe (o : Bool) (all more next : List (List Nat)) (y : List (List Nat)) : Prop := (o = true ∧ y = next) ∨ ∃ j, y = all ++ more.take j
theorem found_maybe {A1 A2 A3 A4 : Option Addr} {n1 c1 n2 c2 n3 c3 n4 c4 : Nat} {o : Bool} {all more next y : List (List Nat)} (w : World) (r1 : Rows w anyP 1 ByR A1 n1 all) (r2 : Rows w anyP 1 ByR A2 n2 more) (r3 : o = true → Rows w anyP 1 ByR A3 n3 next) (r4 : Rows w anyP 1 ByR A4 n4 y) (k1 : n1 ≤ 1099511627776) (k2 : n2 ≤ c2 ∧ n2 ≤ 1099511627776) (k4 : n4 ≤ c4) (k5 : n4 ≤ 1099511627776) (h : MayBe o all more next y) :
    Calls Tryd.prog 17 #[.agg #[.slice A1 n1 c1, .slice A2 n2 c2, .slice A3 n3 c3, .bool o], .slice A4 n4 c4] w fun e w' => e = .returned (.bool true) ∧ Below w.heap.size w w' := by
  by_cases hn : o = true ∧ y = next
  · obtain ⟨rfl, rfl⟩ := hn
    exact found_next w (r3 rfl) r4 k5
  · rcases h with h | ⟨j, rfl⟩
    · exact absurd h hn
    · have l2 := r2.len
      have e : more.take j = more.take (min j n2) := by
        rw [← l2]
        by_cases hj : j ≤ more.length
        · rw [Nat.min_eq_left hj]
        · rw [Nat.min_eq_right (by omega), List.take_length, List.take_of_length_le (by omega)]
      rw [e] at r4 hn
      exact found_any w r1 r2 k1 k2 k4 k5 r4 (by omega) r3 fun ho he => hn ⟨ho, he⟩
end Go.Proofs.YtjcphpmlekfhdaaDoor
