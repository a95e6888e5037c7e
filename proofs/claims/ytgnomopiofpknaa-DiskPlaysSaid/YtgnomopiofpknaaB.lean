/- Lists of bytes in memory: slices that read as a list of bytes, and rows of the call's own that bytes are appended to. No condition. -/
import Derived.Test.YtgnomopiofpknaaProg
import Derived.Lib.Hide
import Derived.Below
import Derived.Laws.OwnMore
import Derived.Laws.AppendOwnNone
import Derived.Laws.CopyOwn
import Derived.Maps.AppendAt
import Derived.Deep.AppendLies
import Derived.WalkKit
import Derived.OwnWalk
namespace Go.Proofs.Ytgnomopiofpknaa
open Go.RowKit

theorem Try.infoByte : (Try.prog.info? 5).map (fun i => (i.zero, i.size, i.bytes)) = some (some (.int .u8 0), 1, 1) := by kernel_rfl

/-- A byte of a list. -/
def nth (L : List Nat) (k : Nat) : Nat := L.getD k 0
def byteV (n : Nat) : Value := .int .u8 (n : Int)
def vals (L : List Nat) : List Value := L.map byteV
def AllB (L : List Nat) : Prop := ∀ x ∈ L, x < 256
theorem vals_length (L : List Nat) : (vals L).length = L.length := by simp [vals]
theorem vals_append (L M : List Nat) : vals (L ++ M) = vals L ++ vals M := by simp [vals]
theorem vals_get (L : List Nat) (k : Nat) (h : k < L.length) : (vals L)[k]? = some (.int .u8 (nth L k : Nat)) := by simp [vals, nth, List.getD, h, byteV]
theorem vals_get? {L : List Nat} {k : Nat} {u : Value} (h : (vals L)[k]? = some u) : k < L.length ∧ u = .int .u8 (nth L k : Nat) := by
  have hk : k < L.length := by have := (List.getElem?_eq_some_iff.1 h).1; rwa [vals_length] at this
  rw [vals_get L k hk] at h
  exact ⟨hk, (Option.some.inj h).symm⟩
theorem vals_one (L : List Nat) : ∀ u ∈ vals L, u.oneCell' = true := by
  intro u hu
  simp only [vals, List.mem_map] at hu
  obtain ⟨_, _, rfl⟩ := hu
  rfl
theorem nth_lt {L : List Nat} (h : AllB L) (k : Nat) : nth L k < 256 := by
  unfold nth
  rw [List.getD_eq_getElem?_getD]
  cases e : L[k]? with
  | none => decide
  | some x => exact h x (List.mem_of_getElem? e)
theorem AllB.app {L M : List Nat} (h : AllB L) (k : AllB M) : AllB (L ++ M) := fun x hx => by
  rcases List.mem_append.1 hx with h1 | h1
  · exact h x h1
  · exact k x h1
theorem allB_nil : AllB [] := fun x hx => by cases hx
theorem allB_one {x : Nat} (h : x < 256) : AllB [x] := fun y hy => by
  rw [List.mem_singleton] at hy
  omega
theorem AllB.left {L M : List Nat} (h : AllB (L ++ M)) : AllB L := fun x hx => h x (List.mem_append_left _ hx)
theorem nth_left {L M : List Nat} {k : Nat} (h : k < L.length) : nth (L ++ M) k = nth L k := by
  simp [nth, List.getD, List.getElem?_append_left h]
theorem nth_right (L M : List Nat) (k : Nat) : nth (L ++ M) (L.length + k) = nth M k := by
  simp [nth, List.getD, List.getElem?_append_right (Nat.le_add_right _ _)]
theorem nth_ext {L M : List Nat} (hl : L.length = M.length) (h : ∀ k, k < L.length → nth L k = nth M k) : L = M := by
  apply List.ext_getElem hl
  intro k h1 h2
  have := h k h1
  simpa [nth, List.getD, h1, h2] using this

theorem add_add' (a : Addr) (i j : Nat) : (a.add i).add j = a.add (i + j) := by
  unfold Addr.add
  by_cases hi : i = 0 <;> by_cases hj : j = 0 <;> simp [hi, hj, Nat.add_assoc]
theorem add_block (a : Addr) (n : Nat) : (a.add n).block = a.block := by unfold Addr.add; split <;> rfl

/-- A slice at A of n elements reads as the bytes L. -/
structure Bs (w : World) (A : Option Addr) (n : Nat) (L : List Nat) : Prop where
  len : L.length = n
  byt : AllB L
  cel : 0 < n → ∃ a, A = some a ∧ a.block < w.heap.size ∧ ∀ k, k < n → w.cell? (a.add k) = some (.int .u8 (nth L k : Nat))
theorem Bs.nil (w : World) (A : Option Addr) : Bs w A 0 [] := ⟨rfl, allB_nil, fun h => absurd h (by omega)⟩
theorem Bs.at_ {w : World} {A : Option Addr} {n : Nat} {L : List Nat} (h : Bs w A n L) {k : Nat} (hk : k < n) : ∃ a, A = some a ∧ a.block < w.heap.size ∧ w.cell? (a.add k) = some (.int .u8 (nth L k : Nat)) ∧ nth L k < 256 := by
  obtain ⟨a, e, hb, hc⟩ := h.cel (by omega)
  exact ⟨a, e, hb, hc k hk, nth_lt h.byt k⟩
theorem Bs.later {w w1 : World} {A : Option Addr} {n : Nat} {L : List Nat} (h : Bs w A n L) (g : Below w.heap.size w w1) : Bs w1 A n L :=
  ⟨h.len, h.byt, fun hn => by
    obtain ⟨a, e, hb, hc⟩ := h.cel hn
    exact ⟨a, e, Nat.lt_of_lt_of_le hb g.size, fun k hk => by rw [← hc k hk]; exact g.cell (by rw [add_block]; exact hb)⟩⟩
theorem Bs.far {w w1 : World} {A : Option Addr} {n : Nat} {L : List Nat} {row : Option Nat} (h : Bs w A n L) (g : w.grownBy w1 row) (hr : ∀ a, A = some a → some a.block ≠ row) : Bs w1 A n L :=
  ⟨h.len, h.byt, fun hn => by
    obtain ⟨a, e, hb, hc⟩ := h.cel hn
    exact ⟨a, e, Nat.lt_of_lt_of_le hb g.size, fun k hk => g.cell (hc k hk) (by rw [add_block]; exact hr a e)⟩⟩
theorem Bs.cells {w : World} {a : Addr} {n : Nat} {L : List Nat} (h : Bs w (some a) n L) : ∀ j u, (vals L)[j]? = some u → w.cell? (a.add j) = some u := by
  intro j u hu
  obtain ⟨hj, rfl⟩ := vals_get? hu
  have hl := h.len
  obtain ⟨b, e, _, hc⟩ := h.cel (by omega)
  injection e with e
  subst e
  exact hc j (by omega)
/-- A part of a slice, from k on, m long, as the walk spells its address. -/
theorem Bs.cut {w : World} {A : Option Addr} {n c : Nat} {L : List Nat} (h : Bs w A n L) {k m : Nat} (hk : k + m ≤ n) (hc : n ≤ c) :
    Bs w (if c = k then A else A.map (·.add k)) m ((L.drop k).take m) := by
  have hl := h.len
  refine ⟨by simp; omega, fun x hx => h.byt x (List.mem_of_mem_drop (List.mem_of_mem_take hx)), fun hm => ?_⟩
  obtain ⟨a, rfl, hb, hcel⟩ := h.cel (by omega)
  rw [if_neg (by omega)]
  refine ⟨a.add k, rfl, by rw [add_block]; exact hb, fun j hj => ?_⟩
  rw [add_add', hcel (k + j) (by omega)]
  have : nth ((L.drop k).take m) j = nth L (k + j) := by
    simp [nth, List.getD, hj]
  rw [this]
theorem Bs.head {w : World} {A : Option Addr} {n : Nat} {L M : List Nat} (h : Bs w A n (L ++ M)) {m : Nat} (hm : L.length = m) : Bs w A m L := by
  have hl := h.len
  rw [List.length_append] at hl
  refine ⟨hm, h.byt.left, fun hp => ?_⟩
  obtain ⟨a, e, hb, hc⟩ := h.cel (by omega)
  exact ⟨a, e, hb, fun k hk => by rw [hc k (by omega), nth_left (by omega)]⟩

/-- v is a row of the call's own that reads as L; of what lay in w0 nothing has turned. -/
structure Own (w0 : World) (v : Value) (n : Nat) (L : List Nat) (wr : World) : Prop where
  row : wr.ownsRow w0.heap.size 5 1 v n (vals L)
  byt : AllB L
  bel : Below w0.heap.size w0 wr
theorem Own.len {w0 wr : World} {v : Value} {n : Nat} {L : List Nat} (h : Own w0 v n L wr) : L.length = n := by
  have := h.row.1
  rw [vals_length] at this; omega
theorem ownsRow_later {w w' : World} {base : Nat} {e : TypeId} {size : Nat} {v : Value} {n : Nat} {xs : List Value} (h : w.ownsRow base e size v n xs) (g : Below w.heap.size w w') : w'.ownsRow base e size v n xs := by
  obtain ⟨h1, h2⟩ := h
  refine ⟨h1, ?_⟩
  rcases h2 with h2 | ⟨b, cap, cur, hv, hb, hh, r⟩
  · exact Or.inl h2
  · exact Or.inr ⟨b, cap, cur, hv, hb, by rw [g.block b (Array.getElem?_eq_some_iff.1 hh).1]; exact hh, r⟩
theorem Own.later {w0 wr w1 : World} {v : Value} {n : Nat} {L : List Nat} (h : Own w0 v n L wr) (g : Below wr.heap.size wr w1) : Own w0 v n L w1 :=
  ⟨ownsRow_later h.row g, h.byt, h.bel.trans (g.mono h.bel.size)⟩
theorem Own.size {w0 wr : World} {v : Value} {n : Nat} {L : List Nat} (h : Own w0 v n L wr) : w0.heap.size ≤ wr.heap.size := h.bel.size
theorem Own.reads {w0 wr : World} {A : Option Addr} {n c : Nat} {L : List Nat} (h : Own w0 (.slice A n c) n L wr) : Bs wr A n L := by
  have hl := h.len
  refine ⟨hl, h.byt, fun hn => ?_⟩
  obtain ⟨g, cap, hv, _, hlt⟩ := h.row.form hn
  have hA : A = some ⟨g, 0, none⟩ := by injection hv
  subst hA
  exact ⟨_, rfl, hlt, fun k hk => h.row.cells (g := g) rfl k _ (vals_get L k (by omega))⟩
theorem Own.shape {w0 wr : World} {v : Value} {n : Nat} {L : List Nat} (h : Own w0 v n L wr) : ∃ A c, v = .slice A n c ∧ n ≤ c := by
  rcases h.row.2 with ⟨rfl, rfl⟩ | ⟨g, cap, cur, rfl, _, _, hc, _⟩
  · exact ⟨none, 0, rfl, Nat.le_refl _⟩
  · exact ⟨_, _, rfl, hc⟩
/-- The row's block is none of what lay in w0. -/
theorem Own.new {w0 wr : World} {v : Value} {n : Nat} {L : List Nat} (h : Own w0 v n L wr) : ∀ k, v.ownBlock = some k → w0.heap.size ≤ k ∧ k < wr.heap.size := h.row.lt
theorem Own.grown {w0 wr w1 : World} {v v' : Value} {n m : Nat} {L M : List Nat} (h : Own w0 v n L wr) (hM : AllB M) (hown : w1.ownsRow w0.heap.size 5 1 v' (n + m) (vals L ++ vals M)) (hg : wr.grownBy w1 v.ownBlock) : Own w0 v' (n + m) (L ++ M) w1 :=
  ⟨by rw [vals_append]; exact hown, h.byt.app hM, h.bel.grown hg h.bel.size (fun k hk => (h.new k hk).1)⟩
theorem Own.weaken {w0 w2 wr : World} {v : Value} {n : Nat} {L : List Nat} (h : Own w2 v n L wr) (b : Below w0.heap.size w0 w2) : Own w0 v n L wr :=
  ⟨by
    obtain ⟨h1, h2⟩ := h.row
    refine ⟨h1, ?_⟩
    rcases h2 with h2 | ⟨g, cap, cur, hv, hb, hh, r⟩
    · exact Or.inl h2
    · exact Or.inr ⟨g, cap, cur, hv, Nat.le_trans b.size hb, hh, r⟩, h.byt, b.trans (h.bel.mono b.size)⟩

/-- A list of a literal. -/
theorem Bs.lit (w : World) (L : List Nat) (h : AllB L) : Bs (w.alloc (.cells (vals L).toArray 5)) (some ⟨w.heap.size, 0, none⟩) L.length L := by
  refine ⟨rfl, h, fun _ => ⟨_, rfl, by simp, fun k hk => ?_⟩⟩
  have e : (⟨w.heap.size, 0, none⟩ : Addr).add k = ⟨w.heap.size, k, none⟩ := by unfold Addr.add; split <;> simp_all
  rw [e]
  have hh := heap_alloc_new w (.cells (vals L).toArray 5)
  unfold World.cell?
  simp only [hh]
  simpa using vals_get L k hk
theorem Bs.lit1 (w : World) {x : Nat} (h : x < 256) : Bs (w.alloc (.cells #[.int .u8 (x : Int)] 5)) (some ⟨w.heap.size, 0, none⟩) 1 [x] := Bs.lit w [x] (allB_one h)
/-- A new row, empty, of whatever capacity. -/
theorem Own.made {w0 w : World} (b : Below w0.heap.size w0 w) (cur : Array Value) (cap : Nat) (hm : cap ≤ maxLen) (hs : cur.size = cap) :
    Own w0 (.slice (some ⟨w.heap.size, 0, none⟩) 0 cap) 0 [] (w.alloc (.cells cur 5)) :=
  ⟨World.ownsRow_made w cur cap b.size hm (by omega), allB_nil, b.alloc b.size _⟩
theorem Own.full {w0 w : World} (b : Below w0.heap.size w0 w) (L : List Nat) (hL : AllB L) (cap : Nat) (hm : cap ≤ maxLen) (cur : Array Value) (hs : cur.size = cap) (hn : L.length ≤ cap) (ht : cur.toList.take L.length = vals L)
    {g : Nat} (hg : w0.heap.size ≤ g) (hw : w.heap[g]? = some (.cells cur 5 (0, 0))) :
    Own w0 (.slice (some ⟨g, 0, none⟩) L.length cap) L.length L w :=
  ⟨⟨by rw [vals_length]; omega, .inr ⟨g, cap, cur, rfl, hg, hw, hn, hm, by omega, by simpa using ht⟩⟩, hL, b⟩

section
variable {w0 w : World} {ops : Array Oper} {rest : List Oper} {o : Oper} {a : Act} {Q : Exit → Act → World → Prop}
/-- append onto a row of the call's own. -/
theorem wp_app {K : Act → World → Prop} (s x : Operand) (ho : o.op = .call { callee := .builtin .append, args := #[s, x], argTypes := #[33, 33] })
    {v : Value} {n : Nat} {L : List Nat} (hs : a.eval s = v) (hown : Own w0 v n L w) {A : Option Addr} {m c : Nat} {M : List Nat} (hx : a.eval x = .slice A m c) (hr : Bs w A m M) (hlen : n + m ≤ 1099511627776)
    (h : ∀ A' c' w', n + m ≤ c' → Own w0 (.slice A' (n + m) c') (n + m) (L ++ M) w' → w.grownBy w' v.ownBlock → K (a.put o.dst (.slice A' (n + m) c')) w') : o.wp Try.prog a w K Q := by
  obtain ⟨i0, hi, hz0, hz1, hz2⟩ := info_parts Try.infoByte
  have key : ∀ v' w', Own w0 v' (n + m) (L ++ M) w' → w.grownBy w' v.ownBlock → K (a.put o.dst v') w' := fun v' w' h1 h2 => by
    obtain ⟨A', c', rfl, hc⟩ := h1.shape
    exact h A' c' w' hc h1 h2
  have hsz := hown.size
  rcases A with _ | ad
  · obtain rfl : m = 0 := by
      rcases Nat.eq_zero_or_pos m with h0 | h0
      · exact h0
      · obtain ⟨_, e, _⟩ := hr.cel h0
        cases e
    obtain rfl : M = [] := List.eq_nil_of_length_eq_zero hr.len
    have hrun : (Builtin.append_ #[33, 33] o.type #[v, .slice none 0 c]).run Try.prog w = .ok v w := by
      rcases hown.row.2 with ⟨rfl, rfl⟩ | ⟨g, cap, cur, rfl, _, _, hnc, _⟩
      · simp [Builtin.append_, run_underlying Try.underlying33, sizeOf, typeInfo, hi, Builtin.lenOf, Builtin.firstCells]
      · simp [Builtin.append_, run_underlying Try.underlying33, sizeOf, typeInfo, hi, Builtin.lenOf, Builtin.firstCells, hnc, storeCells]
    unfold Oper.wp
    simp [execOp, ho, resolve, invoke, builtin, hs, hx, hrun, Result.andThen]
    exact key v w (by simpa using hown) (World.grownBy.refl _ _)
  · refine wp_append_own w s x 33 ho w0.heap.size 5 i0 (.int .u8 0) 1 1 Try.underlying33 hi hz0 hz1 hz2 rfl (by decide) v n (vals L) hs hown.row ad m c (vals M) hx (by rw [vals_length, hr.len]; omega) hr.cells (vals_one M) (by unfold maxLen; omega) (by omega) hsz ?_
    intro v' w' h1 h2 _
    exact key v' w' (hown.grown hr.byt h1 h2) h2
theorem wpList_app (hgd : o.guard = none) (s x : Operand) (ho : o.op = .call { callee := .builtin .append, args := #[s, x], argTypes := #[33, 33] })
    {v : Value} {n : Nat} {L : List Nat} (hs : a.eval s = v) (hown : Own w0 v n L w) {A : Option Addr} {m c : Nat} {M : List Nat} (hx : a.eval x = .slice A m c) (hr : Bs w A m M) (hlen : n + m ≤ 1099511627776)
    (h : ∀ A' c' w', n + m ≤ c' → Own w0 (.slice A' (n + m) c') (n + m) (L ++ M) w' → w.grownBy w' v.ownBlock → wpList Try.prog ops Q rest (a.put o.dst (.slice A' (n + m) c')) w') : wpList Try.prog ops Q (o :: rest) a w :=
  wpList_plain hgd fun _ hK => wp_app s x ho hs hown hx hr hlen fun A' c' w' h1 h2 h3 => hK _ _ (h A' c' w' h1 h2 h3)
theorem step_app {K : Act → World → Prop} {E : Prop} (hgd : o.guard = none) (s x : Operand) (ho : o.op = .call { callee := .builtin .append, args := #[s, x], argTypes := #[33, 33] })
    {v : Value} {n : Nat} {L : List Nat} (hs : a.eval s = v) (hown : Own w0 v n L w) {A : Option Addr} {m c : Nat} {M : List Nat} (hx : a.eval x = .slice A m c) (hr : Bs w A m M) (hlen : n + m ≤ 1099511627776)
    (h : ∀ A' c' w', n + m ≤ c' → Own w0 (.slice A' (n + m) c') (n + m) (L ++ M) w' → w.grownBy w' v.ownBlock → K (a.put o.dst (.slice A' (n + m) c')) w') :
    if Region.wanted o (yielded ops a.tmps) = true then Oper.wp Try.prog o a w K Q else E := by
  have hw : Region.wanted o (yielded ops a.tmps) = true := by simp [Region.wanted, hgd]
  rw [if_pos hw]
  exact wp_app s x ho hs hown hx hr hlen h
theorem wpList_app_eq (hgd : o.guard = none) (s x : Operand) (ho : o.op = .call { callee := .builtin .append, args := #[s, x], argTypes := #[33, 33] })
    {v : Value} {n : Nat} {L : List Nat} (hs : a.eval s = v) (hown : Own w0 v n L w) {A : Option Addr} {m m' c : Nat} {M : List Nat} (hx : a.eval x = .slice A m' c) (e : m' = m) (hr : Bs w A m M) (hlen : n + m ≤ 1099511627776)
    (h : ∀ A' c' w', n + m ≤ c' → Own w0 (.slice A' (n + m) c') (n + m) (L ++ M) w' → w.grownBy w' v.ownBlock → wpList Try.prog ops Q rest (a.put o.dst (.slice A' (n + m) c')) w') : wpList Try.prog ops Q (o :: rest) a w := by
  subst e; exact wpList_app hgd s x ho hs hown hx hr hlen h
end

theorem ret_int {k : IntKind} {a b : Int} (h : a = b) : Ending.returned (.int k a) = .returned (.int k b) := by rw [h]

/-- What a function returns that gives bytes in memory of its own. -/
def GivesB (w : World) (L : List Nat) (e : Ending) (w' : World) : Prop := ∃ A n c, e = .returned (.slice A n c) ∧ n ≤ c ∧ Own w (.slice A n c) n L w'

end Go.Proofs.Ytgnomopiofpknaa
