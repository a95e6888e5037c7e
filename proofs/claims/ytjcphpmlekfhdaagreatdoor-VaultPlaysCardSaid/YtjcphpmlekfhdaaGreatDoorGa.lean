/- Lists of bytes in memory: slices that read as a list of bytes, and rows of the call's own that bytes are appended to. No condition. -/
import Derived.Test.YtjcphpmlekfhdaaGreatDoorProg
import Derived.Lib.Hide
import Derived.Below
import Derived.Laws.OwnMore
import Derived.Laws.AppendOwnNone
import Derived.Laws.CopyOwn
import Derived.Maps.AppendAt
import Derived.Deep.AppendLies
import Derived.WalkKit
import Derived.OwnWalk
import Derived.WalkSmall
import Derived.WalkSpells
import Derived.BigQuiet
import Derived.BigGuardPart
import Derived.Deep.QuietTactic
import Derived.Laws.Tables
import Derived.RegionTactic
import Derived.LoopTactic
import Derived.Deep.MidRow
import Derived.Great.BuildSlice
import Derived.Laws.BitsAllLaws
import Derived.Handy
import Derived.Lib.AppendZerosOnto

namespace Go.Proofs.YtjcphpmlekfhdaaGreatDoor
open Go.RowKit

theorem Tryz.infoByte : (Tryz.prog.info? 5).map (fun i => (i.zero, i.size, i.bytes)) = some (some (.int .u8 0), 1, 1) := by kernel_rfl

/-- A byte of a list. -/
def nth (L : List Nat) (k : Nat) : Nat := L.getD k 0
def byteV (n : Nat) : Value := .int .u8 (n : Int)
def vals (L : List Nat) : List Value := L.map byteV
def AllB (L : List Nat) : Prop := ∀ x ∈ L, x < 256
theorem vals_length (L : List Nat) : (vals L).length = L.length := by simp [vals]
theorem vals_append (L M : List Nat) : vals (L ++ M) = vals L ++ vals M := by simp [vals]
theorem vals_get (L : List Nat) (k : Nat) (h : k < L.length) : (vals L)[k]? = some (.int .u8 (nth L k : Nat)) := by simp [vals, nth, List.getD, h, byteV]
theorem vals_get? {L : List Nat} {k : Nat} {u : Value} (h : (vals L)[k]? = some u) : k < L.length ∧ u = .int .u8 (nth L k : Nat) := by
  have hk : k < L.length := by have := (List.getElem?_eq_some_iff.1 h).1; rwa [vals_length] at this
  rw [vals_get L k hk] at h
  exact ⟨hk, (Option.some.inj h).symm⟩
theorem vals_one (L : List Nat) : ∀ u ∈ vals L, u.oneCell' = true := by
  intro u hu
  simp only [vals, List.mem_map] at hu
  obtain ⟨_, _, rfl⟩ := hu
  rfl
theorem nth_lt {L : List Nat} (h : AllB L) (k : Nat) : nth L k < 256 := by
  unfold nth
  rw [List.getD_eq_getElem?_getD]
  cases e : L[k]? with
  | none => decide
  | some x => exact h x (List.mem_of_getElem? e)
theorem AllB.app {L M : List Nat} (h : AllB L) (k : AllB M) : AllB (L ++ M) := fun x hx => by
  rcases List.mem_append.1 hx with h1 | h1
  · exact h x h1
  · exact k x h1
theorem allB_nil : AllB [] := fun x hx => by cases hx
theorem allB_one {x : Nat} (h : x < 256) : AllB [x] := fun y hy => by
  rw [List.mem_singleton] at hy
  omega
theorem AllB.left {L M : List Nat} (h : AllB (L ++ M)) : AllB L := fun x hx => h x (List.mem_append_left _ hx)
theorem nth_left {L M : List Nat} {k : Nat} (h : k < L.length) : nth (L ++ M) k = nth L k := by
  simp [nth, List.getD, List.getElem?_append_left h]
theorem nth_right (L M : List Nat) (k : Nat) : nth (L ++ M) (L.length + k) = nth M k := by
  simp [nth, List.getD, List.getElem?_append_right (Nat.le_add_right _ _)]
theorem nth_ext {L M : List Nat} (hl : L.length = M.length) (h : ∀ k, k < L.length → nth L k = nth M k) : L = M := by
  apply List.ext_getElem hl
  intro k h1 h2
  have := h k h1
  simpa [nth, List.getD, h1, h2] using this

theorem add_add' (a : Addr) (i j : Nat) : (a.add i).add j = a.add (i + j) := by
  unfold Addr.add
  by_cases hi : i = 0 <;> by_cases hj : j = 0 <;> simp [hi, hj, Nat.add_assoc]
theorem add_block (a : Addr) (n : Nat) : (a.add n).block = a.block := by unfold Addr.add; split <;> rfl

/-- A slice at A of n elements reads as the bytes L. -/
structure Bs (w : World) (A : Option Addr) (n : Nat) (L : List Nat) : Prop where
  len : L.length = n
  byt : AllB L
  cel : 0 < n → ∃ a, A = some a ∧ a.block < w.heap.size ∧ ∀ k, k < n → w.cell? (a.add k) = some (.int .u8 (nth L k : Nat))
theorem Bs.nil (w : World) (A : Option Addr) : Bs w A 0 [] := ⟨rfl, allB_nil, fun h => absurd h (by omega)⟩
theorem Bs.at_ {w : World} {A : Option Addr} {n : Nat} {L : List Nat} (h : Bs w A n L) {k : Nat} (hk : k < n) : ∃ a, A = some a ∧ a.block < w.heap.size ∧ w.cell? (a.add k) = some (.int .u8 (nth L k : Nat)) ∧ nth L k < 256 := by
  obtain ⟨a, e, hb, hc⟩ := h.cel (by omega)
  exact ⟨a, e, hb, hc k hk, nth_lt h.byt k⟩
theorem Bs.later {w w1 : World} {A : Option Addr} {n : Nat} {L : List Nat} (h : Bs w A n L) (g : Below w.heap.size w w1) : Bs w1 A n L :=
  ⟨h.len, h.byt, fun hn => by
    obtain ⟨a, e, hb, hc⟩ := h.cel hn
    exact ⟨a, e, Nat.lt_of_lt_of_le hb g.size, fun k hk => by rw [← hc k hk]; exact g.cell (by rw [add_block]; exact hb)⟩⟩
theorem Bs.far {w w1 : World} {A : Option Addr} {n : Nat} {L : List Nat} {row : Option Nat} (h : Bs w A n L) (g : w.grownBy w1 row) (hr : ∀ a, A = some a → some a.block ≠ row) : Bs w1 A n L :=
  ⟨h.len, h.byt, fun hn => by
    obtain ⟨a, e, hb, hc⟩ := h.cel hn
    exact ⟨a, e, Nat.lt_of_lt_of_le hb g.size, fun k hk => g.cell (hc k hk) (by rw [add_block]; exact hr a e)⟩⟩
theorem Bs.cells {w : World} {a : Addr} {n : Nat} {L : List Nat} (h : Bs w (some a) n L) : ∀ j u, (vals L)[j]? = some u → w.cell? (a.add j) = some u := by
  intro j u hu
  obtain ⟨hj, rfl⟩ := vals_get? hu
  have hl := h.len
  obtain ⟨b, e, _, hc⟩ := h.cel (by omega)
  injection e with e
  subst e
  exact hc j (by omega)
/-- A part of a slice, from k on, m long, as the walk spells its address. -/
theorem Bs.cut {w : World} {A : Option Addr} {n c : Nat} {L : List Nat} (h : Bs w A n L) {k m : Nat} (hk : k + m ≤ n) (hc : n ≤ c) :
    Bs w (if c = k then A else A.map (·.add k)) m ((L.drop k).take m) := by
  have hl := h.len
  refine ⟨by simp; omega, fun x hx => h.byt x (List.mem_of_mem_drop (List.mem_of_mem_take hx)), fun hm => ?_⟩
  obtain ⟨a, rfl, hb, hcel⟩ := h.cel (by omega)
  rw [if_neg (by omega)]
  refine ⟨a.add k, rfl, by rw [add_block]; exact hb, fun j hj => ?_⟩
  rw [add_add', hcel (k + j) (by omega)]
  have : nth ((L.drop k).take m) j = nth L (k + j) := by
    simp [nth, List.getD, hj]
  rw [this]
theorem Bs.head {w : World} {A : Option Addr} {n : Nat} {L M : List Nat} (h : Bs w A n (L ++ M)) {m : Nat} (hm : L.length = m) : Bs w A m L := by
  have hl := h.len
  rw [List.length_append] at hl
  refine ⟨hm, h.byt.left, fun hp => ?_⟩
  obtain ⟨a, e, hb, hc⟩ := h.cel (by omega)
  exact ⟨a, e, hb, fun k hk => by rw [hc k (by omega), nth_left (by omega)]⟩

/-- v is a row of the call's own that reads as L; of what lay in w0 nothing has turned. -/
structure Own (w0 : World) (v : Value) (n : Nat) (L : List Nat) (wr : World) : Prop where
  row : wr.ownsRow w0.heap.size 5 1 v n (vals L)
  byt : AllB L
  bel : Below w0.heap.size w0 wr
theorem Own.len {w0 wr : World} {v : Value} {n : Nat} {L : List Nat} (h : Own w0 v n L wr) : L.length = n := by
  have := h.row.1
  rw [vals_length] at this; omega
theorem ownsRow_later {w w' : World} {base : Nat} {e : TypeId} {size : Nat} {v : Value} {n : Nat} {xs : List Value} (h : w.ownsRow base e size v n xs) (g : Below w.heap.size w w') : w'.ownsRow base e size v n xs := by
  obtain ⟨h1, h2⟩ := h
  refine ⟨h1, ?_⟩
  rcases h2 with h2 | ⟨b, cap, cur, hv, hb, hh, r⟩
  · exact Or.inl h2
  · exact Or.inr ⟨b, cap, cur, hv, hb, by rw [g.block b (Array.getElem?_eq_some_iff.1 hh).1]; exact hh, r⟩
theorem Own.later {w0 wr w1 : World} {v : Value} {n : Nat} {L : List Nat} (h : Own w0 v n L wr) (g : Below wr.heap.size wr w1) : Own w0 v n L w1 :=
  ⟨ownsRow_later h.row g, h.byt, h.bel.trans (g.mono h.bel.size)⟩
theorem Own.size {w0 wr : World} {v : Value} {n : Nat} {L : List Nat} (h : Own w0 v n L wr) : w0.heap.size ≤ wr.heap.size := h.bel.size
theorem Own.reads {w0 wr : World} {A : Option Addr} {n c : Nat} {L : List Nat} (h : Own w0 (.slice A n c) n L wr) : Bs wr A n L := by
  have hl := h.len
  refine ⟨hl, h.byt, fun hn => ?_⟩
  obtain ⟨g, cap, hv, _, hlt⟩ := h.row.form hn
  have hA : A = some ⟨g, 0, none⟩ := by injection hv
  subst hA
  exact ⟨_, rfl, hlt, fun k hk => h.row.cells (g := g) rfl k _ (vals_get L k (by omega))⟩
theorem Own.shape {w0 wr : World} {v : Value} {n : Nat} {L : List Nat} (h : Own w0 v n L wr) : ∃ A c, v = .slice A n c ∧ n ≤ c := by
  rcases h.row.2 with ⟨rfl, rfl⟩ | ⟨g, cap, cur, rfl, _, _, hc, _⟩
  · exact ⟨none, 0, rfl, Nat.le_refl _⟩
  · exact ⟨_, _, rfl, hc⟩
/-- The row's block is none of what lay in w0. -/
theorem Own.new {w0 wr : World} {v : Value} {n : Nat} {L : List Nat} (h : Own w0 v n L wr) : ∀ k, v.ownBlock = some k → w0.heap.size ≤ k ∧ k < wr.heap.size := h.row.lt
theorem Own.grown {w0 wr w1 : World} {v v' : Value} {n m : Nat} {L M : List Nat} (h : Own w0 v n L wr) (hM : AllB M) (hown : w1.ownsRow w0.heap.size 5 1 v' (n + m) (vals L ++ vals M)) (hg : wr.grownBy w1 v.ownBlock) : Own w0 v' (n + m) (L ++ M) w1 :=
  ⟨by rw [vals_append]; exact hown, h.byt.app hM, h.bel.grown hg h.bel.size (fun k hk => (h.new k hk).1)⟩
theorem Own.weaken {w0 w2 wr : World} {v : Value} {n : Nat} {L : List Nat} (h : Own w2 v n L wr) (b : Below w0.heap.size w0 w2) : Own w0 v n L wr :=
  ⟨by
    obtain ⟨h1, h2⟩ := h.row
    refine ⟨h1, ?_⟩
    rcases h2 with h2 | ⟨g, cap, cur, hv, hb, hh, r⟩
    · exact Or.inl h2
    · exact Or.inr ⟨g, cap, cur, hv, Nat.le_trans b.size hb, hh, r⟩, h.byt, b.trans (h.bel.mono b.size)⟩

/-- A list of a literal. -/
theorem Bs.lit (w : World) (L : List Nat) (h : AllB L) : Bs (w.alloc (.cells (vals L).toArray 5)) (some ⟨w.heap.size, 0, none⟩) L.length L := by
  refine ⟨rfl, h, fun _ => ⟨_, rfl, by simp, fun k hk => ?_⟩⟩
  have e : (⟨w.heap.size, 0, none⟩ : Addr).add k = ⟨w.heap.size, k, none⟩ := by unfold Addr.add; split <;> simp_all
  rw [e]
  have hh := heap_alloc_new w (.cells (vals L).toArray 5)
  unfold World.cell?
  simp only [hh]
  simpa using vals_get L k hk
theorem Bs.lit1 (w : World) {x : Nat} (h : x < 256) : Bs (w.alloc (.cells #[.int .u8 (x : Int)] 5)) (some ⟨w.heap.size, 0, none⟩) 1 [x] := Bs.lit w [x] (allB_one h)
/-- A new row, empty, of whatever capacity. -/
theorem Own.made {w0 w : World} (b : Below w0.heap.size w0 w) (cur : Array Value) (cap : Nat) (hm : cap ≤ maxLen) (hs : cur.size = cap) :
    Own w0 (.slice (some ⟨w.heap.size, 0, none⟩) 0 cap) 0 [] (w.alloc (.cells cur 5)) :=
  ⟨World.ownsRow_made w cur cap b.size hm (by omega), allB_nil, b.alloc b.size _⟩
theorem Own.full {w0 w : World} (b : Below w0.heap.size w0 w) (L : List Nat) (hL : AllB L) (cap : Nat) (hm : cap ≤ maxLen) (cur : Array Value) (hs : cur.size = cap) (hn : L.length ≤ cap) (ht : cur.toList.take L.length = vals L)
    {g : Nat} (hg : w0.heap.size ≤ g) (hw : w.heap[g]? = some (.cells cur 5 (0, 0))) :
    Own w0 (.slice (some ⟨g, 0, none⟩) L.length cap) L.length L w :=
  ⟨⟨by rw [vals_length]; omega, .inr ⟨g, cap, cur, rfl, hg, hw, hn, hm, by omega, by simpa using ht⟩⟩, hL, b⟩

section
variable {w0 w : World} {ops : Array Oper} {rest : List Oper} {o : Oper} {a : Act} {Q : Exit → Act → World → Prop}
/-- append onto a row of the call's own. -/
theorem wp_app {K : Act → World → Prop} (s x : Operand) (ho : o.op = .call { callee := .builtin .append, args := #[s, x], argTypes := #[40, 40] })
    {v : Value} {n : Nat} {L : List Nat} (hs : a.eval s = v) (hown : Own w0 v n L w) {A : Option Addr} {m c : Nat} {M : List Nat} (hx : a.eval x = .slice A m c) (hr : Bs w A m M) (hlen : n + m ≤ 1099511627776)
    (h : ∀ A' c' w', n + m ≤ c' → Own w0 (.slice A' (n + m) c') (n + m) (L ++ M) w' → w.grownBy w' v.ownBlock → K (a.put o.dst (.slice A' (n + m) c')) w') : o.wp Tryz.prog a w K Q := by
  obtain ⟨i0, hi, hz0, hz1, hz2⟩ := info_parts Tryz.infoByte
  have key : ∀ v' w', Own w0 v' (n + m) (L ++ M) w' → w.grownBy w' v.ownBlock → K (a.put o.dst v') w' := fun v' w' h1 h2 => by
    obtain ⟨A', c', rfl, hc⟩ := h1.shape
    exact h A' c' w' hc h1 h2
  have hsz := hown.size
  rcases A with _ | ad
  · obtain rfl : m = 0 := by
      rcases Nat.eq_zero_or_pos m with h0 | h0
      · exact h0
      · obtain ⟨_, e, _⟩ := hr.cel h0
        cases e
    obtain rfl : M = [] := List.eq_nil_of_length_eq_zero hr.len
    have hrun : (Builtin.append_ #[40, 40] o.type #[v, .slice none 0 c]).run Tryz.prog w = .ok v w := by
      rcases hown.row.2 with ⟨rfl, rfl⟩ | ⟨g, cap, cur, rfl, _, _, hnc, _⟩
      · simp [Builtin.append_, run_underlying Tryz.underlying40, sizeOf, typeInfo, hi, Builtin.lenOf, Builtin.firstCells]
      · simp [Builtin.append_, run_underlying Tryz.underlying40, sizeOf, typeInfo, hi, Builtin.lenOf, Builtin.firstCells, hnc, storeCells]
    unfold Oper.wp
    simp [execOp, ho, resolve, invoke, builtin, hs, hx, hrun, Result.andThen]
    exact key v w (by simpa using hown) (World.grownBy.refl _ _)
  · refine wp_append_own w s x 40 ho w0.heap.size 5 i0 (.int .u8 0) 1 1 Tryz.underlying40 hi hz0 hz1 hz2 rfl (by decide) v n (vals L) hs hown.row ad m c (vals M) hx (by rw [vals_length, hr.len]; omega) hr.cells (vals_one M) (by unfold maxLen; omega) (by omega) hsz ?_
    intro v' w' h1 h2 _
    exact key v' w' (hown.grown hr.byt h1 h2) h2
theorem wpList_app (hgd : o.guard = none) (s x : Operand) (ho : o.op = .call { callee := .builtin .append, args := #[s, x], argTypes := #[40, 40] })
    {v : Value} {n : Nat} {L : List Nat} (hs : a.eval s = v) (hown : Own w0 v n L w) {A : Option Addr} {m c : Nat} {M : List Nat} (hx : a.eval x = .slice A m c) (hr : Bs w A m M) (hlen : n + m ≤ 1099511627776)
    (h : ∀ A' c' w', n + m ≤ c' → Own w0 (.slice A' (n + m) c') (n + m) (L ++ M) w' → w.grownBy w' v.ownBlock → wpList Tryz.prog ops Q rest (a.put o.dst (.slice A' (n + m) c')) w') : wpList Tryz.prog ops Q (o :: rest) a w :=
  wpList_plain hgd fun _ hK => wp_app s x ho hs hown hx hr hlen fun A' c' w' h1 h2 h3 => hK _ _ (h A' c' w' h1 h2 h3)
theorem step_app {K : Act → World → Prop} {E : Prop} (hgd : o.guard = none) (s x : Operand) (ho : o.op = .call { callee := .builtin .append, args := #[s, x], argTypes := #[40, 40] })
    {v : Value} {n : Nat} {L : List Nat} (hs : a.eval s = v) (hown : Own w0 v n L w) {A : Option Addr} {m c : Nat} {M : List Nat} (hx : a.eval x = .slice A m c) (hr : Bs w A m M) (hlen : n + m ≤ 1099511627776)
    (h : ∀ A' c' w', n + m ≤ c' → Own w0 (.slice A' (n + m) c') (n + m) (L ++ M) w' → w.grownBy w' v.ownBlock → K (a.put o.dst (.slice A' (n + m) c')) w') :
    if Region.wanted o (yielded ops a.tmps) = true then Oper.wp Tryz.prog o a w K Q else E := by
  have hw : Region.wanted o (yielded ops a.tmps) = true := by simp [Region.wanted, hgd]
  rw [if_pos hw]
  exact wp_app s x ho hs hown hx hr hlen h
theorem wpList_app_eq (hgd : o.guard = none) (s x : Operand) (ho : o.op = .call { callee := .builtin .append, args := #[s, x], argTypes := #[40, 40] })
    {v : Value} {n : Nat} {L : List Nat} (hs : a.eval s = v) (hown : Own w0 v n L w) {A : Option Addr} {m m' c : Nat} {M : List Nat} (hx : a.eval x = .slice A m' c) (e : m' = m) (hr : Bs w A m M) (hlen : n + m ≤ 1099511627776)
    (h : ∀ A' c' w', n + m ≤ c' → Own w0 (.slice A' (n + m) c') (n + m) (L ++ M) w' → w.grownBy w' v.ownBlock → wpList Tryz.prog ops Q rest (a.put o.dst (.slice A' (n + m) c')) w') : wpList Tryz.prog ops Q (o :: rest) a w := by
  subst e; exact wpList_app hgd s x ho hs hown hx hr hlen h
end

theorem ret_int {k : IntKind} {a b : Int} (h : a = b) : Ending.returned (.int k a) = .returned (.int k b) := by rw [h]

/-- What a function returns that gives bytes in memory of its own. -/
def GivesB (w : World) (L : List Nat) (e : Ending) (w' : World) : Prop := ∃ A n c, e = .returned (.slice A n c) ∧ n ≤ c ∧ Own w (.slice A n c) n L w'

end Go.Proofs.YtjcphpmlekfhdaaGreatDoor

/- What the texts behind this one import. -/
namespace Go.Proofs.YtjcphpmlekfhdaaGreatDoor
end Go.Proofs.YtjcphpmlekfhdaaGreatDoor

/- A region that leaves its order open, whose operations only read and whose callees make memory of their own and write nothing that was there: one walk in the order of the text serves every order. -/
namespace Go.Proofs.YtjcphpmlekfhdaaGreatDoor
open Go.RowKit

/-- A world behind W: of what lay in W nothing has turned. -/
structure After (W : World) where
  w : World
  below : Below W.heap.size W w

instance (W : World) : Nonempty (After W) := ⟨⟨W, Below.refl _ _⟩⟩

theorem After.cell {W : World} (u : After W) {a : Addr} {v : Value} (h : W.cell? a = some v) : u.w.cell? a = some v := cell_later u.below h

theorem after_call {P : Program} {f : FuncId} {args : Array Value} {W : World} {u : After W} {v : Value}
    (h : Calls P f args u.w fun e w' => e = .returned v ∧ Below u.w.heap.size u.w w') : Calls P f args u.w fun e w'' => e = .returned v ∧ ∃ u' : After W, w'' = u'.w :=
  h.mono fun _ w'' ⟨he, hb⟩ => ⟨he, ⟨w'', u.below.trans (hb.mono u.below.size)⟩, rfl⟩

theorem wp_region_after {P : Program} {id : Nat} {Q : Exit → Act → World → Prop} {a : Act} {W : World} {l : List Oper} (hm : P.follows .mixedOrders = true) (hB : Region.lexB .any l.toArray = true)
    (h : wpQuiet P l.toArray (fun w' => ∃ u : After W, w' = u.w) (fun a' => ∀ w', (∃ u : After W, w' = u.w) → Q .normal a' w') l a) : (Code.region id l.toArray true).wp P Q a W :=
  wp_region_quiet (C := fun w' => ∃ u : After W, w' = u.w) hm hB ⟨⟨{ W with drawn := W.drawn + 1 }, ⟨rfl, rfl, rfl, Nat.le_refl _, fun _ _ => rfl⟩⟩, rfl⟩ (by simpa using h)

end Go.Proofs.YtjcphpmlekfhdaaGreatDoor

/- Slices whose elements lead to memory of their own: that read as a list, and rows of the call's own. No condition. -/
namespace Go.Proofs.YtjcphpmlekfhdaaGreatDoor
open Go.RowKit

/-- What lies in the blocks of P lies as it lay. -/
structure Kept (P : Nat → Prop) (w w' : World) : Prop where
  size : w.heap.size ≤ w'.heap.size
  blk : ∀ b, P b → b < w.heap.size → w'.heap[b]? = w.heap[b]?
theorem Kept.of_below {P : Nat → Prop} {w w' : World} (g : Below w.heap.size w w') : Kept P w w' := ⟨g.size, fun b _ hb => g.block b hb⟩
theorem Kept.of_grown {P : Nat → Prop} {w w' : World} {row : Option Nat} (g : w.grownBy w' row) (h : ∀ b, P b → some b ≠ row) : Kept P w w' := ⟨g.size, fun b hp hb => g.block b hb (h b hp)⟩
theorem Kept.cell {P : Nat → Prop} {w w' : World} (g : Kept P w w') {a : Addr} (hp : P a.block) (hb : a.block < w.heap.size) : w'.cell? a = w.cell? a := by
  unfold World.cell?
  rw [g.blk _ hp hb]
theorem Kept.trans {P : Nat → Prop} {w w1 w2 : World} (g : Kept P w w1) (h : Kept P w1 w2) : Kept P w w2 :=
  ⟨Nat.le_trans g.size h.size, fun b hp hb => by rw [h.blk b hp (Nat.lt_of_lt_of_le hb g.size), g.blk b hp hb]⟩
/-- Bytes that lie in a block of P. -/
structure BsP (w : World) (P : Nat → Prop) (A : Option Addr) (n : Nat) (L : List Nat) : Prop where
  bs : Bs w A n L
  inP : 0 < n → ∀ a, A = some a → P a.block
theorem BsP.keep {w w' : World} {P : Nat → Prop} {A : Option Addr} {n : Nat} {L : List Nat} (h : BsP w P A n L) (g : Kept P w w') : BsP w' P A n L :=
  ⟨⟨h.bs.len, h.bs.byt, fun hn => by
    obtain ⟨a, e, hb, hc⟩ := h.bs.cel hn
    have hp := h.inP hn a e
    exact ⟨a, e, Nat.lt_of_lt_of_le hb g.size, fun k hk => by rw [g.cell (by rw [add_block]; exact hp) (by rw [add_block]; exact hb)]; exact hc k hk⟩⟩, h.inP⟩
theorem BsP.weak {w : World} {P Q : Nat → Prop} {A : Option Addr} {n : Nat} {L : List Nat} (h : BsP w P A n L) (q : ∀ b, P b → b < w.heap.size → Q b) : BsP w Q A n L :=
  ⟨h.bs, fun hn a e => by
    obtain ⟨a', e', hb, _⟩ := h.bs.cel hn
    rw [e] at e'
    injection e' with e'
    subst e'
    exact q _ (h.inP hn a e) hb⟩
def anyP : Nat → Prop := fun _ => True
theorem Bs.p {w : World} {A : Option Addr} {n : Nat} {L : List Nat} (h : Bs w A n L) : BsP w anyP A n L := ⟨h, fun _ _ _ => trivial⟩
theorem BsP.nil (w : World) (P : Nat → Prop) (A : Option Addr) : BsP w P A 0 [] := ⟨Bs.nil w A, fun h => absurd h (by omega)⟩

/-- How an element reads. -/
abbrev Reads (α : Type) := World → (Nat → Prop) → List Value → α → Prop
structure Mono {α : Type} (R : Reads α) : Prop where
  keep : ∀ {w w' P V x}, R w P V x → Kept P w w' → R w' P V x
  weak : ∀ {w P Q V x}, R w P V x → (∀ b, P b → b < w.heap.size → Q b) → R w Q V x
/-- Cells that read as a list, element by element. -/
inductive Each {α : Type} (sz : Nat) (R : List Value → α → Prop) : List Value → List α → Prop
  | nil : Each sz R [] []
  | cons {V cs : List Value} {x : α} {l : List α} : V.length = sz → R V x → Each sz R cs l → Each sz R (V ++ cs) (x :: l)
section
variable {α : Type} {sz : Nat} {R S : List Value → α → Prop} {cs ds : List Value} {l m : List α}
theorem Each.len (h : Each sz R cs l) : cs.length = l.length * sz := by
  induction h with
  | nil => simp
  | cons h1 _ _ ih => rw [List.length_append, ih, h1, List.length_cons, Nat.add_mul]; omega
theorem Each.app (h : Each sz R cs l) (k : Each sz R ds m) : Each sz R (cs ++ ds) (l ++ m) := by
  induction h with
  | nil => exact k
  | cons h1 h2 _ ih => rw [List.append_assoc]; exact .cons h1 h2 ih
theorem Each.imp (h : Each sz R cs l) (k : ∀ V x, R V x → S V x) : Each sz S cs l := by
  induction h with
  | nil => exact .nil
  | cons h1 h2 _ ih => exact .cons h1 (k _ _ h2) ih
theorem Each.one {V : List Value} {x : α} (h : V.length = sz) (k : R V x) : Each sz R V [x] := by
  have := Each.cons h k (Each.nil (sz := sz) (R := R))
  rwa [List.append_nil] at this
theorem Each.at_ (h : Each sz R cs l) {k : Nat} (hk : k < l.length) : ∃ X V Z, cs = X ++ (V ++ Z) ∧ X.length = k * sz ∧ V.length = sz ∧ R V l[k] ∧ Each sz R X (l.take k) ∧ Each sz R Z (l.drop (k + 1)) := by
  induction h generalizing k with
  | nil => cases hk
  | @cons V cs x l h1 h2 h3 ih =>
    cases k with
    | zero => exact ⟨[], V, cs, rfl, by simp, h1, h2, .nil, h3⟩
    | succ k =>
      obtain ⟨X, V', Z, e, a1, a2, a3, a4, a5⟩ := ih (k := k) (by simpa using hk)
      subst e
      refine ⟨V ++ X, V', Z, by rw [List.append_assoc], by rw [List.length_append, h1, a1, Nat.add_mul]; omega, a2, a3, ?_, a5⟩
      rw [List.take_succ_cons]
      exact .cons h1 h2 a4
end
/-- A slice at A of n elements reads as l. -/
structure Rows {α : Type} (w : World) (P : Nat → Prop) (sz : Nat) (R : Reads α) (A : Option Addr) (n : Nat) (l : List α) : Prop where
  len : l.length = n
  cel : 0 < n → ∃ b o cs, A = some ⟨b, o, none⟩ ∧ b < w.heap.size ∧ P b ∧ w.rangeAt b o cs ∧ Each sz (R w P) cs l
section
variable {α : Type} {w w' : World} {P Q : Nat → Prop} {sz : Nat} {R : Reads α} {A : Option Addr} {n : Nat} {l : List α}
theorem Rows.nil (w : World) (P : Nat → Prop) (sz : Nat) (R : Reads α) (A : Option Addr) : Rows w P sz R A 0 [] := ⟨rfl, fun h => absurd h (by omega)⟩
theorem Rows.keep (M : Mono R) (h : Rows w P sz R A n l) (g : Kept P w w') : Rows w' P sz R A n l :=
  ⟨h.len, fun hn => by
    obtain ⟨b, o, cs, e, hb, hp, hr, he⟩ := h.cel hn
    exact ⟨b, o, cs, e, Nat.lt_of_lt_of_le hb g.size, hp, fun j v hj => by rw [g.cell hp hb]; exact hr j v hj, he.imp fun V x hx => M.keep hx g⟩⟩
theorem Rows.weak (M : Mono R) (h : Rows w P sz R A n l) (q : ∀ b, P b → b < w.heap.size → Q b) : Rows w Q sz R A n l :=
  ⟨h.len, fun hn => by
    obtain ⟨b, o, cs, e, hb, hp, hr, he⟩ := h.cel hn
    exact ⟨b, o, cs, e, hb, q b hp hb, hr, he.imp fun V x hx => M.weak hx q⟩⟩
theorem Rows.later (M : Mono R) (h : Rows w P sz R A n l) (g : Below w.heap.size w w') : Rows w' P sz R A n l := h.keep M (Kept.of_below g)
theorem Rows.at_ {b o : Nat} (h : Rows w P sz R (some ⟨b, o, none⟩) n l) {k : Nat} (hk : k < l.length) : b < w.heap.size ∧ P b ∧ ∃ V, V.length = sz ∧ w.rangeAt b (o + k * sz) V ∧ R w P V l[k] := by
  have hl := h.len
  obtain ⟨b', o', cs, e, hb, hp, hr, he⟩ := h.cel (by omega)
  injection e with e
  injection e with e1 e2
  subst e1 e2
  obtain ⟨X, V, Z, rfl, hX, hV, hR, _⟩ := he.at_ hk
  refine ⟨hb, hp, V, hV, fun j v hj => ?_, hR⟩
  have hj' := (List.getElem?_eq_some_iff.1 hj).1
  have := hr (k * sz + j) v (by rw [← hX, List.getElem?_append_right (Nat.le_add_right _ _), Nat.add_sub_cancel_left, List.getElem?_append_left hj']; exact hj)
  rwa [Nat.add_assoc]
end
/-- v is a row of the call's own that reads as l; what its elements lead to lies in blocks of P, and not in the row. -/
structure OwnRw {α : Type} (T : TypeId) (sz : Nat) (R : Reads α) (w0 : World) (P : Nat → Prop) (v : Value) (n : Nat) (l : List α) (wr : World) : Prop where
  row : ∃ cs, wr.ownsRow w0.heap.size T sz v n cs ∧ Each sz (R wr fun b => P b ∧ some b ≠ v.ownBlock) cs l ∧ ∀ u ∈ cs, u.oneCell' = true
  len : l.length = n
  bel : Below w0.heap.size w0 wr
section
variable {α : Type} {T : TypeId} {sz : Nat} {R : Reads α} {w0 wr w1 : World} {P Q : Nat → Prop} {v : Value} {n : Nat} {l : List α}
theorem OwnRw.new (h : OwnRw T sz R w0 P v n l wr) : ∀ k, v.ownBlock = some k → w0.heap.size ≤ k ∧ k < wr.heap.size := by
  obtain ⟨cs, h1, _⟩ := h.row
  exact h1.lt
theorem OwnRw.later (M : Mono R) (h : OwnRw T sz R w0 P v n l wr) (g : Below wr.heap.size wr w1) : OwnRw T sz R w0 P v n l w1 := by
  obtain ⟨cs, h1, h2, h3⟩ := h.row
  exact ⟨⟨cs, ownsRow_later h1 g, h2.imp fun V x hx => M.keep hx (Kept.of_below g), h3⟩, h.len, h.bel.trans (g.mono h.bel.size)⟩
theorem OwnRw.weak (M : Mono R) (h : OwnRw T sz R w0 P v n l wr) (q : ∀ b, P b → b < wr.heap.size → Q b) : OwnRw T sz R w0 Q v n l wr := by
  obtain ⟨cs, h1, h2, h3⟩ := h.row
  exact ⟨⟨cs, h1, h2.imp fun V x hx => M.weak hx fun b hb hl => ⟨q b hb.1 hl, hb.2⟩, h3⟩, h.len, h.bel⟩
theorem OwnRw.shape (h : OwnRw T sz R w0 P v n l wr) : ∃ A c, v = .slice A n c ∧ n ≤ c := by
  obtain ⟨cs, h1, _⟩ := h.row
  rcases h1.2 with ⟨rfl, rfl⟩ | ⟨g, cap, cur, rfl, _, _, hc, _⟩
  · exact ⟨none, 0, rfl, Nat.le_refl _⟩
  · exact ⟨_, _, rfl, hc⟩
theorem OwnRw.none_ {w : World} (b : Below w0.heap.size w0 w) : OwnRw T sz R w0 P (.slice none 0 0) 0 [] w := ⟨⟨[], World.ownsRow_nil _ _ _ _, .nil, fun u hu => by cases hu⟩, rfl, b⟩
theorem OwnRw.made {w : World} (b : Below w0.heap.size w0 w) : OwnRw T sz R w0 P (.slice (some ⟨w.heap.size, 0, none⟩) 0 0) 0 [] (w.alloc (.cells #[] T)) :=
  ⟨⟨[], World.ownsRow_made w #[] 0 b.size (by unfold maxLen; omega) (by simp), .nil, fun u hu => by cases hu⟩, rfl, b.alloc b.size _⟩
/-- Read as any slice is. -/
theorem OwnRw.reads (M : Mono R) {A : Option Addr} {c : Nat} (h : OwnRw T sz R w0 P (.slice A n c) n l wr) : Rows wr (fun b => P b ∨ A.map (·.block) = some b) sz R A n l := by
  obtain ⟨cs, h1, h2, h3⟩ := h.row
  refine ⟨h.len, fun hn => ?_⟩
  obtain ⟨g, cap, hv, _, hlt⟩ := h1.form hn
  have hA : A = some ⟨g, 0, none⟩ := by injection hv
  subst hA
  refine ⟨g, 0, cs, rfl, hlt, .inr rfl, fun j u hj => ?_, h2.imp fun V x hx => M.weak hx fun b hb _ => .inl hb.1⟩
  have := h1.cells (g := g) rfl j u hj
  have e : (⟨g, 0, none⟩ : Addr).add j = ⟨g, 0 + j, none⟩ := by unfold Addr.add; split <;> simp_all
  rwa [e] at this
end
/-- What is asked of a slice's type. -/
structure ElemT (S T : TypeId) (sz by_ : Nat) (Z : Value) : Prop where
  und : Tryz.prog.underlying S = some (.slice T)
  info : (Tryz.prog.info? T).map (fun i => (i.zero, i.size, i.bytes)) = some (some Z, sz, by_)
  zs : Z.cells.size = sz
  pos : 0 < sz
section
variable {α : Type} {S T : TypeId} {sz by_ : Nat} {Z : Value} {R : Reads α} {w0 w : World} {P : Nat → Prop} {v : Value} {n m c : Nat} {l k : List α} {A : Option Addr}
set_option maxRecDepth 100000 in
theorem run_appRw (E : ElemT S T sz by_ Z) (M : Mono R) (ty : TypeId) (hown : OwnRw T sz R w0 P v n l w) {cs : List Value} (hk : k.length = m) (hcs : 0 < m → ∃ b o, A = some ⟨b, o, none⟩ ∧ w.rangeAt b o cs) (he : Each sz (R w fun b => P b ∧ some b ≠ v.ownBlock ∧ b < w.heap.size) cs k) (h1 : ∀ u ∈ cs, u.oneCell' = true) (hlen : n + m ≤ 1073741824) (hby : (n + m) * by_ ≤ 140737488355328) :
    ∃ A' c' w', (Builtin.append_ #[S, S] ty #[v, .slice A m c]).run Tryz.prog w = .ok (.slice A' (n + m) c') w' ∧ OwnRw T sz R w0 P (.slice A' (n + m) c') (n + m) (l ++ k) w' ∧ w.grownBy w' v.ownBlock ∧ n + m ≤ c' ∧ (Value.ownBlock (.slice A' (n + m) c') = v.ownBlock ∨ Value.ownBlock (.slice A' (n + m) c') = some w.heap.size) := by
  obtain ⟨i0, hi, hz0, hz1, hz2⟩ := info_parts E.info
  obtain ⟨ds, hd, hed, hd1⟩ := hown.row
  by_cases hm : 0 < m
  · obtain ⟨b, o, rfl, hr⟩ := hcs hm
    obtain ⟨v', w', a1, a2, a3, _, a5⟩ := run_append_own_at (P := Tryz.prog) w w0.heap.size S ty T i0 Z sz by_ E.und hi hz0 hz1 hz2 E.zs E.pos v n ds hd ⟨b, o, none⟩ m c cs (by rw [he.len, hk]) (fun j u hj => by
      have e : (⟨b, o, none⟩ : Addr).add j = ⟨b, o + j, none⟩ := by unfold Addr.add; split <;> simp_all
      rw [e]; exact hr j u hj) h1 (by unfold maxLen; omega) hby hown.bel.size
    have ne : ∀ x, (P x ∧ some x ≠ v.ownBlock) → x < w.heap.size → P x ∧ some x ≠ v'.ownBlock := fun x hx hlt => ⟨hx.1, by
      rcases a5 with q | q
      · rw [q]; exact hx.2
      · rw [q]; intro e; injection e with e; omega⟩
    have O : OwnRw T sz R w0 P v' (n + m) (l ++ k) w' := by
      refine ⟨⟨ds ++ cs, a2, Each.app (hed.imp fun V x hx => ?_) (he.imp fun V x hx => ?_), fun u hu => ?_⟩, by rw [List.length_append, hown.len, hk], hown.bel.grown a3 hown.bel.size (fun q hq => (hown.new q hq).1)⟩
      · have y := M.weak hx (Q := fun b => (P b ∧ some b ≠ v'.ownBlock) ∧ some b ≠ v.ownBlock) fun b hb hlt => ⟨ne b hb hlt, hb.2⟩
        exact M.weak (M.keep y (Kept.of_grown a3 fun b hb => hb.2)) fun b hb _ => hb.1
      · have y := M.weak hx (Q := fun b => (P b ∧ some b ≠ v'.ownBlock) ∧ some b ≠ v.ownBlock) fun b hb hlt => ⟨ne b ⟨hb.1, hb.2.1⟩ hb.2.2, hb.2.1⟩
        exact M.weak (M.keep y (Kept.of_grown a3 fun b hb => hb.2)) fun b hb _ => hb.1
      · rcases List.mem_append.1 hu with h | h
        · exact hd1 u h
        · exact h1 u h
    obtain ⟨A', c', rfl, hc⟩ := O.shape
    exact ⟨A', c', w', a1, O, a3, hc, a5⟩
  · obtain rfl : m = 0 := by omega
    obtain rfl : k = [] := List.eq_nil_of_length_eq_zero hk
    rw [List.append_nil, Nat.add_zero]
    obtain ⟨A1, c1, rfl, hc1⟩ := hown.shape
    refine ⟨A1, c1, w, ?_, hown, World.grownBy.refl _ _, hc1, .inl rfl⟩
    have hc : ∀ x : Addr, (loadCells x 0).run Tryz.prog w = .ok #[] w := fun x => by simpa using run_loadCells_list (P := Tryz.prog) w x [] (by simp)
    rcases hd.2 with ⟨e, _⟩ | ⟨q, cap, cur, e, _, _, hnc, _⟩
    · injection e with e1 e2 e3
      subst e1 e2 e3
      cases A <;> simp [Builtin.append_, run_underlying E.und, sizeOf, typeInfo, hi, Builtin.lenOf, Builtin.firstCells, hc]
    · injection e with e1 e2 e3
      subst e1 e3
      cases A <;> simp [Builtin.append_, run_underlying E.und, sizeOf, typeInfo, hi, Builtin.lenOf, Builtin.firstCells, hnc, storeCells, hc]
end
section
variable {α : Type} {S T : TypeId} {sz by_ : Nat} {Z : Value} {R : Reads α} {w0 w : World} {P : Nat → Prop} {v : Value} {n m c N : Nat} {l k : List α} {A : Option Addr} {ops : Array Oper} {rest : List Oper} {o : Oper} {a : Act} {Q : Exit → Act → World → Prop} {K : Act → World → Prop} {d : Option Tmp}
set_option maxRecDepth 100000 in
theorem wp_appRw (E : ElemT S T sz by_ Z) (M : Mono R) (hd : o.dst = d) (s x : Operand) (ho : o.op = .call { callee := .builtin .append, args := #[s, x], argTypes := #[S, S] })
    (hs : a.eval s = v) (hown : OwnRw T sz R w0 P v n l w) (hx : a.eval x = .slice A m c) {cs : List Value} (hk : k.length = m) (hcs : 0 < m → ∃ b o, A = some ⟨b, o, none⟩ ∧ w.rangeAt b o cs) (he : Each sz (R w fun b => P b ∧ some b ≠ v.ownBlock ∧ b < w.heap.size) cs k) (h1 : ∀ u ∈ cs, u.oneCell' = true) (hN : n + m = N) (hlen : n + m ≤ 1073741824) (hby : (n + m) * by_ ≤ 140737488355328)
    (hw : ∀ A' c' w', N ≤ c' → OwnRw T sz R w0 P (.slice A' N c') N (l ++ k) w' → w.grownBy w' v.ownBlock → (Value.ownBlock (.slice A' N c') = v.ownBlock ∨ Value.ownBlock (.slice A' N c') = some w.heap.size) → K (a.put d (.slice A' N c')) w') : o.wp Tryz.prog a w K Q := by
  subst hd hN
  obtain ⟨A', c', w', r1, r2, r3, r4, r5⟩ := run_appRw (c := c) E M o.type hown hk hcs he h1 hlen hby
  have e := hw A' c' w' r4 r2 r3 r5
  unfold Oper.wp
  simp [execOp, ho, resolve, invoke, builtin, hs, hx, r1, Result.andThen]
  exact e
theorem wpList_appRw (E : ElemT S T sz by_ Z) (M : Mono R) (hgd : o.guard = none) (s x : Operand) (ho : o.op = .call { callee := .builtin .append, args := #[s, x], argTypes := #[S, S] })
    (hs : a.eval s = v) (hown : OwnRw T sz R w0 P v n l w) (hx : a.eval x = .slice A m c) {cs : List Value} (hk : k.length = m) (hcs : 0 < m → ∃ b o, A = some ⟨b, o, none⟩ ∧ w.rangeAt b o cs) (he : Each sz (R w fun b => P b ∧ some b ≠ v.ownBlock ∧ b < w.heap.size) cs k) (h1 : ∀ u ∈ cs, u.oneCell' = true) (hN : n + m = N) (hlen : n + m ≤ 1073741824) (hby : (n + m) * by_ ≤ 140737488355328)
    (hw : ∀ A' c' w', N ≤ c' → OwnRw T sz R w0 P (.slice A' N c') N (l ++ k) w' → w.grownBy w' v.ownBlock → (Value.ownBlock (.slice A' N c') = v.ownBlock ∨ Value.ownBlock (.slice A' N c') = some w.heap.size) → wpList Tryz.prog ops Q rest (a.put o.dst (.slice A' N c')) w') : wpList Tryz.prog ops Q (o :: rest) a w :=
  wpList_plain hgd fun _ hK => wp_appRw E M rfl s x ho hs hown hx hk hcs he h1 hN hlen hby fun A' c' w' h1 h2 h3 h4 => hK _ _ (hw A' c' w' h1 h2 h3 h4)
end
end Go.Proofs.YtjcphpmlekfhdaaGreatDoor

/- SHA-256 over lists of numbers: the definition, and that a step of the machine is a step of the definition. No condition. -/
namespace Go.Proofs.YtjcphpmlekfhdaaGreatDoor
open Go.RowKit

/-! Words of 32 bits as numbers. -/
def xo (a b : Nat) : Nat := (a ^^^ b) % 4294967296
def an (a b : Nat) : Nat := (a &&& b) % 4294967296
def og (a b : Nat) : Nat := (a ||| b) % 4294967296
def ad (a b : Nat) : Nat := (a + b) % 4294967296
def no (a : Nat) : Nat := xo 4294967295 a
def rr (x n : Nat) : Nat := og (x / 2 ^ n) (x * 2 ^ (32 - n) % 4294967296)
def sh (x n : Nat) : Nat := x / 2 ^ n
def sl (x n : Nat) : Nat := x * 2 ^ n % 4294967296

theorem ofInt_nat (a : Nat) : (BitVec.ofInt 32 (a : Int)).toNat = a % 4294967296 := by
  rw [BitVec.ofInt_natCast]; rfl
theorem wrap_nat (a : Nat) : IntKind.u32.wrap (a : Int) = ((a % 4294967296 : Nat) : Int) := by
  rw [IntKind.wrap_u32']; omega
theorem bits_xo (a b : Nat) : bits .xor .u32 (a : Int) (b : Int) = ((xo a b : Nat) : Int) := by
  show IntKind.u32.wrap ((BitVec.ofInt 32 (a : Int) ^^^ BitVec.ofInt 32 (b : Int)).toNat : Int) = _
  rw [BitVec.toNat_xor, ofInt_nat, ofInt_nat, wrap_nat]
  congr 1
  unfold xo
  rw [show (4294967296 : Nat) = 2 ^ 32 from rfl, Nat.xor_mod_two_pow, Nat.xor_mod_two_pow]
  simp
theorem bits_an (a b : Nat) : bits .and .u32 (a : Int) (b : Int) = ((an a b : Nat) : Int) := by
  show IntKind.u32.wrap ((BitVec.ofInt 32 (a : Int) &&& BitVec.ofInt 32 (b : Int)).toNat : Int) = _
  rw [BitVec.toNat_and, ofInt_nat, ofInt_nat, wrap_nat]
  congr 1
  unfold an
  rw [show (4294967296 : Nat) = 2 ^ 32 from rfl, Nat.and_mod_two_pow, Nat.and_mod_two_pow]
  simp
theorem bits_og (a b : Nat) : bits .or .u32 (a : Int) (b : Int) = ((og a b : Nat) : Int) := by
  show IntKind.u32.wrap ((BitVec.ofInt 32 (a : Int) ||| BitVec.ofInt 32 (b : Int)).toNat : Int) = _
  rw [BitVec.toNat_or, ofInt_nat, ofInt_nat, wrap_nat]
  congr 1
  unfold og
  rw [show (4294967296 : Nat) = 2 ^ 32 from rfl, Nat.or_mod_two_pow, Nat.or_mod_two_pow]
  simp
theorem og_comm (a b : Nat) : og a b = og b a := by unfold og; rw [Nat.or_comm]

/-! The schedule of a piece. -/
def sg0 (x : Nat) : Nat := xo (xo (rr x 7) (rr x 18)) (sh x 3)
def sg1 (x : Nat) : Nat := xo (xo (rr x 17) (rr x 19)) (sh x 10)
def word (p : List Nat) (t : Nat) : Nat := og (og (og (sl (nth p (4 * t)) 24) (sl (nth p (4 * t + 1)) 16)) (sl (nth p (4 * t + 2)) 8)) (nth p (4 * t + 3))
def wnext (w : List Nat) (t : Nat) : Nat := ad (ad (ad (sg1 (nth w (t - 2))) (nth w (t - 7))) (sg0 (nth w (t - 15)))) (nth w (t - 16))
def sched (p : List Nat) : Nat → List Nat
  | 0 => []
  | t + 1 => sched p t ++ [if t < 16 then word p t else wnext (sched p t) t]
theorem sched_len (p : List Nat) : ∀ t, (sched p t).length = t
  | 0 => rfl
  | t + 1 => by rw [sched, List.length_append, sched_len p t]; rfl

/-! A round. -/
structure S8 where
  (a b c d e f g h : Nat)
def bs1 (e : Nat) : Nat := xo (xo (rr e 6) (rr e 11)) (rr e 25)
def bs0 (a : Nat) : Nat := xo (xo (rr a 2) (rr a 13)) (rr a 22)
def rnd (k w : Nat) (s : S8) : S8 :=
  let one := ad (ad (ad (ad s.h (bs1 s.e)) (xo (an s.e s.f) (an (no s.e) s.g))) k) w
  let two := ad (bs0 s.a) (xo (xo (an s.a s.b) (an s.a s.c)) (an s.b s.c))
  ⟨ad one two, s.a, s.b, s.c, ad s.d one, s.e, s.f, s.g⟩
def kTab : List Nat := [0x428a2f98, 0x71374491, 0xb5c0fbcf, 0xe9b5dba5, 0x3956c25b, 0x59f111f1, 0x923f82a4, 0xab1c5ed5,
  0xd807aa98, 0x12835b01, 0x243185be, 0x550c7dc3, 0x72be5d74, 0x80deb1fe, 0x9bdc06a7, 0xc19bf174,
  0xe49b69c1, 0xefbe4786, 0x0fc19dc6, 0x240ca1cc, 0x2de92c6f, 0x4a7484aa, 0x5cb0a9dc, 0x76f988da,
  0x983e5152, 0xa831c66d, 0xb00327c8, 0xbf597fc7, 0xc6e00bf3, 0xd5a79147, 0x06ca6351, 0x14292967,
  0x27b70a85, 0x2e1b2138, 0x4d2c6dfc, 0x53380d13, 0x650a7354, 0x766a0abb, 0x81c2c92e, 0x92722c85,
  0xa2bfe8a1, 0xa81a664b, 0xc24b8b70, 0xc76c51a3, 0xd192e819, 0xd6990624, 0xf40e3585, 0x106aa070,
  0x19a4c116, 0x1e376c08, 0x2748774c, 0x34b0bcb5, 0x391c0cb3, 0x4ed8aa4a, 0x5b9cca4f, 0x682e6ff3,
  0x748f82ee, 0x78a5636f, 0x84c87814, 0x8cc70208, 0x90befffa, 0xa4506ceb, 0xbef9a3f7, 0xc67178f2]
def rnds (w : List Nat) (s : S8) : Nat → S8
  | 0 => s
  | t + 1 => rnd (nth kTab t) (nth w t) (rnds w s t)
def s8 (h : List Nat) : S8 := ⟨nth h 0, nth h 1, nth h 2, nth h 3, nth h 4, nth h 5, nth h 6, nth h 7⟩
def comp (h p : List Nat) : List Nat :=
  let r := rnds (sched p 64) (s8 h) 64
  [ad (nth h 0) r.a, ad (nth h 1) r.b, ad (nth h 2) r.c, ad (nth h 3) r.d, ad (nth h 4) r.e, ad (nth h 5) r.f, ad (nth h 6) r.g, ad (nth h 7) r.h]
def h0 : List Nat := [0x6a09e667, 0xbb67ae85, 0x3c6ef372, 0xa54ff53a, 0x510e527f, 0x9b05688c, 0x1f83d9ab, 0x5be0cd19]
/-- The first n pieces of a text. -/
def pieces (L : List Nat) : Nat → List Nat
  | 0 => h0
  | n + 1 => comp (pieces L n) ((L.drop (64 * n)).take 64)
def byteAt (h : List Nat) (i : Nat) : Nat := (nth h (i / 4) / 2 ^ (24 - 8 * (i % 4))) % 256
def bytesS (h : List Nat) : List Nat := (List.range 32).map (byteAt h)
/-- The text of bytes: a mark, noughts, and how many bits. -/
def gapN (n : Nat) : Nat := (119 - n % 64) % 64
def bits8 (n : Nat) : List Nat := (List.range 8).map fun i => n * 8 % 18446744073709551616 / 2 ^ (56 - 8 * i) % 256
def text (L : List Nat) : List Nat := L ++ 128 :: List.replicate (gapN L.length) 0 ++ bits8 L.length
def shaS (L : List Nat) : List Nat := bytesS (pieces (text L) ((text L).length / 64))
theorem gap_full (n : Nat) : (n + 1 + gapN n + 8) % 64 = 0 := by unfold gapN; omega
end Go.Proofs.YtjcphpmlekfhdaaGreatDoor

/- Blocks known whole: arrays of words, of bytes, and a state. No condition. -/
namespace Go.Proofs.YtjcphpmlekfhdaaGreatDoor
open Go.RowKit

def u32v (n : Nat) : Value := .int .u32 (n : Int)
def u32s (L : List Nat) : List Value := L.map u32v
theorem u32s_len (L : List Nat) : (u32s L).length = L.length := by simp [u32s]
theorem u32s_get (L : List Nat) (k : Nat) (h : k < L.length) : (u32s L)[k]? = some (.int .u32 (nth L k : Nat)) := by simp [u32s, nth, List.getD, h, u32v]
theorem u32s_one (L : List Nat) : ∀ u ∈ u32s L, u.oneCell' = true := by
  intro u hu
  simp only [u32s, List.mem_map] at hu
  obtain ⟨_, _, rfl⟩ := hu
  rfl
theorem u32s_set (L : List Nat) (k x : Nat) : (u32s L).set k (.int .u32 (x : Int)) = u32s (L.set k x) := by
  simp [u32s, List.map_set, u32v]
theorem vals_set (L : List Nat) (k x : Nat) : (vals L).set k (.int .u8 (x : Int)) = vals (L.set k x) := by
  simp [vals, List.map_set, byteV]
theorem nth_set_same {L : List Nat} {k x : Nat} (h : k < L.length) : nth (L.set k x) k = x := by simp [nth, List.getD, h]
theorem nth_set_ne {L : List Nat} {k j x : Nat} (h : k ≠ j) : nth (L.set k x) j = nth L j := by simp [nth, List.getD, h]

/-- A block whose cells are these. -/
def Ro (w : World) (b : Nat) (T : TypeId) (vs : List Value) : Prop := w.heap[b]? = some (.cells vs.toArray T (0, 0))
section
variable {w w1 : World} {b c k : Nat} {T : TypeId} {vs : List Value}
theorem Ro.lt (h : Ro w b T vs) : b < w.heap.size := (Array.getElem?_eq_some_iff.1 h).1
theorem Ro.cell (h : Ro w b T vs) {v : Value} (hk : vs[k]? = some v) : w.cell? ⟨b, k, none⟩ = some v := by
  unfold Ro at h
  unfold World.cell?
  simp only [h]
  simpa using hk
theorem Ro.free (h : Ro w b T vs) (k : Nat) : w.frozen? ⟨b, k, none⟩ = false := by
  unfold Ro at h
  simp [World.frozen?, h]
theorem Ro.same (h : Ro w b T vs) (e : w1.heap[b]? = w.heap[b]?) : Ro w1 b T vs := e.trans h
theorem Ro.later (h : Ro w b T vs) (g : Below w.heap.size w w1) : Ro w1 b T vs := h.same (g.block b h.lt)
theorem Ro.set (h : Ro w b T vs) (k : Nat) (v : Value) : Ro (w.setCell ⟨b, k, none⟩ v) b T (vs.set k v) := by
  unfold Ro at *
  show (w.heap.modify b _)[b]? = _
  rw [Array.getElem?_modify, if_pos rfl, h]
  simp
theorem Ro.other (h : Ro w b T vs) (hc : b ≠ c) (u : Value) : Ro (w.setCell ⟨c, k, none⟩ u) b T vs := h.same (Below.heap_setCell _ _ _ _ hc)
theorem Ro.new (w : World) (T : TypeId) (vs : List Value) : Ro (w.alloc (.cells vs.toArray T)) w.heap.size T vs := heap_alloc_new w _
theorem Ro.alloc (h : Ro w b T vs) (o : Obj) : Ro (w.alloc o) b T vs := h.later ((Below.refl _ _).alloc (Nat.le_refl _) o)
theorem Ro.far {row : Option Nat} (h : Ro w b T vs) (g : w.grownBy w1 row) (hr : some b ≠ row) : Ro w1 b T vs := h.same (g.block b h.lt hr)
end
theorem Ro.u32 {w : World} {b k : Nat} {T : TypeId} {L : List Nat} (h : Ro w b T (u32s L)) (hk : k < L.length) : w.cell? ⟨b, k, none⟩ = some (.int .u32 (nth L k : Nat)) := h.cell (u32s_get L k hk)
theorem Ro.u8 {w : World} {b k : Nat} {T : TypeId} {L : List Nat} (h : Ro w b T (vals L)) (hk : k < L.length) : w.cell? ⟨b, k, none⟩ = some (.int .u8 (nth L k : Nat)) := h.cell (vals_get L k hk)
theorem Ro.set32 {w : World} {b : Nat} {T : TypeId} {L : List Nat} (h : Ro w b T (u32s L)) (k x : Nat) : Ro (w.setCell ⟨b, k, none⟩ (.int .u32 (x : Int))) b T (u32s (L.set k x)) := by
  rw [← u32s_set]; exact h.set _ _
theorem Ro.set8 {w : World} {b : Nat} {T : TypeId} {L : List Nat} (h : Ro w b T (vals L)) (k x : Nat) : Ro (w.setCell ⟨b, k, none⟩ (.int .u8 (x : Int))) b T (vals (L.set k x)) := by
  rw [← vals_set]; exact h.set _ _
theorem all_one {vs : List Value} (h : ∀ u ∈ vs, u.oneCell' = true) : vs.toArray.all (·.oneCell') = true := by
  rw [Array.all_eq_true_iff_forall_mem]
  intro x hx
  exact h x (by simpa using hx)
theorem grownBy_setRow (w : World) (g : Nat) (cs : Array Value) : w.grownBy (w.setRow g cs) (some g) :=
  ⟨rfl, rfl, rfl, by simp, fun k _ hne => by
    simp only [World.setRow, Array.getElem?_modify]
    rw [if_neg (by intro e; exact hne (by rw [e]))]⟩

theorem Tryz.info34 : (Tryz.prog.info? 150).map (·.size) = some 8 := by kernel_rfl
theorem Tryz.info35 : (Tryz.prog.info? 151).map (·.size) = some 64 := by kernel_rfl
theorem Tryz.info54 : (Tryz.prog.info? 164).map (·.size) = some 64 := by kernel_rfl
theorem Tryz.info26 : (Tryz.prog.info? 145).map (·.size) = some 32 := by kernel_rfl
theorem Tryz.info38 : (Tryz.prog.info? 153).map (·.size) = some 73 := by kernel_rfl
/-- A type of an array or a struct of n cells. -/
structure IsRow (T : TypeId) (n : Nat) : Prop where
  und : (∃ f, Tryz.prog.underlying T = some (.struct f)) ∨ ∃ k e, Tryz.prog.underlying T = some (.array k e)
  info : (Tryz.prog.info? T).map (·.size) = some n
theorem row34 : IsRow 150 8 := ⟨.inr ⟨_, _, Tryz.underlying150⟩, Tryz.info34⟩
theorem row35 : IsRow 151 64 := ⟨.inr ⟨_, _, Tryz.underlying151⟩, Tryz.info35⟩
theorem row54 : IsRow 164 64 := ⟨.inr ⟨_, _, Tryz.underlying164⟩, Tryz.info54⟩
theorem row26 : IsRow 145 32 := ⟨.inr ⟨_, _, Tryz.underlying145⟩, Tryz.info26⟩
theorem row38 : IsRow 153 73 := ⟨.inl ⟨_, Tryz.underlying153⟩, Tryz.info38⟩
section
variable {w : World} {ops : Array Oper} {rest : List Oper} {o : Oper} {a : Act} {Q : Exit → Act → World → Prop} {K : Act → World → Prop} {T S : TypeId} {n b : Nat} {vs zs : List Value}
theorem wp_load_ro (x : Operand) (ho : o.op = .load T x) (hx : a.eval x = .pointer (some ⟨b, 0, none⟩)) (hT : IsRow T n) (hr : Ro w b S vs) (hl : vs.length = n) (h : K (a.put o.dst (.agg vs.toArray)) w) : o.wp Tryz.prog a w K Q := by
  obtain ⟨⟨f, h1⟩ | ⟨k, e, h1⟩, h3⟩ := hT
  · exact wp_load_row T x ho b hx S vs.toArray (0, 0) _ hr h1 rfl (by rw [h3]; simp [hl]) h
  · exact wp_load_row T x ho b hx S vs.toArray (0, 0) _ hr h1 rfl (by rw [h3]; simp [hl]) h
theorem wpList_load_ro (hgd : o.guard = none) (x : Operand) (ho : o.op = .load T x) (hx : a.eval x = .pointer (some ⟨b, 0, none⟩)) (hT : IsRow T n) (hr : Ro w b S vs) (hl : vs.length = n)
    (h : wpList Tryz.prog ops Q rest (a.put o.dst (.agg vs.toArray)) w) : wpList Tryz.prog ops Q (o :: rest) a w :=
  wpList_plain hgd fun _ hK => wp_load_ro x ho hx hT hr hl (hK _ _ h)
theorem wpList_store_ro (hgd : o.guard = none) (x y : Operand) (ho : o.op = .store T x y) (hx : a.eval x = .pointer (some ⟨b, 0, none⟩)) (hy : a.eval y = .agg vs.toArray) (hT : IsRow T n) (hr : Ro w b S zs) (hz : zs.length = n) (hl : vs.length = n) (h1 : ∀ u ∈ vs, u.oneCell' = true)
    (h : ∀ w', Ro w' b S vs → w.grownBy w' (some b) → wpList Tryz.prog ops Q rest (a.put o.dst undef) w') : wpList Tryz.prog ops Q (o :: rest) a w :=
  wpList_store_row hgd T x y ho b vs.toArray hx hy S zs.toArray hr (by rw [hT.info]; simp [hl]) (by simp [hz, hl]) (all_one h1) (h _ (setRow_heap w b _ _ _ _ hr) (grownBy_setRow w b _))
end
theorem results_ro {fn : Func} {p : Tmp} {T S : TypeId} {n : Nat} (h : fn.results = #[.cell p T]) (tmps : Array Value) {w : World} {b : Nat} {vs : List Value} (hp : tmps.getD p undef = .pointer (some ⟨b, 0, none⟩)) (hT : IsRow T n) (hr : Ro w b S vs) (hl : vs.length = n) :
    (results fn tmps).run Tryz.prog w = .ok (.agg vs.toArray) w := by
  obtain ⟨⟨f, h1⟩ | ⟨k, e, h1⟩, h3⟩ := hT
  · exact results_cell_row h tmps w b S vs.toArray (0, 0) _ hp hr h1 rfl (by rw [h3]; simp [hl])
  · exact results_cell_row h tmps w b S vs.toArray (0, 0) _ hp hr h1 rfl (by rw [h3]; simp [hl])

theorem right_any (x : Nat) (n : Nat) (h1 : 1 ≤ n) (h2 : n ≤ 31) (w : World) : Calls Tryz.prog 110 #[.int .u32 (x : Nat), .int .u64 (n : Nat)] w fun e w' => e = .returned (.int .u32 (rr x n : Nat)) ∧ w = w' := by
  have H : Hid (bits .or .u32 ((x : Int) / 2 ^ n) ((x : Int) * 2 ^ (32 - n) % 4294967296) = ((rr x n : Nat) : Int)) := Lib.hid (by
    have h := bits_og (x / 2 ^ n) (x * 2 ^ (32 - n) % 4294967296)
    rw [show ((x : Int) / 2 ^ n) = ((x / 2 ^ n : Nat) : Int) by rw [Int.natCast_ediv, Int.natCast_pow]; rfl, show ((x : Int) * 2 ^ (32 - n) % 4294967296) = ((x * 2 ^ (32 - n) % 4294967296 : Nat) : Int) by rw [Int.natCast_emod, Int.natCast_mul, Int.natCast_pow]; rfl]
    exact h)
  go_enter Tryz.func110, Tryz.ntmps110
  go_wp2_with fail
  go_ret
  exact ⟨ret_int H.out, rfl⟩
set_option maxRecDepth 100000 in
theorem rot_any (x : Nat) (k : Int) (n : Nat) (h1 : 1 ≤ n) (h2 : n ≤ 31) (hk : bits .and .u64 (IntKind.u64.wrap k) 31 = ((32 - n : Nat) : Int)) (w : World) : Calls Tryz.prog 115 #[.int .u32 (x : Nat), .int .i64 k] w fun e w' => e = .returned (.int .u32 (rr x n : Nat)) ∧ w = w' := by
  obtain ⟨m, hm⟩ : ∃ m, 32 - n = m := ⟨_, rfl⟩
  rw [hm] at hk
  have m1 : 1 ≤ m := by omega
  have m2 : m ≤ 31 := by omega
  obtain rfl : n = 32 - m := by omega
  have H : Hid (bits .or .u32 ((x : Int) * 2 ^ m % 4294967296) ((x : Int) / 2 ^ (32 - m)) = ((rr x (32 - m) : Nat) : Int)) := Lib.hid (by
    have h := bits_og (x * 2 ^ m % 4294967296) (x / 2 ^ (32 - m))
    rw [show ((x : Int) / 2 ^ (32 - m)) = ((x / 2 ^ (32 - m) : Nat) : Int) by rw [Int.natCast_ediv, Int.natCast_pow]; rfl, show ((x : Int) * 2 ^ m % 4294967296) = ((x * 2 ^ m % 4294967296 : Nat) : Int) by rw [Int.natCast_emod, Int.natCast_mul, Int.natCast_pow]; rfl, h, og_comm]
    unfold rr
    rw [show 32 - (32 - m) = m by omega])
  clear hm h1 h2
  go_enter Tryz.func115, Tryz.ntmps115
  go_wp2_with fail
  go_ret
  exact ⟨ret_int H.out, rfl⟩
end Go.Proofs.YtjcphpmlekfhdaaGreatDoor

/- Blocks known whole; appends onto a row of bytes, and what else turns. No condition. -/
namespace Go.Proofs.YtjcphpmlekfhdaaGreatDoor
open Go.RowKit

/-- Of what lay there nothing has turned but the row v; the row is v' now. -/
structure Grew (w w' : World) (v v' : Value) : Prop where
  g : w.grownBy w' v.ownBlock
  ne : v'.ownBlock = v.ownBlock ∨ ∀ b, v'.ownBlock = some b → w.heap.size ≤ b
theorem Grew.refl (w : World) (v : Value) : Grew w w v v := ⟨World.grownBy.refl _ _, .inl rfl⟩
theorem Grew.trans {w w1 w2 : World} {v v1 v2 : Value} (G : Grew w w1 v v1) (H : Grew w1 w2 v1 v2) : Grew w w2 v v2 := by
  have gs := G.g.size
  refine ⟨⟨H.g.os.trans G.g.os, H.g.tape.trans G.g.tape, H.g.output.trans G.g.output, Nat.le_trans gs H.g.size, fun k hk hne => ?_⟩, ?_⟩
  · rw [H.g.block k (Nat.lt_of_lt_of_le hk gs) ?_, G.g.block k hk hne]
    rcases G.ne with e | e
    · rw [e]; exact hne
    · intro q
      have := e k q.symm
      omega
  · rcases H.ne with e | e
    · rcases G.ne with e2 | e2
      · exact .inl (e.trans e2)
      · exact .inr fun b hb => e2 b (by rw [← e]; exact hb)
    · exact .inr fun b hb => Nat.le_trans gs (e b hb)
theorem Grew.below {w w1 : World} (v : Value) (g : Below w.heap.size w w1) : Grew w w1 v v := ⟨⟨g.os, g.tape, g.output, g.size, fun k hk _ => g.block k hk⟩, .inl rfl⟩
theorem Grew.kept {w w1 : World} {v v' : Value} {P : Nat → Prop} (G : Grew w w1 v v') (h : ∀ b, P b → some b ≠ v.ownBlock) : Kept P w w1 := Kept.of_grown G.g h
/-- A box that is not the row. -/
theorem Grew.box {w w1 : World} {v v' : Value} {b : Nat} {T : TypeId} {vs : List Value} (G : Grew w w1 v v') (h : Ro w b T vs) (hne : some b ≠ v.ownBlock) : Ro w1 b T vs := h.far G.g hne
/-- append of bytes, and in which block it lies. -/
theorem run_appB {w0 w : World} {v : Value} {n : Nat} {L M : List Nat} {A : Option Addr} {m c : Nat} (ty : TypeId) (hown : Own w0 v n L w) (hr : Bs w A m M) (hlen : n + m ≤ 1099511627776) :
    ∃ A' N c' w', (Builtin.append_ #[40, 40] ty #[v, .slice A m c]).run Tryz.prog w = .ok (.slice A' N c') w' ∧ N ≤ c' ∧ Own w0 (.slice A' N c') N (L ++ M) w' ∧ Grew w w' v (.slice A' N c') := by
  obtain ⟨i0, hi, hz0, hz1, hz2⟩ := info_parts Tryz.infoByte
  have hsz := hown.size
  have key : ∀ v' w', (Builtin.append_ #[40, 40] ty #[v, .slice A m c]).run Tryz.prog w = .ok v' w' → Own w0 v' (n + m) (L ++ M) w' → w.grownBy w' v.ownBlock → (v'.ownBlock = v.ownBlock ∨ v'.ownBlock = some w.heap.size) → ∃ A' N c' w', (Builtin.append_ #[40, 40] ty #[v, .slice A m c]).run Tryz.prog w = .ok (.slice A' N c') w' ∧ N ≤ c' ∧ Own w0 (.slice A' N c') N (L ++ M) w' ∧ Grew w w' v (.slice A' N c') := by
    intro v' w' h1 h2 h3 h4
    obtain ⟨A', c', rfl, hc⟩ := h2.shape
    refine ⟨A', n + m, c', w', h1, hc, h2, h3, ?_⟩
    rcases h4 with h4 | h4
    · exact .inl h4
    · exact .inr fun b hb => by rw [h4] at hb; injection hb with hb; omega
  rcases A with _ | ad
  · obtain rfl : m = 0 := by
      rcases Nat.eq_zero_or_pos m with h0 | h0
      · exact h0
      · obtain ⟨_, e, _⟩ := hr.cel h0
        cases e
    obtain rfl : M = [] := List.eq_nil_of_length_eq_zero hr.len
    have hrun : (Builtin.append_ #[40, 40] ty #[v, .slice none 0 c]).run Tryz.prog w = .ok v w := by
      rcases hown.row.2 with ⟨rfl, rfl⟩ | ⟨g, cap, cur, rfl, _, _, hnc, _⟩
      · simp [Builtin.append_, run_underlying Tryz.underlying40, sizeOf, typeInfo, hi, Builtin.lenOf, Builtin.firstCells]
      · simp [Builtin.append_, run_underlying Tryz.underlying40, sizeOf, typeInfo, hi, Builtin.lenOf, Builtin.firstCells, hnc, storeCells]
    exact key v w hrun (by simpa using hown) (World.grownBy.refl _ _) (.inl rfl)
  · obtain ⟨v', w', h1, h2, h3, _, h5⟩ := run_append_own_at (P := Tryz.prog) w w0.heap.size 40 ty 5 i0 (.int .u8 0) 1 1 Tryz.underlying40 hi hz0 hz1 hz2 rfl (by decide) v n (vals L) hown.row ad m c (vals M) (by rw [vals_length, hr.len]; omega) hr.cells (vals_one M) (by unfold maxLen; omega) (by omega) hsz
    exact key v' w' h1 (hown.grown hr.byt h2 h3) h3 h5
section
variable {w0 w : World} {ops : Array Oper} {rest : List Oper} {o : Oper} {a : Act} {Q : Exit → Act → World → Prop} {K : Act → World → Prop} {d : Option Tmp}
theorem wp_appB (hd : o.dst = d) (s x : Operand) (ho : o.op = .call { callee := .builtin .append, args := #[s, x], argTypes := #[40, 40] })
    {v : Value} {n m c : Nat} {L M : List Nat} {A : Option Addr} (hs : a.eval s = v) (hown : Own w0 v n L w) (hx : a.eval x = .slice A m c) (hr : Bs w A m M) (hlen : n + m ≤ 1099511627776)
    (hw : ∀ A' N c' w', N ≤ c' → Own w0 (.slice A' N c') N (L ++ M) w' → Grew w w' v (.slice A' N c') → K (a.put d (.slice A' N c')) w') : o.wp Tryz.prog a w K Q := by
  subst hd
  obtain ⟨A', N, c', w', r1, r2, r3, r4⟩ := run_appB (c := c) o.type hown hr hlen
  have e := hw A' N c' w' r2 r3 r4
  unfold Oper.wp
  simp [execOp, ho, resolve, invoke, builtin, hs, hx, r1, Result.andThen]
  exact e
theorem wpList_appB (hgd : o.guard = none) (s x : Operand) (ho : o.op = .call { callee := .builtin .append, args := #[s, x], argTypes := #[40, 40] })
    {v : Value} {n m c : Nat} {L M : List Nat} {A : Option Addr} (hs : a.eval s = v) (hown : Own w0 v n L w) (hx : a.eval x = .slice A m c) (hr : Bs w A m M) (hlen : n + m ≤ 1099511627776)
    (hw : ∀ A' N c' w', N ≤ c' → Own w0 (.slice A' N c') N (L ++ M) w' → Grew w w' v (.slice A' N c') → wpList Tryz.prog ops Q rest (a.put o.dst (.slice A' N c')) w') : wpList Tryz.prog ops Q (o :: rest) a w :=
  wpList_plain hgd fun _ hK => wp_appB rfl s x ho hs hown hx hr hlen fun A' N c' w' h1 h2 h3 => hK _ _ (hw A' N c' w' h1 h2 h3)
end
/-- What a function returns that puts M behind the row v, which reads as L. -/
def Puts (w0 w : World) (v : Value) (L M : List Nat) (e : Ending) (w' : World) : Prop := ∃ A N c, e = .returned (.slice A N c) ∧ N ≤ c ∧ Own w0 (.slice A N c) N (L ++ M) w' ∧ Grew w w' v (.slice A N c)

end Go.Proofs.YtjcphpmlekfhdaaGreatDoor

/- Numbers as bytes. No memory. No condition. -/
namespace Go.Proofs.YtjcphpmlekfhdaaGreatDoor

/-- A number in k bytes, the lowest first. -/
def lw : Nat → Nat → List Nat
  | 0, _ => []
  | k + 1, n => (n % 256) :: lw k (n / 256)
def num : List Nat → Nat
  | [] => 0
  | x :: l => x + 256 * num l
theorem lw_len : ∀ k n, (lw k n).length = k
  | 0, _ => rfl
  | k + 1, n => by rw [lw, List.length_cons, lw_len]
theorem lw_byt : ∀ k n, AllB (lw k n)
  | 0, _ => fun x hx => by cases hx
  | k + 1, n => fun x hx => by
    rcases List.mem_cons.1 hx with rfl | h
    · exact Nat.mod_lt _ (by decide)
    · exact lw_byt k (n / 256) x h
theorem num_lw : ∀ k n, n < 256 ^ k → num (lw k n) = n
  | 0, n, h => by simp at h; subst h; rfl
  | k + 1, n, h => by
    rw [lw, num, num_lw k (n / 256) (by rw [Nat.pow_succ] at h; exact Nat.div_lt_of_lt_mul (by omega))]
    omega
theorem num_lt : ∀ {L : List Nat}, AllB L → num L < 256 ^ L.length
  | [], _ => by decide
  | x :: l, h => by
    have h1 := h x (List.mem_cons_self ..)
    have h2 := num_lt (L := l) fun y hy => h y (List.mem_cons_of_mem _ hy)
    rw [num, List.length_cons, Nat.pow_succ]
    omega
end Go.Proofs.YtjcphpmlekfhdaaGreatDoor

/- A vault's numbers as bytes. No condition. -/
namespace Go.Proofs.YtjcphpmlekfhdaaGreatDoor
open Go.RowKit

theorem run_make_bytes (n c : Nat) (l k : Int) (hl : l = n) (hk : k = c) (hnc : n ≤ c) (hc : c ≤ 1099511627776) (W : World) :
    (Instr.makeSlice 40 (.int .i64 l) (.int .i64 k)).run Tryz.prog W = .ok (.slice (some ⟨W.heap.size, 0, none⟩) n c) (W.alloc (.cells (vals (List.replicate c 0)).toArray 5)) := by
  obtain ⟨i0, hi, hz0, hz1, hz2⟩ := info_parts Tryz.infoByte
  subst hl hk
  rw [run_make (P := Tryz.prog) W 40 5 i0 (.int .u8 0) Tryz.underlying40 hi hz0 .i64 .i64 (n : Int) (c : Int) (by omega) (by omega) (by rw [hz2]; omega) (by omega), hz1]
  have e : (madeCells (Value.int .u8 0).cells c) = (vals (List.replicate c 0)).toArray := by
    apply Array.toList_inj.1
    show (madeCells #[Value.int .u8 0] c).toList = _
    rw [toList_madeCells_one, vals, List.map_replicate]; rfl
  rw [Int.toNat_natCast, Int.toNat_natCast, Nat.mul_one, e]

theorem lw_nth : ∀ k n i, i < k → nth (lw k n) i = n / 256 ^ i % 256
  | 0, _, _, h => absurd h (by omega)
  | k + 1, n, 0, _ => by rw [lw]; simp [nth]
  | k + 1, n, i + 1, h => by
    have := lw_nth k (n / 256) i (by omega)
    rw [lw, Nat.pow_succ, Nat.mul_comm, ← Nat.div_div_eq_div_mul, ← this]
    simp [nth]
/-- What stands there behind i rounds. -/
def lwTo (k n i : Nat) : List Nat := (lw k n).take i ++ List.replicate (k - i) 0
theorem lwTo_len {k n i : Nat} (h : i ≤ k) : (lwTo k n i).length = k := by
  unfold lwTo
  rw [List.length_append, List.length_take, lw_len, List.length_replicate]; omega
theorem lwTo_set {k n i : Nat} (h : i < k) : (lwTo k n i).set i (n / 256 ^ i % 256) = lwTo k n (i + 1) := by
  unfold lwTo
  have e : k - i = (k - (i + 1)) + 1 := by omega
  rw [List.set_append_right _ _ (by rw [List.length_take, lw_len]; omega), List.length_take, lw_len, Nat.min_eq_left (by omega), Nat.sub_self, e, List.replicate_succ, List.set_cons_zero, List.take_add_one, List.getElem?_eq_getElem (by rw [lw_len]; omega), List.append_assoc]
  have e2 : (lw k n)[i]'(by rw [lw_len]; omega) = n / 256 ^ i % 256 := by
    rw [← lw_nth k n i h]
    simp [nth, List.getD, lw_len, h]
  rw [e2]
  rfl
theorem shr_byte (n j : Nat) : (n : Int) / 2 ^ (8 * j) % 256 = ((n / 256 ^ j % 256 : Nat) : Int) := by
  have e : (256 : Nat) ^ j = 2 ^ (8 * j) := by rw [Nat.pow_mul]
  rw [e, Int.natCast_emod, Int.natCast_ediv, Int.natCast_pow]
  rfl
theorem lwTo_all (k n : Nat) : lwTo k n k = lw k n := by
  unfold lwTo
  rw [List.take_of_length_le (by rw [lw_len]; omega), Nat.sub_self]
  exact List.append_nil _
/-- A whole block as a row of the call's own. -/
theorem Ro.own {w0 w : World} {g : Nat} {L : List Nat} (R : Ro w g 5 (vals L)) (hL : AllB L) (hg : w0.heap.size ≤ g) (b : Below w0.heap.size w0 w) (hl : L.length ≤ 1099511627776) : Own w0 (.slice (some ⟨g, 0, none⟩) L.length L.length) L.length L w :=
  Own.full b L hL L.length (by unfold maxLen; omega) (vals L).toArray (by simp [vals_length]) (Nat.le_refl _) (by
    rw [List.take_of_length_le (by simp [vals_length])]) hg R
set_option maxRecDepth 100000 in
theorem number_any {n k : Nat} (hn : n < 18446744073709551616) (hk : k ≤ 8) (w : World) : Calls Tryz.prog 85 #[.int .u64 (n : Nat), .int .i64 (k : Nat)] w (GivesB w (lw k n)) := by
  have RM := run_make_bytes k k (k : Int) (k : Int) rfl rfl (Nat.le_refl _) (by omega)
  go_enter Tryz.func85, Tryz.ntmps85
  go_wp2_with fail
  obtain ⟨g, hg⟩ : ∃ g, w.heap.size = g := ⟨_, rfl⟩
  have R0 : Ro (w.alloc (.cells (vals (List.replicate k 0)).toArray 5)) g 5 (vals (lwTo k n 0)) := by
    have := Ro.new w 5 (vals (List.replicate k 0))
    rw [hg] at this
    exact this
  have B0 := (Below.refl w.heap.size w).alloc (Nat.le_refl _) (.cells (vals (List.replicate k 0)).toArray 5)
  obtain ⟨w1, hw1⟩ : ∃ w1, w.alloc (.cells (vals (List.replicate k 0)).toArray 5) = w1 := ⟨_, rfl⟩
  rw [hw1] at R0 B0 ⊢
  have HG := Lib.hid hg
  rw [hg]
  have HR0 := Lib.hid R0
  have HB0 := Lib.hid B0
  clear R0 B0 hw1 RM hg
  go_loopw [11] (fun i wr => ∃ j : Nat, j ≤ k ∧ i = .int .i64 (j : Nat) ∧ Ro wr g 5 (vals (lwTo k n j)) ∧ Below w.heap.size w wr) (fun i _ => k - (intOf i).toNat)
  case atStart => exact ⟨0, Nat.zero_le _, rfl, HR0.out, HB0.out⟩
  case round =>
    obtain ⟨j, hj, rfl, R, bel⟩ := hrel
    have HR := Lib.hid R
    have HB := Lib.hid bel
    by_cases hjk : j < k
    · have t1 : decide ((j : Int) < (k : Int)) = true := decide_eq_true (by omega)
      have q0 : wr.cell? ⟨g, j, none⟩ = some (.int .u8 (nth (lwTo k n j) j : Nat)) := R.u8 (by rw [lwTo_len hj]; exact hjk)
      have z0 := R.free j
      have hb : n / 256 ^ j % 256 < 256 := Nat.mod_lt _ (by decide)
      clear R bel
      go_wp2_with fail
      go_roundw
      case rel =>
        refine ⟨j + 1, by omega, by go_num, ?_, HB.out.setCell (by show w.heap.size ≤ g; rw [HG.out]; exact Nat.le_refl _) _⟩
        rw [shr_byte, ← lwTo_set hjk]
        exact HR.out.set8 j _
      case measure => simp [intOf]; omega
    · have t1 : decide ((j : Int) < (k : Int)) = false := decide_eq_false (by omega)
      have e : j = k := by omega
      subst e
      clear R bel
      go_wp2_with fail
      go_ret
      have O := (HR.out.own (w0 := w) (by rw [lwTo_all]; exact lw_byt _ _) (by rw [HG.out]; exact Nat.le_refl _) HB.out (by rw [lwTo_len (Nat.le_refl _)]; omega))
      rw [lwTo_all, lw_len] at O
      exact ⟨_, _, _, rfl, Nat.le_refl _, O⟩
end Go.Proofs.YtjcphpmlekfhdaaGreatDoor

/- slices.Concat of slices of bytes, however many. No condition but a bound on the length. -/
namespace Go.Proofs.YtjcphpmlekfhdaaGreatDoor
open Go.RowKit

/-- How bytes read as an element. -/
def ByR : Reads (List Nat) := fun w P V L => ∃ B cb, V = [.slice B L.length cb] ∧ (L.length ≤ cb ∧ L.length ≤ 140737488351232) ∧ cb ≤ 9223372036854775807 ∧ BsP w P B L.length L
theorem byM : Mono ByR where
  keep := by
    rintro w w' P V x ⟨B, cb, e, h1, h2, h3⟩ g
    exact ⟨B, cb, e, h1, h2, h3.keep g⟩
  weak := by
    rintro w P P' V x ⟨B, cb, e, h1, h2, h3⟩ q
    exact ⟨B, cb, e, h1, h2, h3.weak q⟩
/-- An element's own slice. -/
theorem by_at {w : World} {P : Nat → Prop} {b o n : Nat} {l : List (List Nat)} (h : Rows w P 1 ByR (some ⟨b, o, none⟩) n l) {k : Nat} (hk : k < l.length) :
    b < w.heap.size ∧ ∃ B cb, w.cell? ⟨b, o + k, none⟩ = some (.slice B l[k].length cb) ∧ l[k].length ≤ cb ∧ l[k].length ≤ 140737488351232 ∧ cb ≤ 9223372036854775807 ∧ BsP w P B l[k].length l[k] := by
  obtain ⟨hb, _, V, _, hr, B, cb, rfl, h1, h2, h3⟩ := h.at_ hk
  refine ⟨hb, B, cb, ?_, h1.1, h1.2, h2, h3⟩
  have := hr 0 _ rfl
  rwa [Nat.mul_one, Nat.add_zero] at this
theorem rows_some {α : Type} {w : World} {P : Nat → Prop} {sz : Nat} {R : Reads α} {A : Option Addr} {n : Nat} {l : List α} (h : Rows w P sz R A n l) (hn : 0 < n) : ∃ b o, A = some ⟨b, o, none⟩ := by
  obtain ⟨b, o, _, e, _⟩ := h.cel hn
  exact ⟨b, o, e⟩
theorem flat_take {l : List (List Nat)} {k : Nat} (h : k < l.length) : (l.take (k + 1)).flatten = (l.take k).flatten ++ l[k] := by
  rw [List.take_add_one, List.getElem?_eq_getElem h, Option.toList_some, List.flatten_append, List.flatten_cons, List.flatten_nil, List.append_nil]
theorem flat_take_le (l : List (List Nat)) (k : Nat) : (l.take k).flatten.length ≤ l.flatten.length := by
  have : l.flatten = (l.take k).flatten ++ (l.drop k).flatten := by rw [← List.flatten_append, List.take_append_drop]
  rw [this, List.length_append]; omega
theorem zc_size (z : Array Value) (h : z.size = 1) (n : Nat) : (Builtin.zeroCells z n).size = n := by
  simp [Builtin.zeroCells, h]
section
variable {w0 w : World} {ops : Array Oper} {rest : List Oper} {o : Oper} {a : Act} {Q : Exit → Act → World → Prop}
theorem wpList_growZ (hgd : o.guard = none) (s x : Operand) (ho : o.op = .call { callee := .builtin .append, args := #[s, x], argTypes := #[40, 3] }) {k : Nat} (hs : a.eval s = .slice none 0 0) (hx : a.eval x = .int .i64 (k : Nat)) (h0 : 0 < k) (hk : k ≤ 1099511627776)
    (hb : Below w0.heap.size w0 w)
    (h : ∀ C w', k ≤ C → C ≤ 9223372036854775807 → Own w0 (.slice (some ⟨w.heap.size, 0, none⟩) 0 C) 0 [] w' → wpList Tryz.prog ops Q rest (a.put o.dst (.slice (some ⟨w.heap.size, 0, none⟩) k C)) w') : wpList Tryz.prog ops Q (o :: rest) a w := by
  refine wpList_plain hgd fun K hK => ?_
  obtain ⟨i0, hi, hz0, hz1, hz2⟩ := info_parts Tryz.infoByte
  have hr := Go.Lib.run_append_grow_zeros (P := Tryz.prog) w 40 3 o.type 5 i0 (.int .u8 0) .i64 .i64 Tryz.underlying40 Tryz.underlying3 hi hz0 none 0 0 [] (run_firstCells_none w.drew i0.size 0 0 0) k h0 (by omega) (by omega) (by omega) (by rw [hz2]; omega)
    (growslice_fits (by omega) (by rw [hz2]; omega))
  rw [Nat.zero_add] at hr
  have hge := grownCap_ge w k 0 5
  have hle := grownCap_le_maxLen w k 0 5 (by unfold maxLen; omega)
  obtain ⟨C, hC⟩ : ∃ C, grownCap w k 0 5 = C := ⟨_, rfl⟩
  rw [hC, Array.empty_append] at hr
  rw [hC] at hge hle
  have O := Own.made (w0 := w0) (w := w.drew) (hb.trans ((Below.refl w.heap.size w).drew.mono hb.size)) (Builtin.zeroCells (Value.int .u8 0).cells k ++ Builtin.zeroCells (Value.int .u8 0).cells (C - k)) C hle (by
    rw [Array.size_append, zc_size _ rfl, zc_size _ rfl]
    omega)
  have e := hK _ _ (h C _ hge (by unfold maxLen at hle; omega) O)
  unfold Oper.wp
  simp [execOp, ho, resolve, invoke, builtin, hs, hx, hr, Result.andThen]
  exact e
end

set_option maxRecDepth 100000 in
set_option maxHeartbeats 2000000 in
theorem grow_any {k : Nat} (w : World) (h0 : 0 < k) (hk : k ≤ 1099511627776) : Calls Tryz.prog 84 #[.slice none 0 0, .int .i64 (k : Nat)] w fun e w' => ∃ b C, e = .returned (.slice (some ⟨b, 0, none⟩) 0 C) ∧ Own w (.slice (some ⟨b, 0, none⟩) 0 C) 0 [] w' := by
  have t1 : decide ((k : Int) < 0) = false := decide_eq_false (by omega)
  have t2 : decide ((0 : Int) < (k : Int)) = true := decide_eq_true (by omega)
  have t3 : decide (0 < k) = true := decide_eq_true h0
  go_enter Tryz.func84, Tryz.ntmps84
  go_wp2_with (refine wpList_growZ (w0 := w) rfl (.tmp 20) (.tmp 21) rfl rfl rfl h0 hk (Below.refl _ _) ?_)
  intro C w' h1 h2 O
  have HO := Lib.hid O
  clear O
  go_wp2_with fail
  go_ret
  exact ⟨_, _, rfl, HO.out⟩


set_option maxRecDepth 100000 in
set_option maxHeartbeats 4000000 in
theorem concat_any {A : Option Addr} {n c : Nat} {l : List (List Nat)} (w : World) (hn : n ≤ 1000000) (hR : Rows w anyP 1 ByR A n l) (h0 : 0 < l.flatten.length) (hl : l.flatten.length ≤ 549755813888) :
    Calls Tryz.prog 46 #[.slice A n c] w (GivesB w l.flatten) := by
  have hln := hR.len
  have hn0 : 0 < n := by
    rcases Nat.eq_zero_or_pos n with q | q
    · have e : l = [] := List.eq_nil_of_length_eq_zero (by omega)
      rw [e] at h0
      exact absurd h0 (by decide)
    · exact q
  obtain ⟨b, o, rfl⟩ := rows_some hR hn0
  have HR := Lib.hid hR
  have CG := grow_any (k := l.flatten.length) w h0 (by omega)
  have HCG := Lib.hid CG
  have hblk := (by_at hR (k := 0) (by omega)).1
  clear hR CG
  go_enter Tryz.func46, Tryz.ntmps46
  go_wp2_with fail
  go_loopw [3, 11] (fun s i wr => ∃ k : Nat, k ≤ n ∧ i = .int .i64 (k : Nat) ∧ s = .int .i64 ((l.take k).flatten.length : Nat) ∧ w = wr) (fun _ i _ => n - (intOf i).toNat)
  case atStart => exact ⟨0, Nat.zero_le _, rfl, rfl, rfl⟩
  case round =>
    obtain ⟨k, hk, rfl, rfl, rfl⟩ := hrel
    by_cases hkn : k < n
    · have t1 : decide ((k : Int) < (n : Int)) = true := decide_eq_true (by omega)
      have hkl : k < l.length := by omega
      obtain ⟨_, B, cb, hc, _⟩ := by_at HR.out hkl
      have e1 := congrArg List.length (flat_take hkl)
      rw [List.length_append] at e1
      have e2 := flat_take_le l (k + 1)
      obtain ⟨x, hx⟩ : ∃ x, (l.take k).flatten.length = x := ⟨_, rfl⟩
      obtain ⟨y, hy⟩ : ∃ y, l[k].length = y := ⟨_, rfl⟩
      rw [hx, hy] at e1
      rw [hy] at hc
      rw [hx]
      have E1 := Lib.hid e1
      have hxy : x + y ≤ 549755813888 := by omega
      have t2 : decide ((x : Int) + (y : Int) < 0) = false := decide_eq_false (by omega)
      clear e1 e2 hx hy
      go_wp2_with fail
      go_roundw
      case rel => exact ⟨k + 1, by omega, by go_num, by rw [E1.out]; go_num, trivial⟩
      case measure => simp [intOf]; omega
    · have t1 : decide ((k : Int) < (n : Int)) = false := decide_eq_false (by omega)
      have e : (l.take k).flatten.length = l.flatten.length := by rw [List.take_of_length_le (by omega)]
      rw [e]
      obtain ⟨z, hz⟩ : ∃ z, l.flatten.length = z := ⟨_, rfl⟩
      rw [hz] at HCG hl h0 ⊢
      have HZ := Lib.hid hz
      clear e hz
      go_wp2_with fail
      refine HCG.out.mono ?_
      rintro e w1 ⟨g, C, rfl, O⟩
      have O1 := Lib.hid O
      clear O HCG
      go_wp2_with fail
      go_loopw [6, 27] (fun s i wr' => ∃ (k : Nat) (A' : Option Addr) (N c' : Nat), k ≤ n ∧ i = .int .i64 (k : Nat) ∧ s = .slice A' N c' ∧ N ≤ c' ∧ Own w s N (l.take k).flatten wr') (fun _ i _ => n - (intOf i).toNat)
      case atStart => exact ⟨0, _, _, _, Nat.zero_le _, rfl, rfl, Nat.zero_le _, O1.out⟩
      case round =>
        obtain ⟨k2, A', N, c', hk2, rfl, rfl, hN, O⟩ := hrel
        have HO := Lib.hid O
        have hNl := O.len
        clear O O1
        by_cases hkn2 : k2 < n
        · have t3 : decide ((k2 : Int) < (n : Int)) = true := decide_eq_true (by omega)
          have hkl : k2 < l.length := by omega
          obtain ⟨_, B, cb, hc, _, _, _, hB⟩ := by_at HR.out hkl
          have hc' : wr.cell? ⟨b, o + k2, none⟩ = some (.slice B l[k2].length cb) := (HO.out.bel.cell (p := ⟨b, o + k2, none⟩) hblk).trans hc
          have hB' := Lib.hid (hB.bs.later HO.out.bel)
          have e1 := congrArg List.length (flat_take hkl)
          rw [List.length_append] at e1
          have e2 := flat_take_le l (k2 + 1)
          obtain ⟨M, hM⟩ : ∃ M, l[k2] = M := ⟨_, rfl⟩
          rw [hM] at hc' hB' e1
          obtain ⟨y, hy⟩ : ∃ y, M.length = y := ⟨_, rfl⟩
          rw [hy] at hc' hB' e1
          have HM := Lib.hid hM
          have hxy : N + y ≤ 1099511627776 := by have := HZ.out; omega
          clear hc hB e1 e2 hM hy
          go_wp2_with (at_builtin; refine wpList_app rfl (.tmp 31) (.tmp 32) rfl rfl HO.out rfl hB'.out hxy ?_)
          intro A2 c2 w2 h1 h2 _
          have H2 := Lib.hid h2
          clear h2
          go_wp2_with fail
          go_roundw
          case rel => exact ⟨k2 + 1, A2, N + y, c2, by omega, by go_num, rfl, h1, by rw [flat_take hkl, HM.out]; exact H2.out⟩
          case measure => simp [intOf]; omega
        · have t3 : decide ((k2 : Int) < (n : Int)) = false := decide_eq_false (by omega)
          have e : (l.take k2).flatten = l.flatten := by rw [List.take_of_length_le (by omega)]
          rw [e] at HO
          clear e
          go_wp2_with fail
          go_ret
          exact ⟨_, _, _, rfl, hN, HO.out⟩
end Go.Proofs.YtjcphpmlekfhdaaGreatDoor
