/- Lists of bytes in memory: slices that read as a list of bytes, and rows of the call's own that bytes are appended to. No condition. -/
import Derived.Test.YtimjmmiajgfblaaGreatDoorProg
import Derived.Lib.Hide
import Derived.Below
import Derived.Laws.OwnMore
import Derived.Laws.AppendOwnNone
import Derived.Laws.CopyOwn
import Derived.Maps.AppendAt
import Derived.Deep.AppendLies
import Derived.WalkKit
import Derived.OwnWalk

namespace Go.Proofs.YtimjmmiajgfblaaGreatDoor
open Go.RowKit

theorem Tryz.infoByte : (Tryz.prog.info? 5).map (fun i => (i.zero, i.size, i.bytes)) = some (some (.int .u8 0), 1, 1) := by kernel_rfl

/-- A byte of a list. -/
def nth (L : List Nat) (k : Nat) : Nat := L.getD k 0
def byteV (n : Nat) : Value := .int .u8 (n : Int)
def vals (L : List Nat) : List Value := L.map byteV
def AllB (L : List Nat) : Prop := ∀ x ∈ L, x < 256
theorem vals_length (L : List Nat) : (vals L).length = L.length := by simp [vals]
theorem vals_append (L M : List Nat) : vals (L ++ M) = vals L ++ vals M := by simp [vals]
theorem vals_get (L : List Nat) (k : Nat) (h : k < L.length) : (vals L)[k]? = some (.int .u8 (nth L k : Nat)) := by simp [vals, nth, List.getD, h, byteV]
theorem vals_get? {L : List Nat} {k : Nat} {u : Value} (h : (vals L)[k]? = some u) : k < L.length ∧ u = .int .u8 (nth L k : Nat) := by
  have hk : k < L.length := by have := (List.getElem?_eq_some_iff.1 h).1; rwa [vals_length] at this
  rw [vals_get L k hk] at h
  exact ⟨hk, (Option.some.inj h).symm⟩
theorem vals_one (L : List Nat) : ∀ u ∈ vals L, u.oneCell' = true := by
  intro u hu
  simp only [vals, List.mem_map] at hu
  obtain ⟨_, _, rfl⟩ := hu
  rfl
theorem nth_lt {L : List Nat} (h : AllB L) (k : Nat) : nth L k < 256 := by
  unfold nth
  rw [List.getD_eq_getElem?_getD]
  cases e : L[k]? with
  | none => decide
  | some x => exact h x (List.mem_of_getElem? e)
theorem AllB.app {L M : List Nat} (h : AllB L) (k : AllB M) : AllB (L ++ M) := fun x hx => by
  rcases List.mem_append.1 hx with h1 | h1
  · exact h x h1
  · exact k x h1
theorem allB_nil : AllB [] := fun x hx => by cases hx
theorem allB_one {x : Nat} (h : x < 256) : AllB [x] := fun y hy => by
  rw [List.mem_singleton] at hy
  omega
theorem AllB.left {L M : List Nat} (h : AllB (L ++ M)) : AllB L := fun x hx => h x (List.mem_append_left _ hx)
theorem nth_left {L M : List Nat} {k : Nat} (h : k < L.length) : nth (L ++ M) k = nth L k := by
  simp [nth, List.getD, List.getElem?_append_left h]
theorem nth_right (L M : List Nat) (k : Nat) : nth (L ++ M) (L.length + k) = nth M k := by
  simp [nth, List.getD, List.getElem?_append_right (Nat.le_add_right _ _)]
theorem nth_ext {L M : List Nat} (hl : L.length = M.length) (h : ∀ k, k < L.length → nth L k = nth M k) : L = M := by
  apply List.ext_getElem hl
  intro k h1 h2
  have := h k h1
  simpa [nth, List.getD, h1, h2] using this

theorem add_add' (a : Addr) (i j : Nat) : (a.add i).add j = a.add (i + j) := by
  unfold Addr.add
  by_cases hi : i = 0 <;> by_cases hj : j = 0 <;> simp [hi, hj, Nat.add_assoc]
theorem add_block (a : Addr) (n : Nat) : (a.add n).block = a.block := by unfold Addr.add; split <;> rfl

/-- A slice at A of n elements reads as the bytes L. -/
structure Bs (w : World) (A : Option Addr) (n : Nat) (L : List Nat) : Prop where
  len : L.length = n
  byt : AllB L
  cel : 0 < n → ∃ a, A = some a ∧ a.block < w.heap.size ∧ ∀ k, k < n → w.cell? (a.add k) = some (.int .u8 (nth L k : Nat))
theorem Bs.nil (w : World) (A : Option Addr) : Bs w A 0 [] := ⟨rfl, allB_nil, fun h => absurd h (by omega)⟩
theorem Bs.at_ {w : World} {A : Option Addr} {n : Nat} {L : List Nat} (h : Bs w A n L) {k : Nat} (hk : k < n) : ∃ a, A = some a ∧ a.block < w.heap.size ∧ w.cell? (a.add k) = some (.int .u8 (nth L k : Nat)) ∧ nth L k < 256 := by
  obtain ⟨a, e, hb, hc⟩ := h.cel (by omega)
  exact ⟨a, e, hb, hc k hk, nth_lt h.byt k⟩
theorem Bs.later {w w1 : World} {A : Option Addr} {n : Nat} {L : List Nat} (h : Bs w A n L) (g : Below w.heap.size w w1) : Bs w1 A n L :=
  ⟨h.len, h.byt, fun hn => by
    obtain ⟨a, e, hb, hc⟩ := h.cel hn
    exact ⟨a, e, Nat.lt_of_lt_of_le hb g.size, fun k hk => by rw [← hc k hk]; exact g.cell (by rw [add_block]; exact hb)⟩⟩
theorem Bs.far {w w1 : World} {A : Option Addr} {n : Nat} {L : List Nat} {row : Option Nat} (h : Bs w A n L) (g : w.grownBy w1 row) (hr : ∀ a, A = some a → some a.block ≠ row) : Bs w1 A n L :=
  ⟨h.len, h.byt, fun hn => by
    obtain ⟨a, e, hb, hc⟩ := h.cel hn
    exact ⟨a, e, Nat.lt_of_lt_of_le hb g.size, fun k hk => g.cell (hc k hk) (by rw [add_block]; exact hr a e)⟩⟩
theorem Bs.cells {w : World} {a : Addr} {n : Nat} {L : List Nat} (h : Bs w (some a) n L) : ∀ j u, (vals L)[j]? = some u → w.cell? (a.add j) = some u := by
  intro j u hu
  obtain ⟨hj, rfl⟩ := vals_get? hu
  have hl := h.len
  obtain ⟨b, e, _, hc⟩ := h.cel (by omega)
  injection e with e
  subst e
  exact hc j (by omega)
/-- A part of a slice, from k on, m long, as the walk spells its address. -/
theorem Bs.cut {w : World} {A : Option Addr} {n c : Nat} {L : List Nat} (h : Bs w A n L) {k m : Nat} (hk : k + m ≤ n) (hc : n ≤ c) :
    Bs w (if c = k then A else A.map (·.add k)) m ((L.drop k).take m) := by
  have hl := h.len
  refine ⟨by simp; omega, fun x hx => h.byt x (List.mem_of_mem_drop (List.mem_of_mem_take hx)), fun hm => ?_⟩
  obtain ⟨a, rfl, hb, hcel⟩ := h.cel (by omega)
  rw [if_neg (by omega)]
  refine ⟨a.add k, rfl, by rw [add_block]; exact hb, fun j hj => ?_⟩
  rw [add_add', hcel (k + j) (by omega)]
  have : nth ((L.drop k).take m) j = nth L (k + j) := by
    simp [nth, List.getD, hj]
  rw [this]
theorem Bs.head {w : World} {A : Option Addr} {n : Nat} {L M : List Nat} (h : Bs w A n (L ++ M)) {m : Nat} (hm : L.length = m) : Bs w A m L := by
  have hl := h.len
  rw [List.length_append] at hl
  refine ⟨hm, h.byt.left, fun hp => ?_⟩
  obtain ⟨a, e, hb, hc⟩ := h.cel (by omega)
  exact ⟨a, e, hb, fun k hk => by rw [hc k (by omega), nth_left (by omega)]⟩

/-- v is a row of the call's own that reads as L; of what lay in w0 nothing has turned. -/
structure Own (w0 : World) (v : Value) (n : Nat) (L : List Nat) (wr : World) : Prop where
  row : wr.ownsRow w0.heap.size 5 1 v n (vals L)
  byt : AllB L
  bel : Below w0.heap.size w0 wr
theorem Own.len {w0 wr : World} {v : Value} {n : Nat} {L : List Nat} (h : Own w0 v n L wr) : L.length = n := by
  have := h.row.1
  rw [vals_length] at this; omega
theorem ownsRow_later {w w' : World} {base : Nat} {e : TypeId} {size : Nat} {v : Value} {n : Nat} {xs : List Value} (h : w.ownsRow base e size v n xs) (g : Below w.heap.size w w') : w'.ownsRow base e size v n xs := by
  obtain ⟨h1, h2⟩ := h
  refine ⟨h1, ?_⟩
  rcases h2 with h2 | ⟨b, cap, cur, hv, hb, hh, r⟩
  · exact Or.inl h2
  · exact Or.inr ⟨b, cap, cur, hv, hb, by rw [g.block b (Array.getElem?_eq_some_iff.1 hh).1]; exact hh, r⟩
theorem Own.later {w0 wr w1 : World} {v : Value} {n : Nat} {L : List Nat} (h : Own w0 v n L wr) (g : Below wr.heap.size wr w1) : Own w0 v n L w1 :=
  ⟨ownsRow_later h.row g, h.byt, h.bel.trans (g.mono h.bel.size)⟩
theorem Own.size {w0 wr : World} {v : Value} {n : Nat} {L : List Nat} (h : Own w0 v n L wr) : w0.heap.size ≤ wr.heap.size := h.bel.size
theorem Own.reads {w0 wr : World} {A : Option Addr} {n c : Nat} {L : List Nat} (h : Own w0 (.slice A n c) n L wr) : Bs wr A n L := by
  have hl := h.len
  refine ⟨hl, h.byt, fun hn => ?_⟩
  obtain ⟨g, cap, hv, _, hlt⟩ := h.row.form hn
  have hA : A = some ⟨g, 0, none⟩ := by injection hv
  subst hA
  exact ⟨_, rfl, hlt, fun k hk => h.row.cells (g := g) rfl k _ (vals_get L k (by omega))⟩
theorem Own.shape {w0 wr : World} {v : Value} {n : Nat} {L : List Nat} (h : Own w0 v n L wr) : ∃ A c, v = .slice A n c ∧ n ≤ c := by
  rcases h.row.2 with ⟨rfl, rfl⟩ | ⟨g, cap, cur, rfl, _, _, hc, _⟩
  · exact ⟨none, 0, rfl, Nat.le_refl _⟩
  · exact ⟨_, _, rfl, hc⟩
/-- The row's block is none of what lay in w0. -/
theorem Own.new {w0 wr : World} {v : Value} {n : Nat} {L : List Nat} (h : Own w0 v n L wr) : ∀ k, v.ownBlock = some k → w0.heap.size ≤ k ∧ k < wr.heap.size := h.row.lt
theorem Own.grown {w0 wr w1 : World} {v v' : Value} {n m : Nat} {L M : List Nat} (h : Own w0 v n L wr) (hM : AllB M) (hown : w1.ownsRow w0.heap.size 5 1 v' (n + m) (vals L ++ vals M)) (hg : wr.grownBy w1 v.ownBlock) : Own w0 v' (n + m) (L ++ M) w1 :=
  ⟨by rw [vals_append]; exact hown, h.byt.app hM, h.bel.grown hg h.bel.size (fun k hk => (h.new k hk).1)⟩
theorem Own.weaken {w0 w2 wr : World} {v : Value} {n : Nat} {L : List Nat} (h : Own w2 v n L wr) (b : Below w0.heap.size w0 w2) : Own w0 v n L wr :=
  ⟨by
    obtain ⟨h1, h2⟩ := h.row
    refine ⟨h1, ?_⟩
    rcases h2 with h2 | ⟨g, cap, cur, hv, hb, hh, r⟩
    · exact Or.inl h2
    · exact Or.inr ⟨g, cap, cur, hv, Nat.le_trans b.size hb, hh, r⟩, h.byt, b.trans (h.bel.mono b.size)⟩

/-- A list of a literal. -/
theorem Bs.lit (w : World) (L : List Nat) (h : AllB L) : Bs (w.alloc (.cells (vals L).toArray 5)) (some ⟨w.heap.size, 0, none⟩) L.length L := by
  refine ⟨rfl, h, fun _ => ⟨_, rfl, by simp, fun k hk => ?_⟩⟩
  have e : (⟨w.heap.size, 0, none⟩ : Addr).add k = ⟨w.heap.size, k, none⟩ := by unfold Addr.add; split <;> simp_all
  rw [e]
  have hh := heap_alloc_new w (.cells (vals L).toArray 5)
  unfold World.cell?
  simp only [hh]
  simpa using vals_get L k hk
theorem Bs.lit1 (w : World) {x : Nat} (h : x < 256) : Bs (w.alloc (.cells #[.int .u8 (x : Int)] 5)) (some ⟨w.heap.size, 0, none⟩) 1 [x] := Bs.lit w [x] (allB_one h)
/-- A new row, empty, of whatever capacity. -/
theorem Own.made {w0 w : World} (b : Below w0.heap.size w0 w) (cur : Array Value) (cap : Nat) (hm : cap ≤ maxLen) (hs : cur.size = cap) :
    Own w0 (.slice (some ⟨w.heap.size, 0, none⟩) 0 cap) 0 [] (w.alloc (.cells cur 5)) :=
  ⟨World.ownsRow_made w cur cap b.size hm (by omega), allB_nil, b.alloc b.size _⟩
theorem Own.full {w0 w : World} (b : Below w0.heap.size w0 w) (L : List Nat) (hL : AllB L) (cap : Nat) (hm : cap ≤ maxLen) (cur : Array Value) (hs : cur.size = cap) (hn : L.length ≤ cap) (ht : cur.toList.take L.length = vals L)
    {g : Nat} (hg : w0.heap.size ≤ g) (hw : w.heap[g]? = some (.cells cur 5 (0, 0))) :
    Own w0 (.slice (some ⟨g, 0, none⟩) L.length cap) L.length L w :=
  ⟨⟨by rw [vals_length]; omega, .inr ⟨g, cap, cur, rfl, hg, hw, hn, hm, by omega, by simpa using ht⟩⟩, hL, b⟩

section
variable {w0 w : World} {ops : Array Oper} {rest : List Oper} {o : Oper} {a : Act} {Q : Exit → Act → World → Prop}
/-- append onto a row of the call's own. -/
theorem wp_app {K : Act → World → Prop} (s x : Operand) (ho : o.op = .call { callee := .builtin .append, args := #[s, x], argTypes := #[39, 39] })
    {v : Value} {n : Nat} {L : List Nat} (hs : a.eval s = v) (hown : Own w0 v n L w) {A : Option Addr} {m c : Nat} {M : List Nat} (hx : a.eval x = .slice A m c) (hr : Bs w A m M) (hlen : n + m ≤ 1099511627776)
    (h : ∀ A' c' w', n + m ≤ c' → Own w0 (.slice A' (n + m) c') (n + m) (L ++ M) w' → w.grownBy w' v.ownBlock → K (a.put o.dst (.slice A' (n + m) c')) w') : o.wp Tryz.prog a w K Q := by
  obtain ⟨i0, hi, hz0, hz1, hz2⟩ := info_parts Tryz.infoByte
  have key : ∀ v' w', Own w0 v' (n + m) (L ++ M) w' → w.grownBy w' v.ownBlock → K (a.put o.dst v') w' := fun v' w' h1 h2 => by
    obtain ⟨A', c', rfl, hc⟩ := h1.shape
    exact h A' c' w' hc h1 h2
  have hsz := hown.size
  rcases A with _ | ad
  · obtain rfl : m = 0 := by
      rcases Nat.eq_zero_or_pos m with h0 | h0
      · exact h0
      · obtain ⟨_, e, _⟩ := hr.cel h0
        cases e
    obtain rfl : M = [] := List.eq_nil_of_length_eq_zero hr.len
    have hrun : (Builtin.append_ #[39, 39] o.type #[v, .slice none 0 c]).run Tryz.prog w = .ok v w := by
      rcases hown.row.2 with ⟨rfl, rfl⟩ | ⟨g, cap, cur, rfl, _, _, hnc, _⟩
      · simp [Builtin.append_, run_underlying Tryz.underlying39, sizeOf, typeInfo, hi, Builtin.lenOf, Builtin.firstCells]
      · simp [Builtin.append_, run_underlying Tryz.underlying39, sizeOf, typeInfo, hi, Builtin.lenOf, Builtin.firstCells, hnc, storeCells]
    unfold Oper.wp
    simp [execOp, ho, resolve, invoke, builtin, hs, hx, hrun, Result.andThen]
    exact key v w (by simpa using hown) (World.grownBy.refl _ _)
  · refine wp_append_own w s x 39 ho w0.heap.size 5 i0 (.int .u8 0) 1 1 Tryz.underlying39 hi hz0 hz1 hz2 rfl (by decide) v n (vals L) hs hown.row ad m c (vals M) hx (by rw [vals_length, hr.len]; omega) hr.cells (vals_one M) (by unfold maxLen; omega) (by omega) hsz ?_
    intro v' w' h1 h2 _
    exact key v' w' (hown.grown hr.byt h1 h2) h2
theorem wpList_app (hgd : o.guard = none) (s x : Operand) (ho : o.op = .call { callee := .builtin .append, args := #[s, x], argTypes := #[39, 39] })
    {v : Value} {n : Nat} {L : List Nat} (hs : a.eval s = v) (hown : Own w0 v n L w) {A : Option Addr} {m c : Nat} {M : List Nat} (hx : a.eval x = .slice A m c) (hr : Bs w A m M) (hlen : n + m ≤ 1099511627776)
    (h : ∀ A' c' w', n + m ≤ c' → Own w0 (.slice A' (n + m) c') (n + m) (L ++ M) w' → w.grownBy w' v.ownBlock → wpList Tryz.prog ops Q rest (a.put o.dst (.slice A' (n + m) c')) w') : wpList Tryz.prog ops Q (o :: rest) a w :=
  wpList_plain hgd fun _ hK => wp_app s x ho hs hown hx hr hlen fun A' c' w' h1 h2 h3 => hK _ _ (h A' c' w' h1 h2 h3)
theorem step_app {K : Act → World → Prop} {E : Prop} (hgd : o.guard = none) (s x : Operand) (ho : o.op = .call { callee := .builtin .append, args := #[s, x], argTypes := #[39, 39] })
    {v : Value} {n : Nat} {L : List Nat} (hs : a.eval s = v) (hown : Own w0 v n L w) {A : Option Addr} {m c : Nat} {M : List Nat} (hx : a.eval x = .slice A m c) (hr : Bs w A m M) (hlen : n + m ≤ 1099511627776)
    (h : ∀ A' c' w', n + m ≤ c' → Own w0 (.slice A' (n + m) c') (n + m) (L ++ M) w' → w.grownBy w' v.ownBlock → K (a.put o.dst (.slice A' (n + m) c')) w') :
    if Region.wanted o (yielded ops a.tmps) = true then Oper.wp Tryz.prog o a w K Q else E := by
  have hw : Region.wanted o (yielded ops a.tmps) = true := by simp [Region.wanted, hgd]
  rw [if_pos hw]
  exact wp_app s x ho hs hown hx hr hlen h
theorem wpList_app_eq (hgd : o.guard = none) (s x : Operand) (ho : o.op = .call { callee := .builtin .append, args := #[s, x], argTypes := #[39, 39] })
    {v : Value} {n : Nat} {L : List Nat} (hs : a.eval s = v) (hown : Own w0 v n L w) {A : Option Addr} {m m' c : Nat} {M : List Nat} (hx : a.eval x = .slice A m' c) (e : m' = m) (hr : Bs w A m M) (hlen : n + m ≤ 1099511627776)
    (h : ∀ A' c' w', n + m ≤ c' → Own w0 (.slice A' (n + m) c') (n + m) (L ++ M) w' → w.grownBy w' v.ownBlock → wpList Tryz.prog ops Q rest (a.put o.dst (.slice A' (n + m) c')) w') : wpList Tryz.prog ops Q (o :: rest) a w := by
  subst e; exact wpList_app hgd s x ho hs hown hx hr hlen h
end

theorem ret_int {k : IntKind} {a b : Int} (h : a = b) : Ending.returned (.int k a) = .returned (.int k b) := by rw [h]

/-- What a function returns that gives bytes in memory of its own. -/
def GivesB (w : World) (L : List Nat) (e : Ending) (w' : World) : Prop := ∃ A n c, e = .returned (.slice A n c) ∧ n ≤ c ∧ Own w (.slice A n c) n L w'

end Go.Proofs.YtimjmmiajgfblaaGreatDoor

/- What a retarget comes to: numbers only. No memory. No condition. -/
namespace Go.Proofs.YtimjmmiajgfblaaGreatDoor

/-- A number times n by m: by the quotient and the rest apart. -/
theorem by_parts (t s w : Nat) (hw : 0 < w) : t / w * s + t % w * s / w = t * s / w := by
  have h : t * s = w * (t / w * s) + t % w * s := by
    have h0 := Nat.div_add_mod t w
    calc t * s = (w * (t / w) + t % w) * s := by rw [h0]
      _ = w * (t / w * s) + t % w * s := by rw [Nat.add_mul, Nat.mul_assoc]
  rw [h, Nat.mul_add_div hw]
/-- What the rest gives, is below what the whole is multiplied by. -/
theorem rest_lt (t s w : Nat) (hw : 0 < w) : t % w * s / w ≤ s := by
  have h0 := Nat.mod_lt t hw
  rw [Nat.div_le_iff_le_mul_add_pred hw]
  have : t % w * s ≤ w * s := Nat.mul_le_mul_right s (Nat.le_of_lt h0)
  have h1 : w * s = s * w := Nat.mul_comm ..
  omega
/-- The next target: so much of the old one, at most the limit, and never 0. -/
def nextN (old span want most : Nat) : Nat :=
  if most < old * span / want then most else if old * span / want = 0 then 1 else old * span / want
theorem nextN_pos {old span want most : Nat} (h : 0 < most) : 0 < nextN old span want most := by
  unfold nextN
  split
  · exact h
  · split
    · omega
    · rename_i h0
      exact Nat.pos_of_ne_zero h0
theorem nextN_le {old span want most : Nat} (h : 0 < most) : nextN old span want most ≤ most := by
  unfold nextN
  split
  · exact Nat.le_refl _
  · split <;> omega
/-- No more than four times the old one. -/
theorem nextN_most {old span want most : Nat} (ho : 0 < old) (hs : span ≤ 4 * want) : nextN old span want most ≤ 4 * old := by
  have h : old * span / want ≤ 4 * old := by
    refine Nat.div_le_of_le_mul ?_
    calc old * span ≤ old * (4 * want) := Nat.mul_le_mul_left _ hs
      _ = want * (4 * old) := by rw [Nat.mul_comm 4 want, ← Nat.mul_assoc, Nat.mul_comm old want, Nat.mul_assoc, Nat.mul_comm old 4]
  unfold nextN
  split
  · omega
  · split <;> omega
/-- Not less than a quarter of it, but for what is cut. -/
theorem nextN_least {old span want most t : Nat} (hw : 40 ≤ want) (hm : old ≤ most) (hs : want / 4 ≤ span)
    (hc : 32768 * (nextN old span want most - t) ≤ nextN old span want most) : old ≤ t * 5 + 400 := by
  have hp : 0 < want := by omega
  have h1 : 37 * want ≤ 160 * span := by omega
  have h2 : old * span < (old * span / want + 1) * want := by
    have := Nat.lt_mul_div_succ (old * span) hp
    rwa [Nat.mul_comm want] at this
  have h3 : 37 * old < 160 * (old * span / want + 1) := by
    refine Nat.lt_of_mul_lt_mul_right (a := want) ?_
    calc 37 * old * want = old * (37 * want) := by rw [Nat.mul_comm 37 old, Nat.mul_assoc]
      _ ≤ old * (160 * span) := Nat.mul_le_mul_left _ h1
      _ = 160 * (old * span) := by rw [← Nat.mul_assoc, Nat.mul_comm old 160, Nat.mul_assoc]
      _ < 160 * ((old * span / want + 1) * want) := Nat.mul_lt_mul_of_pos_left h2 (by omega)
      _ = 160 * (old * span / want + 1) * want := by rw [Nat.mul_assoc]
  revert hc
  unfold nextN
  generalize old * span / want = s at h3
  split
  · omega
  · split <;> omega
/-- What is cut of a number whose highest bytes are kept, three at least but for a bit. -/
theorem cut_small {v L nb : Nat} (hL : L = 8 * (nb / 8 - 2)) (h : 2 ^ (nb - 1) ≤ v) (h1 : 1 ≤ nb) : 32768 * (v - v / 2 ^ L * 2 ^ L) ≤ v := by
  have h0 : v - v / 2 ^ L * 2 ^ L = v % 2 ^ L := by
    have := Nat.div_add_mod v (2 ^ L)
    rw [Nat.mul_comm] at this
    omega
  rw [h0]
  by_cases hz : nb / 8 ≤ 2
  · have : L = 0 := by omega
    subst this
    simp [Nat.mod_one]
  · have h2 : v % 2 ^ L < 2 ^ L := Nat.mod_lt _ (Nat.two_pow_pos _)
    have h3 : 2 ^ (L + 15) ≤ 2 ^ (nb - 1) := Nat.pow_le_pow_right (by omega) (by omega)
    rw [Nat.pow_add] at h3
    omega
/-- The span of an interval between its quarter and its fourfold. -/
theorem clamp_span {want span : Int} (hw : 0 ≤ want) : want / 4 ≤ min (max span (want / 4)) (4 * want) ∧ min (max span (want / 4)) (4 * want) ≤ 4 * want := by
  omega

end Go.Proofs.YtimjmmiajgfblaaGreatDoor

/- Numbers sorted by insertion. No memory. No condition. -/
namespace Go.Proofs.YtimjmmiajgfblaaGreatDoor

/-- x put behind all that are not greater. -/
def ins (x : Nat) : List Nat → List Nat
  | [] => [x]
  | y :: l => if x < y then x :: y :: l else y :: ins x l
def srt (l : List Nat) : List Nat := l.foldl (fun a x => ins x a) []
theorem ins_len (x : Nat) : ∀ l, (ins x l).length = l.length + 1
  | [] => rfl
  | y :: l => by
    rw [ins]
    split
    · rfl
    · rw [List.length_cons, ins_len x l, List.length_cons]
theorem srt_snoc (l : List Nat) (x : Nat) : srt (l ++ [x]) = ins x (srt l) := by
  unfold srt
  rw [List.foldl_append]
  rfl
theorem srt_len (l : List Nat) : (srt l).length = l.length := by
  have key : ∀ (l a : List Nat), (l.foldl (fun a x => ins x a) a).length = a.length + l.length := by
    intro l
    induction l with
    | nil => intro a; rfl
    | cons x l ih =>
      intro a
      rw [List.foldl_cons, ih, ins_len, List.length_cons]
      omega
  unfold srt
  rw [key]
  simp
/-- No element is greater than one behind it. -/
def Up : List Nat → Prop
  | [] => True
  | x :: l => (∀ y ∈ l, x ≤ y) ∧ Up l
theorem ins_mem (x z : Nat) : ∀ {l : List Nat}, z ∈ ins x l ↔ z = x ∨ z ∈ l
  | [] => by simp [ins]
  | y :: l => by
    rw [ins]
    split
    · simp
    · rw [List.mem_cons, ins_mem x z, List.mem_cons]
      constructor
      · rintro (h | h | h)
        · exact .inr (.inl h)
        · exact .inl h
        · exact .inr (.inr h)
      · rintro (h | h | h)
        · exact .inr (.inl h)
        · exact .inl h
        · exact .inr (.inr h)
theorem ins_up (x : Nat) : ∀ {l : List Nat}, Up l → Up (ins x l)
  | [], _ => ⟨fun y hy => (by cases hy), trivial⟩
  | y :: l, h => by
    rw [ins]
    split
    · rename_i hx
      refine ⟨fun z hz => ?_, h⟩
      rcases List.mem_cons.1 hz with rfl | hz
      · omega
      · have := h.1 z hz
        omega
    · rename_i hx
      refine ⟨fun z hz => ?_, ins_up x h.2⟩
      rcases (ins_mem x z).1 hz with rfl | hz
      · omega
      · exact h.1 z hz
theorem srt_up (l : List Nat) : Up (srt l) := by
  have key : ∀ (l a : List Nat), Up a → Up (l.foldl (fun a x => ins x a) a) := by
    intro l
    induction l with
    | nil => intro a h; exact h
    | cons x l ih => intro a h; exact ih _ (ins_up x h)
  exact key l [] trivial
theorem srt_mem (z : Nat) (l : List Nat) : z ∈ srt l ↔ z ∈ l := by
  have key : ∀ (l a : List Nat), z ∈ l.foldl (fun a x => ins x a) a ↔ z ∈ l ∨ z ∈ a := by
    intro l
    induction l with
    | nil => intro a; simp
    | cons x l ih =>
      intro a
      rw [List.foldl_cons, ih, ins_mem, List.mem_cons]
      constructor
      · rintro (h | h | h)
        · exact .inl (.inr h)
        · exact .inl (.inl h)
        · exact .inr h
      · rintro ((h | h) | h)
        · exact .inr (.inl h)
        · exact .inl h
        · exact .inr (.inr h)
  unfold srt
  rw [key]
  simp
/-- Where x stops is where it belongs. -/
theorem ins_at {x : Nat} : ∀ {l : List Nat} {j : Nat}, j ≤ l.length → Up l → (∀ y ∈ l.drop j, x < y) → (0 < j → ∀ h2 : j - 1 < l.length, l[j - 1] ≤ x) → l.take j ++ x :: l.drop j = ins x l
  | [], j, hj, _, _, _ => by
    have : j = 0 := by simpa using hj
    subst this
    rfl
  | y :: l, 0, _, _, hd, _ => by
    rw [List.take_zero, List.drop_zero, List.nil_append, ins, if_pos (hd y (List.mem_cons_self ..))]
  | y :: l, j + 1, hj, hu, hd, hs => by
    have hyx : y ≤ x := by
      by_cases h0 : j = 0
      · subst h0
        exact hs (by omega) (by simp)
      · have h1 := hs (by omega) (by simp at hj ⊢; omega)
        have h2 : (y :: l)[j + 1 - 1]'(by simp at hj ⊢; omega) ∈ l := by
          obtain ⟨k, rfl⟩ : ∃ k, j = k + 1 := ⟨j - 1, by omega⟩
          simp
        have := hu.1 _ h2
        omega
    rw [List.take_succ_cons, List.drop_succ_cons, List.cons_append, ins, if_neg (by omega)]
    congr 1
    refine ins_at (by simpa using hj) hu.2 (by simpa using hd) fun h h2 => ?_
    have := hs (by omega) (by simp; omega)
    obtain ⟨k, rfl⟩ : ∃ k, j = k + 1 := ⟨j - 1, by omega⟩
    simpa using this
/-- The number in the middle. -/
def midS (l : List Nat) : Nat := (srt l).getD (l.length / 2) 0
end Go.Proofs.YtimjmmiajgfblaaGreatDoor

/- The middle of sorted numbers: no more than half are less, no more than half are greater. No memory. No condition. -/
namespace Go.Proofs.YtimjmmiajgfblaaGreatDoor

theorem ins_perm (x : Nat) : ∀ l : List Nat, (ins x l).Perm (x :: l)
  | [] => .refl _
  | y :: l => by
    rw [ins]
    split
    · exact .refl _
    · exact ((ins_perm x l).cons y).trans (.swap x y l)
theorem srt_perm (l : List Nat) : (srt l).Perm l := by
  have key : ∀ (l a : List Nat), (l.foldl (fun a x => ins x a) a).Perm (a ++ l) := by
    intro l
    induction l with
    | nil => intro a; rw [List.append_nil]; exact .refl _
    | cons x l ih =>
      intro a
      refine (ih (ins x a)).trans ?_
      refine ((ins_perm x a).append_right l).trans ?_
      exact List.perm_middle.symm
  have := key l []
  rwa [List.nil_append] at this
/-- Two rows in order of the same numbers are one row. -/
theorem up_eq : ∀ {l m : List Nat}, Up l → Up m → l.Perm m → l = m
  | [], m, _, _, h => (List.nil_perm.1 h).symm
  | x :: l, [], _, _, h => absurd h.symm (by simp)
  | x :: l, y :: m, hl, hm, h => by
    have h1 : x ≤ y := by
      rcases List.mem_cons.1 (h.symm.subset (List.mem_cons_self ..)) with e | e
      · omega
      · exact hl.1 _ e
    have h2 : y ≤ x := by
      rcases List.mem_cons.1 (h.subset (List.mem_cons_self ..)) with e | e
      · omega
      · exact hm.1 _ e
    obtain rfl : x = y := by omega
    rw [up_eq hl.2 hm.2 ((List.perm_cons x).1 h)]
theorem srt_same {l m : List Nat} (h : l.Perm m) : srt l = srt m := up_eq (srt_up l) (srt_up m) ((srt_perm l).trans (h.trans (srt_perm m).symm))
/-- In a row in order what is less than its k-th stands ahead of that, and what is greater behind it. -/
theorem up_less : ∀ {l : List Nat} {k : Nat} (hk : k < l.length), Up l → (l.filter fun y => decide (y < l[k])).length ≤ k
  | x :: l, 0, _, hu => by
    have : ∀ y ∈ x :: l, ¬ decide (y < x) = true := fun y hy => by
      rcases List.mem_cons.1 hy with e | e
      · simp [e]
      · have := hu.1 y e
        simp
        omega
    rw [List.getElem_cons_zero, List.filter_eq_nil_iff.2 this]
    exact Nat.le_refl _
  | x :: l, k + 1, hk, hu => by
    have e := up_less (l := l) (k := k) (by simpa using hk) hu.2
    rw [List.getElem_cons_succ, List.filter_cons]
    split
    · rw [List.length_cons]; omega
    · omega
theorem up_more : ∀ {l : List Nat} {k : Nat} (hk : k < l.length), Up l → (l.filter fun y => decide (l[k] < y)).length ≤ l.length - 1 - k
  | x :: l, 0, _, hu => by
    rw [List.getElem_cons_zero, List.filter_cons, if_neg (by simp)]
    have := List.length_filter_le (fun y => decide (x < y)) l
    rw [List.length_cons]
    omega
  | x :: l, k + 1, hk, hu => by
    have hk' : k < l.length := by simpa using hk
    have e := up_more (l := l) (k := k) hk' hu.2
    rw [List.getElem_cons_succ, List.filter_cons, if_neg (by have := hu.1 l[k] (List.getElem_mem hk'); simp; omega), List.length_cons]
    omega
theorem mid_in {l : List Nat} (h : 0 < l.length) : midS l ∈ l := by
  have hk : l.length / 2 < (srt l).length := by rw [srt_len]; omega
  have : midS l = (srt l)[l.length / 2] := by simp [midS, hk]
  rw [this]
  exact (srt_mem _ l).1 (List.getElem_mem hk)
theorem mid_less {l : List Nat} (h : 0 < l.length) : (l.filter fun y => decide (y < midS l)).length ≤ l.length / 2 := by
  have hk : l.length / 2 < (srt l).length := by rw [srt_len]; omega
  have e : midS l = (srt l)[l.length / 2] := by simp [midS, hk]
  have := up_less hk (srt_up l)
  rw [← e] at this
  rwa [((srt_perm l).filter _).length_eq] at this
theorem mid_more {l : List Nat} (h : 0 < l.length) : (l.filter fun y => decide (midS l < y)).length ≤ l.length / 2 := by
  have hk : l.length / 2 < (srt l).length := by rw [srt_len]; omega
  have e : midS l = (srt l)[l.length / 2] := by simp [midS, hk]
  have := up_more hk (srt_up l)
  rw [← e, ((srt_perm l).filter _).length_eq, srt_len] at this
  omega
/-- The last eleven of two rows are those of the second one, if that has eleven. -/
theorem last_app {l m : List Nat} {n : Nat} (h : n ≤ l.length) : (m ++ l).drop ((m ++ l).length - n) = l.drop (l.length - n) := by
  rw [List.length_append, show m.length + l.length - n = m.length + (l.length - n) by omega, ← List.drop_drop, List.drop_left]

end Go.Proofs.YtimjmmiajgfblaaGreatDoor

/- A retarget reckoned by quotient and rest. No memory. No condition. -/
namespace Go.Proofs.YtimjmmiajgfblaaGreatDoor

/-- So much of a number, at most another one. -/
def partN (old span want most : Nat) : Nat := if most < old * span / want then most else old * span / want
theorem nextN_part {old span want most : Nat} (h : 0 < most) : nextN old span want most = if partN old span want most = 0 then 1 else partN old span want most := by
  unfold nextN partN
  by_cases h1 : most < old * span / want
  · rw [if_pos h1, if_pos h1, if_neg (by omega)]
  · rw [if_neg h1, if_neg h1]
section
variable {T S W M q r p x l z : Nat}
/-- What comes out where the product is beyond. -/
theorem part_over (hW : 0 < W) (hM : M < 115792089237316195423570985008687907853269984665640564039457584007913129639936) (hq : q = T / W) (hp : p + 115792089237316195423570985008687907853269984665640564039457584007913129639936 * x = q * S) (hx : x ≠ 0) : partN T S W M = M := by
  have e := by_parts T S W hW
  rw [← hq] at e
  unfold partN
  rw [if_pos]
  rw [← e]
  have : q * S ≥ 115792089237316195423570985008687907853269984665640564039457584007913129639936 := by
    rw [← hp]
    have : 1 ≤ x := by omega
    omega
  generalize T % W * S / W = y
  omega
theorem part_carry (hW : 0 < W) (hM : M < 115792089237316195423570985008687907853269984665640564039457584007913129639936) (hq : q = T / W) (hr : r = T % W) (hp : p = q * S) (hl : l = r * S / W) (hc : 115792089237316195423570985008687907853269984665640564039457584007913129639936 ≤ p + l) : partN T S W M = M := by
  have e := by_parts T S W hW
  rw [← hq, ← hr, ← hl, ← hp] at e
  unfold partN
  rw [← e, if_pos (by omega)]
theorem part_sum (hW : 0 < W) (hq : q = T / W) (hr : r = T % W) (hp : p = q * S) (hl : l = r * S / W) : partN T S W M = if M < p + l then M else p + l := by
  have e := by_parts T S W hW
  rw [← hq, ← hr, ← hl, ← hp] at e
  unfold partN
  rw [← e]
end
/-- The span between its bounds. -/
theorem clampN {want span : Int} (hw : 0 ≤ want) : 0 ≤ min (max span (want / 4)) (want * 4) ∧ min (max span (want / 4)) (want * 4) ≤ 4 * want := by
  omega
end Go.Proofs.YtimjmmiajgfblaaGreatDoor
