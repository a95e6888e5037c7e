/- Lists of words of 32 bits in memory, as XB has them for bytes. No condition. -/
import Derived.Test.YtipbpecihbmneaaDoorArr
namespace Go.Proofs.YtipbpecihbmneaaDoor
open Go.RowKit

theorem Tryd.infoWord : (Tryd.prog.info? 46).map (fun i => (i.zero, i.size, i.bytes)) = some (some (.int .u32 0), 1, 4) := by kernel_rfl
def AllW (_ : List Nat) : Prop := True
theorem AllW.app {L M : List Nat} (_ : AllW L) (_ : AllW M) : AllW (L ++ M) := trivial
theorem AllW.left {L M : List Nat} (_ : AllW (L ++ M)) : AllW L := trivial
theorem allW_nil : AllW [] := trivial
theorem allW_one {x : Nat} (_ : x < 4294967296) : AllW [x] := trivial
theorem u32s_append (L M : List Nat) : u32s (L ++ M) = u32s L ++ u32s M := by simp [u32s]
theorem u32s_get? {L : List Nat} {k : Nat} {u : Value} (h : (u32s L)[k]? = some u) : k < L.length ∧ u = .int .u32 (nth L k : Nat) := by
  have hk : k < L.length := by have := (List.getElem?_eq_some_iff.1 h).1; rwa [u32s_len] at this
  rw [u32s_get L k hk] at h
  exact ⟨hk, (Option.some.inj h).symm⟩

/-- A slice at A of n elements reads as the bytes L. -/
structure Ws (w : World) (A : Option Addr) (n : Nat) (L : List Nat) : Prop where
  len : L.length = n
  byt : AllW L
  cel : 0 < n → ∃ a, A = some a ∧ a.block < w.heap.size ∧ ∀ k, k < n → w.cell? (a.add k) = some (.int .u32 (nth L k : Nat))
theorem Ws.nil (w : World) (A : Option Addr) : Ws w A 0 [] := ⟨rfl, allW_nil, fun h => absurd h (by omega)⟩
theorem Ws.later {w w1 : World} {A : Option Addr} {n : Nat} {L : List Nat} (h : Ws w A n L) (g : Below w.heap.size w w1) : Ws w1 A n L :=
  ⟨h.len, h.byt, fun hn => by
    obtain ⟨a, e, hb, hc⟩ := h.cel hn
    exact ⟨a, e, Nat.lt_of_lt_of_le hb g.size, fun k hk => by rw [← hc k hk]; exact g.cell (by rw [add_block]; exact hb)⟩⟩
theorem Ws.far {w w1 : World} {A : Option Addr} {n : Nat} {L : List Nat} {row : Option Nat} (h : Ws w A n L) (g : w.grownBy w1 row) (hr : ∀ a, A = some a → some a.block ≠ row) : Ws w1 A n L :=
  ⟨h.len, h.byt, fun hn => by
    obtain ⟨a, e, hb, hc⟩ := h.cel hn
    exact ⟨a, e, Nat.lt_of_lt_of_le hb g.size, fun k hk => g.cell (hc k hk) (by rw [add_block]; exact hr a e)⟩⟩
theorem Ws.cells {w : World} {a : Addr} {n : Nat} {L : List Nat} (h : Ws w (some a) n L) : ∀ j u, (u32s L)[j]? = some u → w.cell? (a.add j) = some u := by
  intro j u hu
  obtain ⟨hj, rfl⟩ := u32s_get? hu
  have hl := h.len
  obtain ⟨b, e, _, hc⟩ := h.cel (by omega)
  injection e with e
  subst e
  exact hc j (by omega)
/-- A part of a slice, from k on, m long, as the walk spells its address. -/
theorem Ws.cut {w : World} {A : Option Addr} {n c : Nat} {L : List Nat} (h : Ws w A n L) {k m : Nat} (hk : k + m ≤ n) (hc : n ≤ c) :
    Ws w (if c = k then A else A.map (·.add k)) m ((L.drop k).take m) := by
  have hl := h.len
  refine ⟨by simp; omega, trivial, fun hm => ?_⟩
  obtain ⟨a, rfl, hb, hcel⟩ := h.cel (by omega)
  rw [if_neg (by omega)]
  refine ⟨a.add k, rfl, by rw [add_block]; exact hb, fun j hj => ?_⟩
  rw [add_add', hcel (k + j) (by omega)]
  have : nth ((L.drop k).take m) j = nth L (k + j) := by
    simp [nth, List.getD, hj]
  rw [this]
theorem Ws.head {w : World} {A : Option Addr} {n : Nat} {L M : List Nat} (h : Ws w A n (L ++ M)) {m : Nat} (hm : L.length = m) : Ws w A m L := by
  have hl := h.len
  rw [List.length_append] at hl
  refine ⟨hm, h.byt.left, fun hp => ?_⟩
  obtain ⟨a, e, hb, hc⟩ := h.cel (by omega)
  exact ⟨a, e, hb, fun k hk => by rw [hc k (by omega), nth_left (by omega)]⟩

/-- v is a row of the call's own that reads as L; of what lay in w0 nothing has turned. -/
structure Wn (w0 : World) (v : Value) (n : Nat) (L : List Nat) (wr : World) : Prop where
  row : wr.ownsRow w0.heap.size 46 1 v n (u32s L)
  byt : AllW L
  bel : Below w0.heap.size w0 wr
theorem Wn.len {w0 wr : World} {v : Value} {n : Nat} {L : List Nat} (h : Wn w0 v n L wr) : L.length = n := by
  have := h.row.1
  rw [u32s_len] at this; omega
theorem Wn.later {w0 wr w1 : World} {v : Value} {n : Nat} {L : List Nat} (h : Wn w0 v n L wr) (g : Below wr.heap.size wr w1) : Wn w0 v n L w1 :=
  ⟨ownsRow_later h.row g, h.byt, h.bel.trans (g.mono h.bel.size)⟩
theorem Wn.size {w0 wr : World} {v : Value} {n : Nat} {L : List Nat} (h : Wn w0 v n L wr) : w0.heap.size ≤ wr.heap.size := h.bel.size
theorem Wn.reads {w0 wr : World} {A : Option Addr} {n c : Nat} {L : List Nat} (h : Wn w0 (.slice A n c) n L wr) : Ws wr A n L := by
  have hl := h.len
  refine ⟨hl, h.byt, fun hn => ?_⟩
  obtain ⟨g, cap, hv, _, hlt⟩ := h.row.form hn
  have hA : A = some ⟨g, 0, none⟩ := by injection hv
  subst hA
  exact ⟨_, rfl, hlt, fun k hk => h.row.cells (g := g) rfl k _ (u32s_get L k (by omega))⟩
theorem Wn.shape {w0 wr : World} {v : Value} {n : Nat} {L : List Nat} (h : Wn w0 v n L wr) : ∃ A c, v = .slice A n c ∧ n ≤ c := by
  rcases h.row.2 with ⟨rfl, rfl⟩ | ⟨g, cap, cur, rfl, _, _, hc, _⟩
  · exact ⟨none, 0, rfl, Nat.le_refl _⟩
  · exact ⟨_, _, rfl, hc⟩
/-- The row's block is none of what lay in w0. -/
theorem Wn.new {w0 wr : World} {v : Value} {n : Nat} {L : List Nat} (h : Wn w0 v n L wr) : ∀ k, v.ownBlock = some k → w0.heap.size ≤ k ∧ k < wr.heap.size := h.row.lt
theorem Wn.grown {w0 wr w1 : World} {v v' : Value} {n m : Nat} {L M : List Nat} (h : Wn w0 v n L wr) (hM : AllW M) (hown : w1.ownsRow w0.heap.size 46 1 v' (n + m) (u32s L ++ u32s M)) (hg : wr.grownBy w1 v.ownBlock) : Wn w0 v' (n + m) (L ++ M) w1 :=
  ⟨by rw [u32s_append]; exact hown, h.byt.app hM, h.bel.grown hg h.bel.size (fun k hk => (h.new k hk).1)⟩
theorem Wn.weaken {w0 w2 wr : World} {v : Value} {n : Nat} {L : List Nat} (h : Wn w2 v n L wr) (b : Below w0.heap.size w0 w2) : Wn w0 v n L wr :=
  ⟨by
    obtain ⟨h1, h2⟩ := h.row
    refine ⟨h1, ?_⟩
    rcases h2 with h2 | ⟨g, cap, cur, hv, hb, hh, r⟩
    · exact Or.inl h2
    · exact Or.inr ⟨g, cap, cur, hv, Nat.le_trans b.size hb, hh, r⟩, h.byt, b.trans (h.bel.mono b.size)⟩

/-- A list of a literal. -/
theorem Ws.lit (w : World) (L : List Nat) (h : AllW L) : Ws (w.alloc (.cells (u32s L).toArray 46)) (some ⟨w.heap.size, 0, none⟩) L.length L := by
  refine ⟨rfl, h, fun _ => ⟨_, rfl, by simp, fun k hk => ?_⟩⟩
  have e : (⟨w.heap.size, 0, none⟩ : Addr).add k = ⟨w.heap.size, k, none⟩ := by unfold Addr.add; split <;> simp_all
  rw [e]
  have hh := heap_alloc_new w (.cells (u32s L).toArray 46)
  unfold World.cell?
  simp only [hh]
  simpa using u32s_get L k hk
theorem Ws.lit1 (w : World) {x : Nat} (h : x < 4294967296) : Ws (w.alloc (.cells #[.int .u32 (x : Int)] 46)) (some ⟨w.heap.size, 0, none⟩) 1 [x] := Ws.lit w [x] (allW_one h)
/-- A new row, empty, of whatever capacity. -/
theorem Wn.made {w0 w : World} (b : Below w0.heap.size w0 w) (cur : Array Value) (cap : Nat) (hm : cap ≤ maxLen) (hs : cur.size = cap) :
    Wn w0 (.slice (some ⟨w.heap.size, 0, none⟩) 0 cap) 0 [] (w.alloc (.cells cur 46)) :=
  ⟨World.ownsRow_made w cur cap b.size hm (by omega), allW_nil, b.alloc b.size _⟩
theorem Wn.full {w0 w : World} (b : Below w0.heap.size w0 w) (L : List Nat) (hL : AllW L) (cap : Nat) (hm : cap ≤ maxLen) (cur : Array Value) (hs : cur.size = cap) (hn : L.length ≤ cap) (ht : cur.toList.take L.length = u32s L)
    {g : Nat} (hg : w0.heap.size ≤ g) (hw : w.heap[g]? = some (.cells cur 46 (0, 0))) :
    Wn w0 (.slice (some ⟨g, 0, none⟩) L.length cap) L.length L w :=
  ⟨⟨by rw [u32s_len]; omega, .inr ⟨g, cap, cur, rfl, hg, hw, hn, hm, by omega, by simpa using ht⟩⟩, hL, b⟩

section
variable {w0 w : World} {ops : Array Oper} {rest : List Oper} {o : Oper} {a : Act} {Q : Exit → Act → World → Prop}
/-- append onto a row of the call's own. -/
theorem wp_appw {K : Act → World → Prop} (s x : Operand) (ho : o.op = .call { callee := .builtin .append, args := #[s, x], argTypes := #[47, 47] })
    {v : Value} {n : Nat} {L : List Nat} (hs : a.eval s = v) (hown : Wn w0 v n L w) {A : Option Addr} {m c : Nat} {M : List Nat} (hx : a.eval x = .slice A m c) (hr : Ws w A m M) (hlen : n + m ≤ 1099511627776)
    (h : ∀ A' c' w', n + m ≤ c' → Wn w0 (.slice A' (n + m) c') (n + m) (L ++ M) w' → w.grownBy w' v.ownBlock → K (a.put o.dst (.slice A' (n + m) c')) w') : o.wp Tryd.prog a w K Q := by
  obtain ⟨i0, hi, hz0, hz1, hz2⟩ := info_parts Tryd.infoWord
  have key : ∀ v' w', Wn w0 v' (n + m) (L ++ M) w' → w.grownBy w' v.ownBlock → K (a.put o.dst v') w' := fun v' w' h1 h2 => by
    obtain ⟨A', c', rfl, hc⟩ := h1.shape
    exact h A' c' w' hc h1 h2
  have hsz := hown.size
  rcases A with _ | ad
  · obtain rfl : m = 0 := by
      rcases Nat.eq_zero_or_pos m with h0 | h0
      · exact h0
      · obtain ⟨_, e, _⟩ := hr.cel h0
        cases e
    obtain rfl : M = [] := List.eq_nil_of_length_eq_zero hr.len
    have hrun : (Builtin.append_ #[47, 47] o.type #[v, .slice none 0 c]).run Tryd.prog w = .ok v w := by
      rcases hown.row.2 with ⟨rfl, rfl⟩ | ⟨g, cap, cur, rfl, _, _, hnc, _⟩
      · simp [Builtin.append_, run_underlying Tryd.underlying47, sizeOf, typeInfo, hi, Builtin.lenOf, Builtin.firstCells]
      · simp [Builtin.append_, run_underlying Tryd.underlying47, sizeOf, typeInfo, hi, Builtin.lenOf, Builtin.firstCells, hnc, storeCells]
    unfold Oper.wp
    simp [execOp, ho, resolve, invoke, builtin, hs, hx, hrun, Result.andThen]
    exact key v w (by simpa using hown) (World.grownBy.refl _ _)
  · refine wp_append_own w s x 47 ho w0.heap.size 46 i0 (.int .u32 0) 1 4 Tryd.underlying47 hi hz0 hz1 hz2 rfl (by decide) v n (u32s L) hs hown.row ad m c (u32s M) hx (by rw [u32s_len, hr.len]; omega) hr.cells (u32s_one M) (by unfold maxLen; omega) (by omega) hsz ?_
    intro v' w' h1 h2 _
    exact key v' w' (hown.grown hr.byt h1 h2) h2
theorem wpList_appw (hgd : o.guard = none) (s x : Operand) (ho : o.op = .call { callee := .builtin .append, args := #[s, x], argTypes := #[47, 47] })
    {v : Value} {n : Nat} {L : List Nat} (hs : a.eval s = v) (hown : Wn w0 v n L w) {A : Option Addr} {m c : Nat} {M : List Nat} (hx : a.eval x = .slice A m c) (hr : Ws w A m M) (hlen : n + m ≤ 1099511627776)
    (h : ∀ A' c' w', n + m ≤ c' → Wn w0 (.slice A' (n + m) c') (n + m) (L ++ M) w' → w.grownBy w' v.ownBlock → wpList Tryd.prog ops Q rest (a.put o.dst (.slice A' (n + m) c')) w') : wpList Tryd.prog ops Q (o :: rest) a w :=
  wpList_plain hgd fun _ hK => wp_appw s x ho hs hown hx hr hlen fun A' c' w' h1 h2 h3 => hK _ _ (h A' c' w' h1 h2 h3)
theorem step_appw {K : Act → World → Prop} {E : Prop} (hgd : o.guard = none) (s x : Operand) (ho : o.op = .call { callee := .builtin .append, args := #[s, x], argTypes := #[47, 47] })
    {v : Value} {n : Nat} {L : List Nat} (hs : a.eval s = v) (hown : Wn w0 v n L w) {A : Option Addr} {m c : Nat} {M : List Nat} (hx : a.eval x = .slice A m c) (hr : Ws w A m M) (hlen : n + m ≤ 1099511627776)
    (h : ∀ A' c' w', n + m ≤ c' → Wn w0 (.slice A' (n + m) c') (n + m) (L ++ M) w' → w.grownBy w' v.ownBlock → K (a.put o.dst (.slice A' (n + m) c')) w') :
    if Region.wanted o (yielded ops a.tmps) = true then Oper.wp Tryd.prog o a w K Q else E := by
  have hw : Region.wanted o (yielded ops a.tmps) = true := by simp [Region.wanted, hgd]
  rw [if_pos hw]
  exact wp_appw s x ho hs hown hx hr hlen h
theorem wpList_appw_eq (hgd : o.guard = none) (s x : Operand) (ho : o.op = .call { callee := .builtin .append, args := #[s, x], argTypes := #[47, 47] })
    {v : Value} {n : Nat} {L : List Nat} (hs : a.eval s = v) (hown : Wn w0 v n L w) {A : Option Addr} {m m' c : Nat} {M : List Nat} (hx : a.eval x = .slice A m' c) (e : m' = m) (hr : Ws w A m M) (hlen : n + m ≤ 1099511627776)
    (h : ∀ A' c' w', n + m ≤ c' → Wn w0 (.slice A' (n + m) c') (n + m) (L ++ M) w' → w.grownBy w' v.ownBlock → wpList Tryd.prog ops Q rest (a.put o.dst (.slice A' (n + m) c')) w') : wpList Tryd.prog ops Q (o :: rest) a w := by
  subst e; exact wpList_appw hgd s x ho hs hown hx hr hlen h
end

end Go.Proofs.YtipbpecihbmneaaDoor
