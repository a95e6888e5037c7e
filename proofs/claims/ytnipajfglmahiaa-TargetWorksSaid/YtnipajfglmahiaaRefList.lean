/- A list of bits that a loop makes, as the document's answers of layer 2 do: what a call of the loop's own owns, bit by bit. -/
import Derived.Test.YtnipajfglmahiaaRefFrom
import Derived.Laws.AppendOwn
import Derived.Laws.OwnMore
namespace Go.Proofs.Ytnipajfglmahiaa
open Go.RowKit

/-- The first k bits of X, the lowest first. -/
def bitVals (X : Nat) : Nat → List Value
  | 0 => []
  | k + 1 => bitVals X k ++ [.int .i64 ((X / 2 ^ k % 2 : Nat) : Int)]
theorem bitVals_length (X : Nat) : ∀ k, (bitVals X k).length = k
  | 0 => rfl
  | k + 1 => by rw [bitVals, List.length_append, bitVals_length X k]; rfl
theorem bitVals_get (X : Nat) : ∀ n k, k < n → (bitVals X n)[k]? = some (.int .i64 ((X / 2 ^ k % 2 : Nat) : Int))
  | 0, k, h => by omega
  | n + 1, k, h => by
    rw [bitVals]
    by_cases e : k = n
    · subst e
      rw [List.getElem?_append_right (by rw [bitVals_length]; omega), bitVals_length, Nat.sub_self]; rfl
    · rw [List.getElem?_append_left (by rw [bitVals_length]; omega), bitVals_get X n k (by omega)]

theorem ownsRow_later {w w' : World} {base : Nat} {e : TypeId} {size : Nat} {v : Value} {n : Nat} {xs : List Value} (h : w.ownsRow base e size v n xs) (g : Below w.heap.size w w') : w'.ownsRow base e size v n xs := by
  obtain ⟨h1, h2⟩ := h
  refine ⟨h1, ?_⟩
  rcases h2 with h2 | ⟨b, cap, cur, hv, hb, hh, r⟩
  · exact Or.inl h2
  · exact Or.inr ⟨b, cap, cur, hv, hb, by rw [g.block b (Array.getElem?_eq_some_iff.1 hh).1]; exact hh, r⟩

/-- An owned row of 256 bits is a slice whose cells they are. -/
theorem owned_bits {w : World} {base X : Nat} {v : Value} (h : w.ownsRow base 3 1 v 256 (bitVals X 256)) : ∃ B cap, v = .slice (some ⟨B, 0, none⟩) 256 cap ∧ B < w.heap.size ∧ base ≤ B ∧ BitCells w B X := by
  have h0 := h
  obtain ⟨h1, h2 | ⟨b, cap, cur, hv, hb, hh, r⟩⟩ := h
  · exact absurd h2.2 (by decide)
  · refine ⟨b, cap, hv, (Array.getElem?_eq_some_iff.1 hh).1, hb, fun k hk => ?_⟩
    subst hv
    have := World.ownsRow.cellAt h0 k (by omega)
    rw [this, bitVals_get X 256 k hk]

theorem Try.infoInt : (Try.prog.info? 3).map (fun i => (i.zero, i.size, i.bytes)) = some (some (.int .i64 0), 1, 8) := by kernel_rfl

theorem bit_at {a0 a1 a2 a3 : Nat} (ha : Words a0 a1 a2 a3) {i : Int} (n : Nat) (e : i = (n : Int)) (hn : n < 256) (w : World) :
    Calls Try.prog 33 #[.agg #[.int .u64 (a0 : Nat), .int .u64 (a1 : Nat), .int .u64 (a2 : Nat), .int .u64 (a3 : Nat)], .int .i64 i] w fun e w' => e = .returned (.int .i64 ((val a0 a1 a2 a3 / 2 ^ n % 2 : Nat) : Int)) ∧ Below w.heap.size w w' := by
  subst e; exact bit_any ha n hn w

theorem news_one (w : World) (v : Value) (T : TypeId) : ∀ j u, [v][j]? = some u → (w.alloc (.cells #[v] T)).cell? ((⟨w.heap.size, 0, none⟩ : Addr).add j) = some u := by
  intro j u hj
  rcases j with _ | j
  · simp at hj
    subst hj
    simp [go_sem]
  · simp at hj
theorem one_int (k : IntKind) (n : Int) : ∀ u ∈ [Value.int k n], u.oneCell' = true := by
  intro u hu
  simp at hu
  subst hu
  rfl


theorem boxes2 (w : World) (a c : Array Value) : ∀ j x, [a, c][j]? = some x → Holds ((w.alloc (.cells a 25)).alloc (.cells c 25)) (w.heap.size + j) x 25 := by
  intro j x hj
  rcases j with _ | _ | j
  · simp at hj; subst hj; exact (Holds.new _ _ _).later ((Below.refl _ _).alloc (Nat.le_refl _) _)
  · simp at hj; subst hj; have := Holds.new (w.alloc (.cells a 25)) c 25; simpa using this
  · simp at hj
theorem below2 (w : World) (a c : Array Value) : Below w.heap.size w ((w.alloc (.cells a 25)).alloc (.cells c 25)) := ((Below.refl _ _).alloc (Nat.le_refl _) _).alloc (by simp) _
theorem boxes3 (w : World) (a c d : Array Value) : ∀ j x, [a, c, d][j]? = some x → Holds (((w.alloc (.cells a 25)).alloc (.cells c 25)).alloc (.cells d 25)) (w.heap.size + j) x 25 := by
  intro j x hj
  rcases j with _ | _ | _ | j
  · exact (boxes2 w a c 0 x hj).later ((Below.refl _ _).alloc (Nat.le_refl _) _)
  · exact (boxes2 w a c 1 x hj).later ((Below.refl _ _).alloc (Nat.le_refl _) _)
  · simp at hj; subst hj; have := Holds.new ((w.alloc (.cells a 25)).alloc (.cells c 25)) d 25; simpa [Nat.add_assoc] using this
  · simp at hj
theorem below3 (w : World) (a c d : Array Value) : Below w.heap.size w (((w.alloc (.cells a 25)).alloc (.cells c 25)).alloc (.cells d 25)) := (below2 w a c).alloc (by simp; omega) _
/-- A list of bits under way: v owns the first k bits of X; the boxes of the call lie below it. -/
structure ListAt (X : Nat) (w : World) (bx : List (Array Value)) (k : Nat) (v : Value) (wr : World) : Prop where
  le : k ≤ 256
  own : wr.ownsRow (w.heap.size + bx.length) 3 1 v k (bitVals X k)
  box : ∀ j c, bx[j]? = some c → Holds wr (w.heap.size + j) c 25
  bel : Below w.heap.size w wr
  size : w.heap.size + bx.length ≤ wr.heap.size

theorem ListAt.later {X : Nat} {w wr w1 : World} {bx : List (Array Value)} {k : Nat} {v : Value} (h : ListAt X w bx k v wr) (g : Below wr.heap.size wr w1) : ListAt X w bx k v w1 :=
  ⟨h.le, ownsRow_later h.own g, fun j c hj => (h.box j c hj).later g, h.bel.trans (g.mono h.bel.size), Nat.le_trans h.size g.size⟩

theorem ListAt.step {X b k : Nat} {w wr w1 : World} {bx : List (Array Value)} {v v' : Value} {o : Obj} (h : ListAt X w bx k v wr) (hk : k < 256) (hb : X / 2 ^ k % 2 = b)
    (hown' : w1.ownsRow (w.heap.size + bx.length) 3 1 v' (k + 1) (bitVals X k ++ [.int .i64 (b : Nat)])) (hgrow : (wr.alloc o).grownBy w1 v.ownBlock) : ListAt X w bx (k + 1) v' w1 := by
  have hsz := h.size
  have far : ∀ q, q < w.heap.size + bx.length → some q ≠ v.ownBlock := fun q hq e => by have := (h.own.lt q e.symm).1; omega
  refine ⟨by omega, by rw [bitVals, hb]; exact hown', fun j c hj => ?_, (h.bel.alloc (by omega) o).grown hgrow (by simp; omega) (fun q hq => by have := (h.own.lt q hq).1; omega), ?_⟩
  · have h2 := (h.box j c hj).later ((Below.refl _ _).alloc (Nat.le_refl _) o)
    have hlt : j < bx.length := (List.getElem?_eq_some_iff.1 hj).1
    unfold Holds at h2 ⊢
    rw [hgrow.block _ (by simp; omega) (far _ (by omega))]
    exact h2
  · have := hgrow.size
    simp at this
    omega

end Go.Proofs.Ytnipajfglmahiaa
