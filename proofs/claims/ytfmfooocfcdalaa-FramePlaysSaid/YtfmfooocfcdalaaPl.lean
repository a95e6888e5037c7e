/- The bytes of a part, and a slice of parts that came in. No condition. -/
import Derived.Test.YtfmfooocfcdalaaRFeed
import Derived.Deep.SlicePairs
namespace Go.Proofs.Ytfmfooocfcdalaa
open Go.ChangeShapes Go.WideShapes Go.ChangeAt Go.RowKit Go.ChangeMaps

/-- The part's bytes: some bytes, no more than so many, in new memory. -/
def PartB (w : World) (left : Nat) (e : Ending) (w' : World) : Prop := ∃ A n c X, e = .returned (.slice A n c) ∧ n ≤ c ∧ n ≤ left ∧ Own w (.slice A n c) n X w'
set_option maxRecDepth 100000 in
set_option maxHeartbeats 8000000 in
theorem part_any {A : Option Addr} {n c t left : Nat} {L : List Nat} (w : World) (hL : Bs w A n L) (ht : t < 65536) (hl : left ≤ 200000) (hn : n ≤ 9223372036854775807) :
    Calls Try.prog 9 #[.agg #[.slice A n c, .int .u16 (t : Nat)], .int .i64 (left : Nat)] w (PartB w left) := by
  have HL := Lib.hid hL
  clear hL
  go_enter Try.func9, Try.ntmps9
  go_wp2_with fail
  obtain ⟨W1, hW1⟩ : ∃ W1, W1 = w.alloc (.cells #[.slice A n c, .int .u16 (t : Nat)] 33) := ⟨_, rfl⟩
  have hh : W1.heap[w.heap.size]? = some (.cells #[.slice A n c, .int .u16 (t : Nat)] 33 (0, 0)) := by rw [hW1]; exact World.alloc_heap_new w _
  have C0 : Hid (W1.cell? ⟨w.heap.size, 0, none⟩ = some (.slice A n c)) := Lib.hid (by unfold World.cell?; simp only [hh]; rfl)
  have C1 : Hid (W1.cell? ⟨w.heap.size, 1, none⟩ = some (.int .u16 (t : Nat))) := Lib.hid (by unfold World.cell?; simp only [hh]; rfl)
  have B1 : Hid (Below w.heap.size w W1) := Lib.hid (by rw [hW1]; exact (Below.refl _ _).alloc (Nat.le_refl _) _)
  have z1 : w.heap.size < W1.heap.size := by rw [hW1]; simp
  rw [← hW1]
  clear hh hW1
  go_loopw [5, 6] (fun v i wr => ∃ (k m : Nat) (X : List Nat), i = .int .i64 (k : Nat) ∧ k ≤ t + 1 ∧ m ≤ left ∧ (m = 0 ∨ n ≤ 200000) ∧ Own W1 v m X wr) (fun _ i _ => t + 1 - (intOf i).toNat)
  case atStart => exact ⟨0, 0, [], rfl, by omega, by omega, .inl rfl, World.ownsRow_nil _ _ _ _, allB_nil, Below.refl _ _⟩
  case round =>
    obtain ⟨k, m, X, rfl, hk, hm, hmn, O⟩ := hrel
    have HMN := Lib.hid hmn
    clear hmn
    have O := Lib.hid O
    obtain ⟨A', c', rfl, hc'⟩ := O.out.shape
    have c0 : wr.cell? ⟨w.heap.size, 0, none⟩ = some (.slice A n c) := (O.out.bel.cell (p := ⟨w.heap.size, 0, none⟩) z1).trans C0.out
    have c1 : wr.cell? ⟨w.heap.size, 1, none⟩ = some (.int .u16 (t : Nat)) := (O.out.bel.cell (p := ⟨w.heap.size, 1, none⟩) z1).trans C1.out
    have RB : Hid (Bs wr A n L) := Lib.hid ((HL.out.later B1.out).later O.out.bel)
    have key : ∀ (e : Ending), e = .returned (.slice A' m c') → PartB w left e wr := fun e h => ⟨A', m, c', X, h, hc', hm, O.out.weaken B1.out⟩
    have KEY := Lib.hid key
    clear key
    by_cases h1 : k ≤ t
    · have t1 : decide ((k : Int) ≤ (t : Int)) = true := decide_eq_true (by omega)
      by_cases h2 : 0 < n
      · have t2 : decide ((0 : Int) < (n : Int)) = true := decide_eq_true (by omega)
        have hs : (m : Int) + (n : Int) ≤ 9223372036854775807 := by
          have := HMN.out
          omega
        by_cases h3 : m + n ≤ left
        · have t3 : decide ((m : Int) + (n : Int) ≤ (left : Int)) = true := decide_eq_true (by omega)
          go_wp2_with (at_builtin; refine wpList_app rfl _ _ rfl rfl O.out rfl RB.out ?d1 ?_)
          case d1 => omega
          intro A2 c2 w2 hc2 O2 g2
          have O2 := Lib.hid O2
          clear g2
          go_wp2_with fail
          go_roundw
          case rel => exact ⟨k + 1, m + n, X ++ L, by go_num, by omega, h3, .inr (by omega), O2.out⟩
          case measure => simp [intOf]; omega
        · have t3 : decide ((m : Int) + (n : Int) ≤ (left : Int)) = false := decide_eq_false (by omega)
          go_wp2_with fail
          go_ret
          exact KEY.out _ rfl
      · have t2 : decide ((0 : Int) < (n : Int)) = false := decide_eq_false (by omega)
        go_wp2_with fail
        go_ret
        exact KEY.out _ rfl
    · have t1 : decide ((k : Int) ≤ (t : Int)) = false := decide_eq_false (by omega)
      go_wp2_with fail
      go_ret
      exact KEY.out _ rfl
theorem bytes_trod {H : Type} {enc : TypeId × Value → H} {W : World} {spare : Nat → Bool} {held : Bool} {v : Value} {x : DataW H × List MemPlace} {fuel : Nat} (hf : DataW.trod enc Try.prog W 0 spare held fuel 27 [v] = some x) :
    ∃ (A : Option Addr) (n c : Nat) (L : List Nat), (n ≤ c ∧ c ≤ 9223372036854775807 ∧ Bs W A n L) ∧ v = .slice A n c := by
  rcases Deep.open_slice1 Try.underlying27 Try.cellsByte hf with ⟨e, _⟩ | ⟨a, len, cap, m, _, V, D, Pl, e, _, hlc, hcm, hm, _, hx⟩
  · simp at e
    subst e
    exact ⟨none, 0, 0, [], ⟨Nat.le_refl _, by omega, Bs.nil _ _⟩, rfl⟩
  · simp at e
    subst e
    have hm' : len ≤ m := by rw [hm]; split <;> omega
    have each : ∀ i, i < len → ∃ x : Nat, x < 256 ∧ W.cell? (a.add i) = some (.int .u8 (x : Nat)) := fun i hi => by
      obtain ⟨h1, h2⟩ := hx i (by omega)
      obtain ⟨q, e0, _, w0⟩ := DataW.trod_int Try.underlying5 h2
      simp at e0
      have b0 := bounds_u8 w0
      exact ⟨q.toNat, by omega, by rw [h1, e0, Int.toNat_of_nonneg b0.1]⟩
    obtain ⟨f, hf'⟩ := Deep.choose_lt (α := Nat) (p := fun i x => x < 256 ∧ W.cell? (a.add i) = some (.int .u8 (x : Nat))) each
    refine ⟨some a, len, cap, (List.range len).map f, ⟨hlc, by unfold maxLen at hcm; omega, by simp, fun x hx => ?_, fun hn => ⟨a, rfl, ?_, fun k hk => ?_⟩⟩, rfl⟩
    · simp only [List.mem_map, List.mem_range] at hx
      obtain ⟨i, hi, rfl⟩ := hx
      exact (hf' i hi).1
    · have := World.block_lt_of_cell? _ _ (hf' 0 hn).2
      rwa [add_block] at this
    · rw [(hf' k hk).2]
      simp [nth, List.getD, hk]

/-- A slice of parts. -/
def PsIn (w : World) (B : Option Addr) (m : Nat) : Prop := ∀ i, i < m → ∃ (b : Addr) (A : Option Addr) (n c t : Nat) (L : List Nat), B = some b ∧ b.block < w.heap.size ∧ w.cell? (b.add (i * 2)) = some (.slice A n c) ∧ w.cell? (b.add (i * 2 + 1)) = some (.int .u16 (t : Nat)) ∧ t < 65536 ∧ n ≤ c ∧ c ≤ 9223372036854775807 ∧ Bs w A n L
theorem PsIn.later {w w' : World} {B : Option Addr} {m : Nat} (h : PsIn w B m) (g : Below w.heap.size w w') : PsIn w' B m := fun i hi => by
  obtain ⟨b, A, n, c, t, L, h1, h2, h3, h4, h5, h6, h7, h8⟩ := h i hi
  exact ⟨b, A, n, c, t, L, h1, Nat.lt_of_lt_of_le h2 g.size, (World.cell?_of_block (by rw [add_block]; exact g.block _ h2)).trans h3, (World.cell?_of_block (by rw [add_block]; exact g.block _ h2)).trans h4, h5, h6, h7, h8.later g⟩
section
variable {H : Type} {enc : TypeId × Value → H} {W : World} {base : Nat} {v : Value} {d : DataW H} {p : List MemPlace}
theorem open_parts (hv : Value.okWide Try.prog W .any base 22 v) (h : DataW.Trod enc Try.prog W 0 (fun _ => true) true 22 v d p) :
    ∃ (A : Option Addr) (n c : Nat), PsIn W A n ∧ v = .slice A n c := by
  obtain ⟨fuel, hf⟩ := h
  obtain ⟨A, n, c, rfl⟩ := okWide_slice Try.underlying22 hv
  rcases Deep.open_slice_pairs Try.underlying22 Try.underlying33 (by kernel_rfl) (by kernel_rfl) (by kernel_rfl) (by kernel_rfl) (by kernel_rfl) hf with ⟨e, _⟩ | ⟨a, len, cap, m, n', V0, V1, D0, D1, P0, P1, e, _, hlc, hcm, hm, _, hx⟩
  · simp [Value.cells] at e
    obtain ⟨rfl, rfl, rfl⟩ := e
    exact ⟨none, 0, 0, fun i hi => by omega, rfl⟩
  · simp [Value.cells] at e
    obtain ⟨rfl, rfl, rfl⟩ := e
    have hm' : n ≤ m := by rw [hm]; split <;> omega
    refine ⟨some a, n, c, fun i hi => ?_, rfl⟩
    obtain ⟨c0, c1, t0, t1⟩ := hx i (by omega)
    obtain ⟨A, k, q, L, ⟨h1, h2, h3⟩, e0⟩ := bytes_trod t0
    obtain ⟨x, e1, _, w1⟩ := DataW.trod_int Try.underlying31 t1
    simp at e1
    have b1 := bounds_u16 w1
    rw [e0] at c0
    rw [e1] at c1
    have hb := World.block_lt_of_cell? _ _ c0
    rw [add_block] at hb
    exact ⟨a, A, k, q, x.toNat, L, rfl, hb, c0, by rw [c1, Int.toNat_of_nonneg b1.1], by omega, h1, h2, h3⟩
end
end Go.Proofs.Ytfmfooocfcdalaa
