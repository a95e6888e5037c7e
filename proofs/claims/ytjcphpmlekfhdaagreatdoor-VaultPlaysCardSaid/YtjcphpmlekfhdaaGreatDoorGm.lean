/- Ints that lie in a block. No condition. -/
import Derived.Test.YtjcphpmlekfhdaaGreatDoorGh
import Derived.Test.YtjcphpmlekfhdaaGreatDoorMix
import Derived.Test.YtjcphpmlekfhdaaGreatDoorRows
import Derived.Test.YtjcphpmlekfhdaaGreatDoorTie
import Derived.ProofKit
import Derived.LaidMore
import Derived.OpenShut
import Derived.Stop.Joined
import Derived.Deep.Slices
import Derived.Test.YtjcphpmlekfhdaaGreatDoorGl
import Derived.Laws.IdiomArrays
import Derived.ChangeOld
import Derived.ChangeMaps5
import Derived.Below

namespace Go.Proofs.YtjcphpmlekfhdaaGreatDoor
open Go.RowKit

/-- Ints that lie in a block of P. -/
structure ZsP (w : World) (P : Nat → Prop) (A : Option Addr) (n : Nat) (L : List Int) : Prop where
  zs : Zs w A n L
  inP : 0 < n → ∀ a, A = some a → P a.block
theorem Zs.p {w : World} {A : Option Addr} {n : Nat} {L : List Int} (h : Zs w A n L) : ZsP w anyP A n L := ⟨h, fun _ _ _ => trivial⟩
theorem ZsP.keep {w w' : World} {P : Nat → Prop} {A : Option Addr} {n : Nat} {L : List Int} (h : ZsP w P A n L) (g : Kept P w w') : ZsP w' P A n L :=
  ⟨⟨h.zs.len, h.zs.rng, fun k hk => by
    obtain ⟨a, e, hb, hc⟩ := h.zs.cel k hk
    have hp := h.inP (by omega) a e
    exact ⟨a, e, Nat.lt_of_lt_of_le hb g.size, by rw [g.cell (by rw [add_block]; exact hp) (by rw [add_block]; exact hb)]; exact hc⟩⟩, h.inP⟩
theorem ZsP.weak {w : World} {P Q : Nat → Prop} {A : Option Addr} {n : Nat} {L : List Int} (h : ZsP w P A n L) (q : ∀ b, P b → b < w.heap.size → Q b) : ZsP w Q A n L :=
  ⟨h.zs, fun hn a e => by
    obtain ⟨a', e', hb, _⟩ := h.zs.cel 0 hn
    rw [e] at e'
    injection e' with e'
    subst e'
    exact q _ (h.inP hn a e) hb⟩
theorem Zs.later {w w' : World} {A : Option Addr} {n : Nat} {L : List Int} (h : Zs w A n L) (g : Below w.heap.size w w') : Zs w' A n L := (h.p.keep (Kept.of_below g)).zs
end Go.Proofs.YtjcphpmlekfhdaaGreatDoor

/- The two listed tables, as they lie in memory; bytes and numbers as they came in. No condition but the row's own. -/
namespace Go.Proofs.YtjcphpmlekfhdaaGreatDoor
open Go.ChangeShapes Go.WideShapes Go.ChangeAt Go.WideMaps Go.WideElems Go.RowKit

theorem Tryz.own : ownKnob Tryz.prog.godebug = none := by kernel_rfl
theorem Tryz.gStart : Tryz.prog.globalNamed "scantling/sha.start" = some 0 := by kernel_rfl
theorem Tryz.gRoots : Tryz.prog.globalNamed "scantling/sha.roots" = some 1 := by kernel_rfl
theorem Tryz.tStart : (Tryz.prog.globals[0]?).map (·.type) = some 150 := by kernel_rfl
theorem Tryz.tRoots : (Tryz.prog.globals[1]?).map (·.type) = some 164 := by kernel_rfl
theorem Tryz.cells33 : Tryz.prog.cellsOf 149 = 1 := by kernel_rfl
theorem Tryz.cells34 : Tryz.prog.cellsOf 150 = 8 := by kernel_rfl
theorem Tryz.cells54 : Tryz.prog.cellsOf 164 = 64 := by kernel_rfl
def laidL {H : Type} : List (String × DataW H) := [("scantling/sha.start", Rows.laid_scantling_sha_start), ("scantling/sha.roots", Rows.laid_scantling_sha_roots)]

theorem row_of_trod {H : Type} {enc : TypeId × Value → H} {W : World} {base fuel n : Nat} {spare : Nat → Bool} {held : Bool} {t : TypeId} {cs : List Value} {x : DataW H × List MemPlace} (ht : Tryz.prog.underlying t = some (.array n 149)) (hc : Tryz.prog.cellsOf t = n) (L : List Nat) (hL : L.length = n)
    (h : DataW.trod enc Tryz.prog W base spare held fuel t cs = some x) (hx : x.1 = .agg (L.map fun k : Nat => .lit (.int .u32 (k : Int)))) : cs = u32s L := by
  obtain ⟨xs, m, rfl, rfl, hlen, hn, hel⟩ := DataW.trod_array ht h
  simp only [DataW.agg.injEq] at hx
  rw [hc] at hlen
  apply List.ext_getElem (by rw [hlen, u32s_len, hL])
  intro i h1 h2
  have hi : i < n := by omega
  have h3 := hel i hi
  rw [Tryz.cells33, Nat.mul_one, List.getElem?_eq_getElem (by omega)] at h3
  obtain ⟨k, e1, e2, _⟩ := DataW.trod_int Tryz.underlying149 h3
  have h4 : (xs.map (·.1))[i]? = some (.lit (.int .u32 k)) := by
    rw [List.getElem?_map, List.getElem?_eq_getElem (by omega), e2]; rfl
  rw [hx, List.getElem?_map, List.getElem?_eq_getElem (by omega)] at h4
  simp at h4
  have h5 : (cs.drop i).take 1 = [cs[i]] := by
    rw [List.drop_eq_getElem_cons h1]; rfl
  rw [h5] at e1
  simp at e1
  rw [e1]
  simp [u32s, u32v, ← h4]
theorem of_laid {W : World} (h : laidMetH Tryz.prog laidL W) : Laid W := by
  rw [MakeChecks.laidMetH_plain _ _ _ (by kernel_rfl)] at h
  obtain ⟨ps, ⟨g0, t0, cs0, f0, p0, q0, hg0, ht0, hv0, hd0, ⟨g1, t1, cs1, f1, p1, q1, hg1, ht1, hv1, hd1, _, _⟩, _⟩, _, _⟩ := h
  obtain rfl := Option.some.inj (Tryz.gStart.symm.trans hg0)
  obtain rfl := Option.some.inj (Tryz.gRoots.symm.trans hg1)
  obtain rfl := Option.some.inj (Tryz.tStart.symm.trans ht0)
  obtain rfl := Option.some.inj (Tryz.tRoots.symm.trans ht1)
  have e0 := row_of_trod Tryz.underlying150 Tryz.cells34 h0 rfl hd0 rfl
  have e1 := row_of_trod Tryz.underlying164 Tryz.cells54 kTab rfl hd1 rfl
  have key : ∀ {nm : String} {g : Nat} {cs : Array Value} {L : List Nat}, Tryz.prog.globalNamed nm = some g → W.var? Tryz.prog nm = some cs → cs.toList = u32s L → ∃ T fr, W.heap[g]? = some (.cells (u32s L).toArray T fr) := by
    intro nm g cs L hg hv hl
    simp only [World.var?, hg, Option.bind_some] at hv
    split at hv
    · rename_i c T fr hh
      injection hv with hv
      subst hv
      exact ⟨T, fr, by rw [hh, ← hl]⟩
    · cases hv
  exact ⟨key Tryz.gStart hv0 e0, key Tryz.gRoots hv1 e1⟩

end Go.Proofs.YtjcphpmlekfhdaaGreatDoor

/- Records, bytes and numbers that came in as arguments; the door's own heap. No condition. -/
namespace Go.Proofs.YtjcphpmlekfhdaaGreatDoor
open Go.ChangeShapes Go.WideShapes Go.ChangeAt Go.RowKit Go.ChangeMaps
set_option maxRecDepth 100000

theorem Tryz.laidOut : laidOutB Tryz.prog = true := by kernel_rfl
theorem Tryz.cellsByte : Tryz.prog.cellsOf 5 = 1 := by kernel_rfl
set_option maxRecDepth 100000 in
/-- The door's own heap meets the condition. -/
theorem door_met (os : Os) (args : Array Value) : laidMetH Tryz.prog laidL ((World.doorLaid Tryz.prog 19 os).forCall (fun _ _ => 0) ⟨#[], args, []⟩).memory :=
  laidMetH_of_parts3 (fuel := 8) (laidMet_of_run' 8 (by kernel_rfl) (by kernel_rfl)) (by kernel_rfl) (by kernel_rfl)
theorem add_at (b o i : Nat) : (⟨b, o, none⟩ : Addr).add i = ⟨b, o + i, none⟩ := by
  unfold Addr.add
  split <;> simp_all
theorem take_drop_app12 {α : Type} (L : List α) (i a b : Nat) : (L.drop i).take a ++ (L.drop (i + a)).take b = (L.drop i).take (a + b) := by
  rw [← List.drop_drop, List.take_add]
theorem Tryz.cellsInt : Tryz.prog.cellsOf 3 = 1 := by kernel_rfl
theorem Tryz.cellsBs : Tryz.prog.cellsOf 40 = 1 := by kernel_rfl
theorem Tryz.cellsIs : Tryz.prog.cellsOf 41 = 1 := by kernel_rfl
theorem weights_in {H : Type} {P : Program} {e : TypeId} {d : DataW H} {x : Nat} (hx : x ∈ d.weights P e) : ∀ {l : List (DataW H)}, d ∈ l → x ∈ DataW.weightsAll P e l
  | [], h => by cases h
  | a :: l, h => by
    rw [DataW.weightsAll, List.mem_append]
    rcases List.mem_cons.1 h with rfl | h
    · exact Or.inl hx
    · exact Or.inr (weights_in hx h)
/-- All that is said weighs no more than a machine's reach. -/
def Light {H : Type} (d : DataW H) (T : TypeId) : Prop := ∀ y ∈ d.weights Tryz.prog T, y ≤ reachBytes
theorem bytes_trod {H : Type} {enc : TypeId × Value → H} {W : World} {spare : Nat → Bool} {held : Bool} {v : Value} {x : DataW H × List MemPlace} {fuel : Nat} (hf : DataW.trod enc Tryz.prog W 0 spare held fuel 40 [v] = some x) (hw : Light x.1 40) :
    ∃ (A : Option Addr) (n c : Nat) (L : List Nat), (n ≤ c ∧ c ≤ 9223372036854775807 ∧ n ≤ 140737488351232 ∧ Bs W A n L) ∧ v = .slice A n c := by
  rcases Deep.open_slice1 Tryz.underlying40 Tryz.cellsByte hf with ⟨e, _⟩ | ⟨a, len, cap, m, _, V, D, Pl, e, _, hlc, hcm, hm, hxx, hx⟩
  · simp at e
    subst e
    exact ⟨none, 0, 0, [], ⟨Nat.le_refl _, by omega, by omega, Bs.nil _ _⟩, rfl⟩
  · simp at e
    subst e
    have hm' : len ≤ m := by rw [hm]; split <;> omega
    have hb : Tryz.prog.bytesOf 5 = 1 := by kernel_rfl
    have hl := hw ((len + (m - len)) * 1) (by
      rw [hxx, DataW.weights, Tryz.underlying40]
      simp [hb])
    unfold reachBytes at hl
    have each : ∀ i, i < len → ∃ x : Nat, x < 256 ∧ W.cell? (a.add i) = some (.int .u8 (x : Nat)) := fun i hi => by
      obtain ⟨h1, h2⟩ := hx i (by omega)
      obtain ⟨q, e0, _, w0⟩ := DataW.trod_int Tryz.underlying5 h2
      simp at e0
      have b0 := bounds_u8 w0
      exact ⟨q.toNat, by omega, by rw [h1, e0, Int.toNat_of_nonneg b0.1]⟩
    obtain ⟨f, hf'⟩ := Deep.choose_lt (α := Nat) (p := fun i x => x < 256 ∧ W.cell? (a.add i) = some (.int .u8 (x : Nat))) each
    refine ⟨some a, len, cap, (List.range len).map f, ⟨hlc, by unfold maxLen at hcm; omega, by omega, by simp, fun x hx => ?_, fun hn => ⟨a, rfl, ?_, fun k hk => ?_⟩⟩, rfl⟩
    · simp only [List.mem_map, List.mem_range] at hx
      obtain ⟨i, hi, rfl⟩ := hx
      exact (hf' i hi).1
    · have := World.block_lt_of_cell? _ _ (hf' 0 hn).2
      rwa [add_block] at this
    · rw [(hf' k hk).2]
      simp [nth, List.getD, hk]

theorem ints_trod {H : Type} {enc : TypeId × Value → H} {W : World} {spare : Nat → Bool} {held : Bool} {v : Value} {x : DataW H × List MemPlace} {fuel : Nat} (hf : DataW.trod enc Tryz.prog W 0 spare held fuel 41 [v] = some x) (hw : Light x.1 41) :
    ∃ (A : Option Addr) (n c : Nat) (L : List Int), (n ≤ c ∧ c ≤ 9223372036854775807 ∧ n ≤ 140737488351232 ∧ Zs W A n L) ∧ v = .slice A n c := by
  rcases Deep.open_slice1 Tryz.underlying41 Tryz.cellsInt hf with ⟨e, _⟩ | ⟨a, len, cap, m, _, V, D, Pl, e, _, hlc, hcm, hm, hxx, hx⟩
  · simp at e
    subst e
    exact ⟨none, 0, 0, [], ⟨Nat.le_refl _, by omega, by omega, Zs.nil _ _⟩, rfl⟩
  · simp at e
    subst e
    have hm' : len ≤ m := by rw [hm]; split <;> omega
    have hb : Tryz.prog.bytesOf 3 = 8 := by kernel_rfl
    have hl := hw ((len + (m - len)) * 8) (by
      rw [hxx, DataW.weights, Tryz.underlying41]
      simp [hb])
    unfold reachBytes at hl
    have each : ∀ i, i < len → ∃ x : Int, (-9223372036854775808 ≤ x ∧ x ≤ 9223372036854775807) ∧ W.cell? (a.add i) = some (.int .i64 x) := fun i hi => by
      obtain ⟨h1, h2⟩ := hx i (by omega)
      obtain ⟨q, e0, _, w0⟩ := DataW.trod_int Tryz.underlying3 h2
      simp at e0
      have b0 := bounds_i64 w0
      exact ⟨q, by omega, by rw [h1, e0]⟩
    obtain ⟨f, hf'⟩ := Deep.choose_lt (α := Int) (p := fun i x => (-9223372036854775808 ≤ x ∧ x ≤ 9223372036854775807) ∧ W.cell? (a.add i) = some (.int .i64 x)) each
    refine ⟨some a, len, cap, (List.range len).map f, ⟨hlc, by unfold maxLen at hcm; omega, by omega, by simp, fun x hx => ?_, fun k hk => ⟨a, rfl, ?_, ?_⟩⟩, rfl⟩
    · simp only [List.mem_map, List.mem_range] at hx
      obtain ⟨i, hi, rfl⟩ := hx
      exact (hf' i hi).1
    · have := World.block_lt_of_cell? _ _ (hf' k hk).2
      rwa [add_block] at this
    · rw [(hf' k hk).2]
      simp [pick, List.getD, hk]
section
variable {H : Type} {enc : TypeId × Value → H} {W : World} {base : Nat} {v : Value} {d : DataW H} {p : List MemPlace}
variable {spare : Nat → Bool} {held : Bool} {fuel : Nat} {cs : List Value} {x : DataW H × List MemPlace}
/-- Elements that lie one behind the other. -/
theorem rows_of {α : Type} {sz : Nat} {R : Reads α} {b o : Nat} (f : Nat → List Value × α) (h : ∀ i, (f i).1.length = sz → True) : ∀ (n : Nat), (∀ i, i < n → (f i).1.length = sz ∧ W.rangeAt b (o + i * sz) (f i).1 ∧ R W anyP (f i).1 (f i).2) → ∃ cs l, l.length = n ∧ W.rangeAt b o cs ∧ Each sz (R W anyP) cs l
  | 0, _ => ⟨[], [], rfl, fun j v hj => by simp at hj, .nil⟩
  | n + 1, hi => by
    obtain ⟨cs, l, h1, h2, h3⟩ := rows_of f h n (fun i hlt => hi i (by omega))
    obtain ⟨g1, g2, g3⟩ := hi n (by omega)
    have hlen := h3.len
    refine ⟨cs ++ (f n).1, l ++ [(f n).2], by rw [List.length_append, h1]; rfl, fun j v hj => ?_, h3.app (Each.one g1 g3)⟩
    by_cases hlt : j < cs.length
    · rw [List.getElem?_append_left hlt] at hj
      exact h2 j v hj
    · rw [List.getElem?_append_right (by omega)] at hj
      have := g2 _ v hj
      rwa [show o + n * sz + (j - cs.length) = o + j by rw [hlen, h1]; rw [hlen, h1] at hlt; omega] at this
theorem trod_rows {α : Type} {S T : TypeId} {sz : Nat} {R : Reads α} (hu : Tryz.prog.underlying S = some (.slice T)) (hc : Tryz.prog.cellsOf T = sz) (hsz : 0 < sz) (hb : 1 ≤ Tryz.prog.bytesOf T) (hi : Inhabited α)
    (hel : ∀ {fu : Nat} {cs' : List Value} {y : DataW H × List MemPlace}, DataW.trod enc Tryz.prog W 0 spare held fu T cs' = some y → Light y.1 T → cs'.length = sz ∧ ∃ e, R W anyP cs' e)
    (hf : DataW.trod enc Tryz.prog W 0 spare held fuel S cs = some x) (hw : Light x.1 S) :
    ∃ (A : Option Addr) (n c : Nat) (l : List α), cs = [.slice A n c] ∧ n ≤ c ∧ n ≤ 140737488351232 ∧ c ≤ 9223372036854775807 ∧ Rows W anyP sz R A n l := by
  rcases Deep.open_slice hu hf with ⟨e, _⟩ | ⟨a, len, cap, m, fu, D, Pl, e, _, hlc, hcm, hm, hxx, hx⟩
  · exact ⟨none, 0, 0, [], e, Nat.le_refl _, by decide, by decide, Rows.nil _ _ _ _ _⟩
  · have hm' : len ≤ m := by rw [hm]; split <;> omega
    have hl := hw ((len + (m - len)) * Tryz.prog.bytesOf T) (by
      rw [hxx, DataW.weights, hu]
      simp)
    unfold reachBytes at hl
    have hl2 : len ≤ 140737488351232 := by
      have : len * 1 ≤ (len + (m - len)) * Tryz.prog.bytesOf T := Nat.mul_le_mul (by omega) hb
      omega
    have hcc : cap ≤ 9223372036854775807 := by unfold maxLen at hcm; omega
    have each : ∀ i, i < len → ∃ g : List Value × α, g.1.length = sz ∧ (∀ q u, g.1[q]? = some u → W.cell? ((a.add (i * sz)).add q) = some u) ∧ R W anyP g.1 g.2 := fun i hlt => by
      obtain ⟨cs', h1, h2⟩ := hx i (by omega)
      rw [hc] at h1
      obtain ⟨_, hlen, hcel⟩ := World.cells?_some h1
      obtain ⟨g1, e2, g2⟩ := hel h2 (fun z hz => hw z (by
        rw [hxx, DataW.weights, hu]
        exact List.mem_cons_of_mem _ (List.mem_append_left _ (weights_in hz (List.mem_map.2 ⟨i, List.mem_range.2 hlt, rfl⟩)))))
      refine ⟨(cs', e2), g1, fun q u hq => ?_, g2⟩
      have hq2 := (List.getElem?_eq_some_iff.1 hq).1
      rw [hcel q (by rw [← hlen]; exact hq2)]
      exact hq
    obtain ⟨f, hf'⟩ := Deep.choose_lt (α := List Value × α) (p := fun i g => g.1.length = sz ∧ (∀ q u, g.1[q]? = some u → W.cell? ((a.add (i * sz)).add q) = some u) ∧ R W anyP g.1 g.2) each
    rcases Nat.eq_zero_or_pos len with h0 | h0
    · subst h0
      exact ⟨some a, 0, cap, [], e, hlc, hl2, hcc, Rows.nil _ _ _ _ _⟩
    · obtain ⟨l0, hc0, _⟩ := hf' 0 h0
      obtain ⟨u, hu0⟩ : ∃ u, (f 0).1[0]? = some u := ⟨_, List.getElem?_eq_getElem (by omega)⟩
      have c0 := hc0 0 u hu0
      have e0 : (a.add (0 * sz)).add 0 = a := by rw [Nat.zero_mul]; rfl
      rw [e0] at c0
      obtain ⟨b, o, rfl⟩ : ∃ b o, a = ⟨b, o, none⟩ := by
        unfold World.cell? at c0
        split at c0
        · split at c0
          · cases c0
          · rename_i hs
            obtain ⟨b, o, s⟩ := a
            cases s with
            | none => exact ⟨b, o, rfl⟩
            | some x => simp at hs
        · cases c0
      obtain ⟨cs2, l, k1, k2, k3⟩ := rows_of (W := W) (b := b) (o := o) (R := R) f (fun _ _ => trivial) len (fun i hlt => by
        obtain ⟨g1, g2, g3⟩ := hf' i hlt
        exact ⟨g1, fun q u hq => by have := g2 q u hq; rwa [add_at, add_at] at this, g3⟩)
      exact ⟨_, len, cap, l, e, hlc, hl2, hcc, ⟨k1, fun _ => ⟨b, o, cs2, rfl, World.block_lt_of_cell? _ _ c0, trivial, k2, k3⟩⟩⟩
end
section
variable {H : Type} {enc : TypeId × Value → H} {W : World} {base : Nat} {v : Value} {d : DataW H} {p : List MemPlace}
theorem open_u8 (hv : Value.okWide Tryz.prog W .any base 5 v) (h : DataW.Trod enc Tryz.prog W 0 (fun _ => true) true 5 v d p) : ∃ x : Nat, x < 256 ∧ v = .int .u8 (x : Nat) := by
  obtain ⟨n, rfl, rfl, rfl, w⟩ := open_int Tryz.underlying5 hv h
  have b := bounds_u8 w
  exact ⟨n.toNat, by omega, by rw [Int.toNat_of_nonneg b.1]⟩
theorem open_i64 (hv : Value.okWide Tryz.prog W .any base 3 v) (h : DataW.Trod enc Tryz.prog W 0 (fun _ => true) true 3 v d p) : ∃ x : Int, (-9223372036854775808 ≤ x ∧ x ≤ 9223372036854775807) ∧ v = .int .i64 x := by
  obtain ⟨n, rfl, rfl, rfl, w⟩ := open_int Tryz.underlying3 hv h
  have b := bounds_i64 w
  exact ⟨n, by omega, rfl⟩
theorem open_u16 (hv : Value.okWide Tryz.prog W .any base 22 v) (h : DataW.Trod enc Tryz.prog W 0 (fun _ => true) true 22 v d p) : ∃ x : Nat, x < 65536 ∧ v = .int .u16 (x : Nat) := by
  obtain ⟨n, rfl, rfl, rfl, w⟩ := open_int Tryz.underlying22 hv h
  have b := bounds_u16 w
  exact ⟨n.toNat, by omega, by rw [Int.toNat_of_nonneg b.1]⟩
end
theorem open_bl {H : Type} {enc : TypeId × Value → H} {W : World} {base : Nat} {v : Value} {d : DataW H} {p : List MemPlace} (hv : Value.okWide Tryz.prog W .any base 4 v) (h : DataW.Trod enc Tryz.prog W 0 (fun _ => true) true 4 v d p) : ∃ b : Bool, True ∧ v = .bool b := by
  obtain ⟨b, rfl, _⟩ := Go.RowKit.open_bool Tryz.underlying4 hv h
  exact ⟨b, trivial, rfl⟩

section
variable {H : Type} {enc : TypeId × Value → H} {W : World} {base : Nat} {v : Value} {d : DataW H} {p : List MemPlace}
/-- Records that came in. -/
theorem open_bytess (hv : Value.okWide Tryz.prog W .any base 39 v) (h : DataW.Trod enc Tryz.prog W 0 (fun _ => true) true 39 v d p) (hw : ∀ y ∈ d.weights Tryz.prog 39, y ≤ reachBytes) :
    ∃ (A : Option Addr) (n c : Nat) (l : List (List Nat)), (n ≤ c ∧ n ≤ 140737488351232 ∧ c ≤ 9223372036854775807 ∧ Rows W anyP 1 ByR A n l) ∧ v = .slice A n c := by
  obtain ⟨fuel, hf⟩ := h
  obtain ⟨A0, n0, c0, rfl⟩ := okWide_slice Tryz.underlying39 hv
  obtain ⟨A, n, c, l, e, h1, h2, h3, h4⟩ := trod_rows (R := ByR) Tryz.underlying39 (by kernel_rfl : Tryz.prog.cellsOf 40 = 1) (by decide) (by rw [(by kernel_rfl : Tryz.prog.bytesOf 40 = 24)]; decide) ⟨[]⟩ (fun {fu cs' y} ht hl => by
    obtain ⟨u, rfl⟩ : ∃ u, cs' = [u] := by
      rcases Deep.open_slice1 Tryz.underlying40 Tryz.cellsByte ht with ⟨e, _⟩ | ⟨_, _, _, _, _, _, _, _, e, _⟩
      · exact ⟨_, e⟩
      · exact ⟨_, e⟩
    obtain ⟨B, k, q, L, ⟨g1, g2, g3, g4⟩, rfl⟩ := bytes_trod ht hl
    have g5 := g4.len
    subst g5
    exact ⟨rfl, L, B, q, rfl, ⟨g1, g3⟩, g2, g4.p⟩) hf hw
  simp [Value.cells] at e
  obtain ⟨rfl, rfl, rfl⟩ := e
  exact ⟨A0, n0, c0, l, ⟨h1, h2, h3, h4⟩, rfl⟩
end
end Go.Proofs.YtjcphpmlekfhdaaGreatDoor
