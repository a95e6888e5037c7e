/- The two listed tables, as they lie in memory; bytes and numbers as they came in. No condition but the row's own. -/
import Derived.Test.YtimjmmiajgfblaaGreatDoorGak
import Derived.Test.YtimjmmiajgfblaaGreatDoorRows
import Derived.Test.YtimjmmiajgfblaaGreatDoorTie
import Derived.ProofKit
import Derived.LaidMore
import Derived.OpenShut
import Derived.Stop.Joined
import Derived.Deep.Slices
import Derived.Laws.IdiomArrays

namespace Go.Proofs.YtimjmmiajgfblaaGreatDoor
open Go.ChangeShapes Go.WideShapes Go.ChangeAt Go.WideMaps Go.WideElems Go.RowKit

def eqB (L M : List Nat) : Bool := decide (L = M)
theorem eqB_yes {L M : List Nat} (h : L = M) : eqB L M = true := decide_eq_true h
theorem eqB_no {L M : List Nat} (h : L ≠ M) : eqB L M = false := decide_eq_false h
theorem Tryz.own : ownKnob Tryz.prog.godebug = none := by kernel_rfl
theorem Tryz.gStart : Tryz.prog.globalNamed "scantling/sha.start" = some 2 := by kernel_rfl
theorem Tryz.gRoots : Tryz.prog.globalNamed "scantling/sha.roots" = some 3 := by kernel_rfl
theorem Tryz.tStart : (Tryz.prog.globals[2]?).map (·.type) = some 125 := by kernel_rfl
theorem Tryz.tRoots : (Tryz.prog.globals[3]?).map (·.type) = some 140 := by kernel_rfl
theorem Tryz.cells33 : Tryz.prog.cellsOf 22 = 1 := by kernel_rfl
theorem Tryz.cells34 : Tryz.prog.cellsOf 125 = 8 := by kernel_rfl
theorem Tryz.cells54 : Tryz.prog.cellsOf 140 = 64 := by kernel_rfl
def laidL {H : Type} : List (String × DataW H) := [("scantling/sha.start", Rows.laid_scantling_sha_start), ("scantling/sha.roots", Rows.laid_scantling_sha_roots)]

theorem row_of_trod {H : Type} {enc : TypeId × Value → H} {W : World} {base fuel n : Nat} {spare : Nat → Bool} {held : Bool} {t : TypeId} {cs : List Value} {x : DataW H × List MemPlace} (ht : Tryz.prog.underlying t = some (.array n 22)) (hc : Tryz.prog.cellsOf t = n) (L : List Nat) (hL : L.length = n)
    (h : DataW.trod enc Tryz.prog W base spare held fuel t cs = some x) (hx : x.1 = .agg (L.map fun k : Nat => .lit (.int .u32 (k : Int)))) : cs = u32s L := by
  obtain ⟨xs, m, rfl, rfl, hlen, hn, hel⟩ := DataW.trod_array ht h
  simp only [DataW.agg.injEq] at hx
  rw [hc] at hlen
  apply List.ext_getElem (by rw [hlen, u32s_len, hL])
  intro i h1 h2
  have hi : i < n := by omega
  have h3 := hel i hi
  rw [Tryz.cells33, Nat.mul_one, List.getElem?_eq_getElem (by omega)] at h3
  obtain ⟨k, e1, e2, _⟩ := DataW.trod_int Tryz.underlying22 h3
  have h4 : (xs.map (·.1))[i]? = some (.lit (.int .u32 k)) := by
    rw [List.getElem?_map, List.getElem?_eq_getElem (by omega), e2]; rfl
  rw [hx, List.getElem?_map, List.getElem?_eq_getElem (by omega)] at h4
  simp at h4
  have h5 : (cs.drop i).take 1 = [cs[i]] := by
    rw [List.drop_eq_getElem_cons h1]; rfl
  rw [h5] at e1
  simp at e1
  rw [e1]
  simp [u32s, u32v, ← h4]
theorem of_laid {W : World} (h : laidMetH Tryz.prog laidL W) : Laid W := by
  rw [MakeChecks.laidMetH_plain _ _ _ (by kernel_rfl)] at h
  obtain ⟨ps, ⟨g0, t0, cs0, f0, p0, q0, hg0, ht0, hv0, hd0, ⟨g1, t1, cs1, f1, p1, q1, hg1, ht1, hv1, hd1, _, _⟩, _⟩, _, _⟩ := h
  obtain rfl := Option.some.inj (Tryz.gStart.symm.trans hg0)
  obtain rfl := Option.some.inj (Tryz.gRoots.symm.trans hg1)
  obtain rfl := Option.some.inj (Tryz.tStart.symm.trans ht0)
  obtain rfl := Option.some.inj (Tryz.tRoots.symm.trans ht1)
  have e0 := row_of_trod Tryz.underlying125 Tryz.cells34 h0 rfl hd0 rfl
  have e1 := row_of_trod Tryz.underlying140 Tryz.cells54 kTab rfl hd1 rfl
  have key : ∀ {nm : String} {g : Nat} {cs : Array Value} {L : List Nat}, Tryz.prog.globalNamed nm = some g → W.var? Tryz.prog nm = some cs → cs.toList = u32s L → ∃ T fr, W.heap[g]? = some (.cells (u32s L).toArray T fr) := by
    intro nm g cs L hg hv hl
    simp only [World.var?, hg, Option.bind_some] at hv
    split at hv
    · rename_i c T fr hh
      injection hv with hv
      subst hv
      exact ⟨T, fr, by rw [hh, ← hl]⟩
    · cases hv
  exact ⟨key Tryz.gStart hv0 e0, key Tryz.gRoots hv1 e1⟩

theorem Tryz.cellsByte : Tryz.prog.cellsOf 5 = 1 := by kernel_rfl
end Go.Proofs.YtimjmmiajgfblaaGreatDoor

/- Whether two hashes are the same. No condition. -/
namespace Go.Proofs.YtimjmmiajgfblaaGreatDoor
set_option maxRecDepth 100000
open Go.RowKit

instance (L : List Nat) : Decidable (AllB L) := by unfold AllB; infer_instance
theorem eqItems_bytes (H K : List Nat) (d : Nat) (w : World) : ∀ is : List Nat, (∀ i ∈ is, i < H.length ∧ i < K.length) →
    (Op.eqItems (d + 1) 5 1 (vals H).toArray (vals K).toArray is).run Tryz.prog w = .ok (decide (∀ i ∈ is, nth H i = nth K i)) w
  | [], _ => by simp [Op.eqItems]
  | i :: is, h => by
    have ih := eqItems_bytes H K d w is (fun j hj => h j (by simp [hj]))
    obtain ⟨h1, h2⟩ := h i (by simp)
    have pt : ∀ L : List Nat, i < L.length → (part 5 (vals L).toArray i).run Tryz.prog w = .ok (.int .u8 (nth L i : Nat)) w := fun L hl => by
      simp [part, isAgg, run_underlying Tryz.underlying5, vals_get L i hl]
    have e1 := pt H h1
    have e2 := pt K h2
    by_cases e : nth H i = nth K i
    · have : (∀ j ∈ i :: is, nth H j = nth K j) ↔ (∀ j ∈ is, nth H j = nth K j) := by simp [e]
      simp only [this]
      rw [← ih]
      simp only [Op.eqItems, Sem.run_bind, Nat.mul_one, e1, e2, Result.andThen_ok, run_equalIn_int w _ _ _ _ _ _ Tryz.underlying5]
      simp [e]
    · have : ¬ (∀ j ∈ i :: is, nth H j = nth K j) := fun h => e (h i (by simp))
      simp only [this, decide_false]
      simp only [Op.eqItems, Sem.run_bind, Nat.mul_one, e1, e2, Result.andThen_ok, run_equalIn_int w _ _ _ _ _ _ Tryz.underlying5]
      have e3 : ¬ ((nth H i : Nat) : Int) = ((nth K i : Nat) : Int) := by omega
      simp [e3]
theorem eq_hash {H K : List Nat} (hH : H.length = 32) (hK : K.length = 32) (w : World) : (Op.equalIn 10000 25 (.agg (vals H).toArray) (.agg (vals K).toArray)).run Tryz.prog w = .ok (eqB H K) w := by
  obtain ⟨i, hi⟩ : ∃ i, Tryz.prog.info? 5 = some i := Option.isSome_iff_exists.1 (by kernel_rfl)
  rw [run_equalIn_array w 9999 (e := 5) (n := 32) _ _ Tryz.underlying25 hi, show Tryz.prog.cellsOf 5 = 1 from by kernel_rfl, eqItems_bytes H K 9998 w (List.range 32) (fun i hi => by
    have := List.mem_range.1 hi
    omega)]
  congr 1
  unfold eqB
  rw [decide_eq_decide]
  constructor
  · intro h
    exact nth_ext (by omega) fun k hk => h k (List.mem_range.2 (by omega))
  · rintro rfl
    exact fun _ _ => rfl
end Go.Proofs.YtimjmmiajgfblaaGreatDoor
