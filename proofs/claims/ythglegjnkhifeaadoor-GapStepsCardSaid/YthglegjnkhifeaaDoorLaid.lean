/- The two listed tables, as they lie in memory; bytes and numbers as they came in. No condition but the row's own. -/
import Derived.Test.YthglegjnkhifeaaDoorRSum
import Derived.Test.YthglegjnkhifeaaDoorSha
import Derived.Test.YthglegjnkhifeaaDoorSame
import Derived.Test.YthglegjnkhifeaaDoorRows
import Derived.Test.YthglegjnkhifeaaDoorTie
import Derived.ProofKit
import Derived.LaidMore
import Derived.OpenShut
import Derived.Stop.Joined
import Derived.Deep.Slices
namespace Go.Proofs.YthglegjnkhifeaaDoor
open Go.ChangeShapes Go.WideShapes Go.ChangeAt Go.WideMaps Go.WideElems Go.RowKit

theorem Tryd.own : ownKnob Tryd.prog.godebug = none := by kernel_rfl
theorem Tryd.gStart : Tryd.prog.globalNamed "scantling/sha.start" = some 0 := by kernel_rfl
theorem Tryd.gRoots : Tryd.prog.globalNamed "scantling/sha.roots" = some 1 := by kernel_rfl
theorem Tryd.tStart : (Tryd.prog.globals[0]?).map (·.type) = some 47 := by kernel_rfl
theorem Tryd.tRoots : (Tryd.prog.globals[1]?).map (·.type) = some 60 := by kernel_rfl
theorem Tryd.cells33 : Tryd.prog.cellsOf 39 = 1 := by kernel_rfl
theorem Tryd.cells34 : Tryd.prog.cellsOf 47 = 8 := by kernel_rfl
theorem Tryd.cells54 : Tryd.prog.cellsOf 60 = 64 := by kernel_rfl
def laidL {H : Type} : List (String × DataW H) := [("scantling/sha.start", Rows.laid_scantling_sha_start), ("scantling/sha.roots", Rows.laid_scantling_sha_roots)]

theorem row_of_trod {H : Type} {enc : TypeId × Value → H} {W : World} {base fuel n : Nat} {spare : Nat → Bool} {held : Bool} {t : TypeId} {cs : List Value} {x : DataW H × List MemPlace} (ht : Tryd.prog.underlying t = some (.array n 39)) (hc : Tryd.prog.cellsOf t = n) (L : List Nat) (hL : L.length = n)
    (h : DataW.trod enc Tryd.prog W base spare held fuel t cs = some x) (hx : x.1 = .agg (L.map fun k : Nat => .lit (.int .u32 (k : Int)))) : cs = u32s L := by
  obtain ⟨xs, m, rfl, rfl, hlen, hn, hel⟩ := DataW.trod_array ht h
  simp only [DataW.agg.injEq] at hx
  rw [hc] at hlen
  apply List.ext_getElem (by rw [hlen, u32s_len, hL])
  intro i h1 h2
  have hi : i < n := by omega
  have h3 := hel i hi
  rw [Tryd.cells33, Nat.mul_one, List.getElem?_eq_getElem (by omega)] at h3
  obtain ⟨k, e1, e2, _⟩ := DataW.trod_int Tryd.underlying39 h3
  have h4 : (xs.map (·.1))[i]? = some (.lit (.int .u32 k)) := by
    rw [List.getElem?_map, List.getElem?_eq_getElem (by omega), e2]; rfl
  rw [hx, List.getElem?_map, List.getElem?_eq_getElem (by omega)] at h4
  simp at h4
  have h5 : (cs.drop i).take 1 = [cs[i]] := by
    rw [List.drop_eq_getElem_cons h1]; rfl
  rw [h5] at e1
  simp at e1
  rw [e1]
  simp [u32s, u32v, ← h4]
theorem of_laid {W : World} (h : laidMetH Tryd.prog laidL W) : Laid W := by
  rw [MakeChecks.laidMetH_plain _ _ _ (by kernel_rfl)] at h
  obtain ⟨ps, ⟨g0, t0, cs0, f0, p0, q0, hg0, ht0, hv0, hd0, ⟨g1, t1, cs1, f1, p1, q1, hg1, ht1, hv1, hd1, _, _⟩, _⟩, _, _⟩ := h
  obtain rfl := Option.some.inj (Tryd.gStart.symm.trans hg0)
  obtain rfl := Option.some.inj (Tryd.gRoots.symm.trans hg1)
  obtain rfl := Option.some.inj (Tryd.tStart.symm.trans ht0)
  obtain rfl := Option.some.inj (Tryd.tRoots.symm.trans ht1)
  have e0 := row_of_trod Tryd.underlying47 Tryd.cells34 h0 rfl hd0 rfl
  have e1 := row_of_trod Tryd.underlying60 Tryd.cells54 kTab rfl hd1 rfl
  have key : ∀ {nm : String} {g : Nat} {cs : Array Value} {L : List Nat}, Tryd.prog.globalNamed nm = some g → W.var? Tryd.prog nm = some cs → cs.toList = u32s L → ∃ T fr, W.heap[g]? = some (.cells (u32s L).toArray T fr) := by
    intro nm g cs L hg hv hl
    simp only [World.var?, hg, Option.bind_some] at hv
    split at hv
    · rename_i c T fr hh
      injection hv with hv
      subst hv
      exact ⟨T, fr, by rw [hh, ← hl]⟩
    · cases hv
  exact ⟨key Tryd.gStart hv0 e0, key Tryd.gRoots hv1 e1⟩

theorem Tryd.cellsByte : Tryd.prog.cellsOf 5 = 1 := by kernel_rfl
end Go.Proofs.YthglegjnkhifeaaDoor
