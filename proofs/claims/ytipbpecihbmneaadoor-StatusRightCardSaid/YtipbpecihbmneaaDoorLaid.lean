/- The listed tables, as they lie in memory. No condition but the row's own. -/
import Derived.Test.YtipbpecihbmneaaDoorSha
import Derived.Test.YtipbpecihbmneaaDoorEs
import Derived.Test.YtipbpecihbmneaaDoorRows
import Derived.Test.YtipbpecihbmneaaDoorTie
import Derived.ProofKit
import Derived.LaidMore
import Derived.OpenShut
import Derived.Stop.Joined
import Derived.Deep.Slices
namespace Go.Proofs.YtipbpecihbmneaaDoor
open Go.ChangeShapes Go.WideShapes Go.ChangeAt Go.WideMaps Go.WideElems Go.RowKit

theorem Tryd.own : ownKnob Tryd.prog.godebug = none := by kernel_rfl
theorem Tryd.gStart : Tryd.prog.globalNamed "scantling/sha.start" = some 1 := by kernel_rfl
theorem Tryd.gRoots : Tryd.prog.globalNamed "scantling/sha.roots" = some 2 := by kernel_rfl
theorem Tryd.gPows : Tryd.prog.globalNamed "internal/strconv.uint64pow10" = some 3 := by kernel_rfl
theorem Tryd.tStart : (Tryd.prog.globals[1]?).map (·.type) = some 61 := by kernel_rfl
theorem Tryd.tRoots : (Tryd.prog.globals[2]?).map (·.type) = some 80 := by kernel_rfl
theorem Tryd.tPows : (Tryd.prog.globals[3]?).map (·.type) = some 89 := by kernel_rfl
theorem Tryd.cells33 : Tryd.prog.cellsOf 46 = 1 := by kernel_rfl
theorem Tryd.cells34 : Tryd.prog.cellsOf 61 = 8 := by kernel_rfl
theorem Tryd.cells54 : Tryd.prog.cellsOf 80 = 64 := by kernel_rfl
theorem Tryd.cells63 : Tryd.prog.cellsOf 63 = 1 := by kernel_rfl
theorem Tryd.cells89 : Tryd.prog.cellsOf 89 = 20 := by kernel_rfl
def laidL {H : Type} : List (String × DataW H) := [("math/bits.deBruijn32tab", Rows.laid_math_bits_deBruijn32tab), ("math/bits.deBruijn64tab", Rows.laid_math_bits_deBruijn64tab), ("internal/strconv.uint64pow10", Rows.laid_internal_strconv_uint64pow10), ("scantling/sha.start", Rows.laid_scantling_sha_start), ("scantling/sha.roots", Rows.laid_scantling_sha_roots), ("bytes.ErrTooLarge", Rows.laid_bytes_ErrTooLarge)]

/-- A table of integers of one kind, as it was read. -/
theorem tab_of_trod {H : Type} {enc : TypeId × Value → H} {W : World} {base fuel n : Nat} {spare : Nat → Bool} {held : Bool} {t e : TypeId} {q : IntKind} {cs : List Value} {x : DataW H × List MemPlace} (ht : Tryd.prog.underlying t = some (.array n e)) (he : Tryd.prog.underlying e = some (.int q)) (hce : Tryd.prog.cellsOf e = 1) (hc : Tryd.prog.cellsOf t = n) (L : List Int) (hL : L.length = n)
    (h : DataW.trod enc Tryd.prog W base spare held fuel t cs = some x) (hx : x.1 = .agg (L.map fun k : Int => .lit (.int q k))) : cs = L.map fun k => Value.int q k := by
  obtain ⟨xs, m, rfl, rfl, hlen, hn, hel⟩ := DataW.trod_array ht h
  simp only [DataW.agg.injEq] at hx
  rw [hc] at hlen
  apply List.ext_getElem (by rw [hlen, List.length_map, hL])
  intro i h1 h2
  have hi : i < n := by omega
  have h3 := hel i hi
  rw [hce, Nat.mul_one, List.getElem?_eq_getElem (by omega)] at h3
  obtain ⟨k, e1, e2, _⟩ := DataW.trod_int he h3
  have h4 : (xs.map (·.1))[i]? = some (.lit (.int q k)) := by
    rw [List.getElem?_map, List.getElem?_eq_getElem (by omega), e2]; rfl
  rw [hx, List.getElem?_map, List.getElem?_eq_getElem (by omega)] at h4
  simp at h4
  have h5 : (cs.drop i).take 1 = [cs[i]] := by
    rw [List.drop_eq_getElem_cons h1]; rfl
  rw [h5] at e1
  simp at e1
  rw [e1]
  simp [← h4]
theorem u32s_ints (L : List Nat) : u32s L = (L.map fun k : Nat => (k : Int)).map fun k => Value.int .u32 k := by simp [u32s, u32v, List.map_map, Function.comp_def]
theorem of_laid {W : World} (h : laidMetH Tryd.prog laidL W) : Laid W := by
  rw [MakeChecks.laidMetH_plain _ _ _ (by kernel_rfl)] at h
  obtain ⟨ps, ⟨_, _, _, _, _, _, _, _, _, _, ⟨_, _, _, _, _, _, _, _, _, _, ⟨g2, t2, cs2, f2, p2, q2, hg2, ht2, hv2, hd2, ⟨g0, t0, cs0, f0, p0, q0, hg0, ht0, hv0, hd0, ⟨g1, t1, cs1, f1, p1, q1, hg1, ht1, hv1, hd1, _, _⟩, _⟩, _⟩, _⟩, _⟩, _, _⟩ := h
  obtain rfl := Option.some.inj (Tryd.gStart.symm.trans hg0)
  obtain rfl := Option.some.inj (Tryd.gRoots.symm.trans hg1)
  obtain rfl := Option.some.inj (Tryd.gPows.symm.trans hg2)
  obtain rfl := Option.some.inj (Tryd.tStart.symm.trans ht0)
  obtain rfl := Option.some.inj (Tryd.tRoots.symm.trans ht1)
  obtain rfl := Option.some.inj (Tryd.tPows.symm.trans ht2)
  have e0 := (tab_of_trod Tryd.underlying61 Tryd.underlying46 Tryd.cells33 Tryd.cells34 (h0.map fun k : Nat => (k : Int)) rfl hd0 rfl).trans (u32s_ints h0).symm
  have e1 := (tab_of_trod Tryd.underlying80 Tryd.underlying46 Tryd.cells33 Tryd.cells54 (kTab.map fun k : Nat => (k : Int)) rfl hd1 rfl).trans (u32s_ints kTab).symm
  have e2 := tab_of_trod Tryd.underlying89 Tryd.underlying63 Tryd.cells63 Tryd.cells89 Lib.pow10Tab rfl hd2 rfl
  have key : ∀ {nm : String} {g : Nat} {cs : Array Value} {L : List Value}, Tryd.prog.globalNamed nm = some g → W.var? Tryd.prog nm = some cs → cs.toList = L → ∃ T fr, W.heap[g]? = some (.cells L.toArray T fr) := by
    intro nm g cs L hg hv hl
    simp only [World.var?, hg, Option.bind_some] at hv
    split at hv
    · rename_i c T fr hh
      injection hv with hv
      subst hv
      exact ⟨T, fr, by rw [hh, ← hl]⟩
    · cases hv
  exact ⟨key Tryd.gStart hv0 e0, key Tryd.gRoots hv1 e1, key Tryd.gPows hv2 e2⟩
theorem Tryd.cellsByte : Tryd.prog.cellsOf 5 = 1 := by kernel_rfl
end Go.Proofs.YtipbpecihbmneaaDoor
