/- The two listed tables, as they lie in memory; bytes and numbers as they came in. No condition but the row's own. -/
import Derived.Test.YtbdjcbdnhaddoaaDoorRTwice
import Derived.Test.YtbdjcbdnhaddoaaDoorRows
import Derived.Test.YtbdjcbdnhaddoaaDoorTie
import Derived.ProofKit
import Derived.LaidMore
import Derived.OpenShut
import Derived.Stop.Joined
import Derived.Deep.Slices
import Derived.Laws.IdiomArrays
import Derived.Test.YtbdjcbdnhaddoaaDoorGt
import Derived.Laws.IdiomStrings
import Derived.Laws.StructEq
import Derived.DeepKeys4
import Derived.Maps.Views
import Derived.Maps.OwnSet
import Derived.Maps.OwnOps

namespace Go.Proofs.YtbdjcbdnhaddoaaDoor
open Go.ChangeShapes Go.WideShapes Go.ChangeAt Go.WideMaps Go.WideElems Go.RowKit

def eqB (L M : List Nat) : Bool := decide (L = M)
theorem eqB_yes {L M : List Nat} (h : L = M) : eqB L M = true := decide_eq_true h
theorem eqB_no {L M : List Nat} (h : L ≠ M) : eqB L M = false := decide_eq_false h
theorem Tryd.own : ownKnob Tryd.prog.godebug = none := by kernel_rfl
theorem Tryd.gStart : Tryd.prog.globalNamed "scantling/sha.start" = some 0 := by kernel_rfl
theorem Tryd.gRoots : Tryd.prog.globalNamed "scantling/sha.roots" = some 1 := by kernel_rfl
theorem Tryd.tStart : (Tryd.prog.globals[0]?).map (·.type) = some 86 := by kernel_rfl
theorem Tryd.tRoots : (Tryd.prog.globals[1]?).map (·.type) = some 110 := by kernel_rfl
theorem Tryd.cells33 : Tryd.prog.cellsOf 22 = 1 := by kernel_rfl
theorem Tryd.cells34 : Tryd.prog.cellsOf 86 = 8 := by kernel_rfl
theorem Tryd.cells54 : Tryd.prog.cellsOf 110 = 64 := by kernel_rfl
def laidL {H : Type} : List (String × DataW H) := [("scantling/sha.start", Rows.laid_scantling_sha_start), ("scantling/sha.roots", Rows.laid_scantling_sha_roots)]

theorem row_of_trod {H : Type} {enc : TypeId × Value → H} {W : World} {base fuel n : Nat} {spare : Nat → Bool} {held : Bool} {t : TypeId} {cs : List Value} {x : DataW H × List MemPlace} (ht : Tryd.prog.underlying t = some (.array n 22)) (hc : Tryd.prog.cellsOf t = n) (L : List Nat) (hL : L.length = n)
    (h : DataW.trod enc Tryd.prog W base spare held fuel t cs = some x) (hx : x.1 = .agg (L.map fun k : Nat => .lit (.int .u32 (k : Int)))) : cs = u32s L := by
  obtain ⟨xs, m, rfl, rfl, hlen, hn, hel⟩ := DataW.trod_array ht h
  simp only [DataW.agg.injEq] at hx
  rw [hc] at hlen
  apply List.ext_getElem (by rw [hlen, u32s_len, hL])
  intro i h1 h2
  have hi : i < n := by omega
  have h3 := hel i hi
  rw [Tryd.cells33, Nat.mul_one, List.getElem?_eq_getElem (by omega)] at h3
  obtain ⟨k, e1, e2, _⟩ := DataW.trod_int Tryd.underlying22 h3
  have h4 : (xs.map (·.1))[i]? = some (.lit (.int .u32 k)) := by
    rw [List.getElem?_map, List.getElem?_eq_getElem (by omega), e2]; rfl
  rw [hx, List.getElem?_map, List.getElem?_eq_getElem (by omega)] at h4
  simp at h4
  have h5 : (cs.drop i).take 1 = [cs[i]] := by
    rw [List.drop_eq_getElem_cons h1]; rfl
  rw [h5] at e1
  simp at e1
  rw [e1]
  simp [u32s, u32v, ← h4]
theorem of_laid {W : World} (h : laidMetH Tryd.prog laidL W) : Laid W := by
  rw [MakeChecks.laidMetH_plain _ _ _ (by kernel_rfl)] at h
  obtain ⟨ps, ⟨g0, t0, cs0, f0, p0, q0, hg0, ht0, hv0, hd0, ⟨g1, t1, cs1, f1, p1, q1, hg1, ht1, hv1, hd1, _, _⟩, _⟩, _, _⟩ := h
  obtain rfl := Option.some.inj (Tryd.gStart.symm.trans hg0)
  obtain rfl := Option.some.inj (Tryd.gRoots.symm.trans hg1)
  obtain rfl := Option.some.inj (Tryd.tStart.symm.trans ht0)
  obtain rfl := Option.some.inj (Tryd.tRoots.symm.trans ht1)
  have e0 := row_of_trod Tryd.underlying86 Tryd.cells34 h0 rfl hd0 rfl
  have e1 := row_of_trod Tryd.underlying110 Tryd.cells54 kTab rfl hd1 rfl
  have key : ∀ {nm : String} {g : Nat} {cs : Array Value} {L : List Nat}, Tryd.prog.globalNamed nm = some g → W.var? Tryd.prog nm = some cs → cs.toList = u32s L → ∃ T fr, W.heap[g]? = some (.cells (u32s L).toArray T fr) := by
    intro nm g cs L hg hv hl
    simp only [World.var?, hg, Option.bind_some] at hv
    split at hv
    · rename_i c T fr hh
      injection hv with hv
      subst hv
      exact ⟨T, fr, by rw [hh, ← hl]⟩
    · cases hv
  exact ⟨key Tryd.gStart hv0 e0, key Tryd.gRoots hv1 e1⟩

theorem Tryd.cellsByte : Tryd.prog.cellsOf 5 = 1 := by kernel_rfl
end Go.Proofs.YtbdjcbdnhaddoaaDoor

/- Whether two hashes are the same. No condition. -/
namespace Go.Proofs.YtbdjcbdnhaddoaaDoor
open Go.RowKit

instance (L : List Nat) : Decidable (AllB L) := by unfold AllB; infer_instance
set_option maxRecDepth 100000 in
theorem eqItems_bytes (H K : List Nat) (d : Nat) (w : World) : ∀ is : List Nat, (∀ i ∈ is, i < H.length ∧ i < K.length) →
    (Op.eqItems (d + 1) 5 1 (vals H).toArray (vals K).toArray is).run Tryd.prog w = .ok (decide (∀ i ∈ is, nth H i = nth K i)) w
  | [], _ => by simp [Op.eqItems]
  | i :: is, h => by
    have ih := eqItems_bytes H K d w is (fun j hj => h j (by simp [hj]))
    obtain ⟨h1, h2⟩ := h i (by simp)
    have pt : ∀ L : List Nat, i < L.length → (part 5 (vals L).toArray i).run Tryd.prog w = .ok (.int .u8 (nth L i : Nat)) w := fun L hl => by
      simp [part, isAgg, run_underlying Tryd.underlying5, vals_get L i hl]
    have e1 := pt H h1
    have e2 := pt K h2
    by_cases e : nth H i = nth K i
    · have : (∀ j ∈ i :: is, nth H j = nth K j) ↔ (∀ j ∈ is, nth H j = nth K j) := by simp [e]
      simp only [this]
      rw [← ih]
      simp only [Op.eqItems, Sem.run_bind, Nat.mul_one, e1, e2, Result.andThen_ok, run_equalIn_int w _ _ _ _ _ _ Tryd.underlying5]
      simp [e]
    · have : ¬ (∀ j ∈ i :: is, nth H j = nth K j) := fun h => e (h i (by simp))
      simp only [this, decide_false]
      simp only [Op.eqItems, Sem.run_bind, Nat.mul_one, e1, e2, Result.andThen_ok, run_equalIn_int w _ _ _ _ _ _ Tryd.underlying5]
      have e3 : ¬ ((nth H i : Nat) : Int) = ((nth K i : Nat) : Int) := by omega
      simp [e3]
set_option maxRecDepth 100000 in
theorem eq_hash {H K : List Nat} (hH : H.length = 32) (hK : K.length = 32) (w : World) : (Op.equalIn 10000 32 (.agg (vals H).toArray) (.agg (vals K).toArray)).run Tryd.prog w = .ok (eqB H K) w := by
  obtain ⟨i, hi⟩ : ∃ i, Tryd.prog.info? 5 = some i := Option.isSome_iff_exists.1 (by kernel_rfl)
  rw [run_equalIn_array w 9999 (e := 5) (n := 32) _ _ Tryd.underlying32 hi, show Tryd.prog.cellsOf 5 = 1 from by kernel_rfl, eqItems_bytes H K 9998 w (List.range 32) (fun i hi => by
    have := List.mem_range.1 hi
    omega)]
  congr 1
  unfold eqB
  rw [decide_eq_decide]
  constructor
  · intro h
    exact nth_ext (by omega) fun k hk => h k (List.mem_range.2 (by omega))
  · rintro rfl
    exact fun _ _ => rfl
end Go.Proofs.YtbdjcbdnhaddoaaDoor

/- Bytes as strings; whether bytes are the same; whether two places are. No condition. -/
namespace Go.Proofs.YtbdjcbdnhaddoaaDoor
open Go.RowKit

/-- A string of these bytes. -/
def strB (L : List Nat) : ByteArray := ⟨(L.map UInt8.ofNat).toArray⟩
def strL (s : ByteArray) : List Nat := s.data.toList.map UInt8.toNat
theorem strL_strB {L : List Nat} (h : AllB L) : strL (strB L) = L := by
  simp only [strL, strB, List.map_map]
  conv => rhs; rw [← List.map_id L]
  apply List.map_congr_left
  intro x hx
  have := h x hx
  simp; omega
theorem strB_inj {L M : List Nat} (h : AllB L) (k : AllB M) (e : strB L = strB M) : L = M := by rw [← strL_strB h, e, strL_strB k]
theorem strB_size (L : List Nat) : (strB L).size = L.length := by
  show ((L.map UInt8.ofNat).toArray).size = _
  simp
theorem run_str {A : Option Addr} {n c : Nat} {L : List Nat} {w : World} (h : Bs w A n L) : (convert 29 9 (.slice A n c)).run Tryd.prog w = .ok (.string (strB L)) w := by
  rcases A with _ | a
  · obtain rfl : n = 0 := by
      rcases Nat.eq_zero_or_pos n with h0 | h0
      · exact h0
      · obtain ⟨_, e, _⟩ := h.cel h0
        cases e
    obtain rfl : L = [] := List.eq_nil_of_length_eq_zero h.len
    rw [run_convert_bytes_string w 29 9 5 none 0 c Tryd.underlying29 Tryd.underlying5 Tryd.underlying9]
    rfl
  · have hl := h.len
    have := run_convert_bytes_back (P := Tryd.prog) w 29 9 5 a c (L.map UInt8.ofNat) Tryd.underlying29 Tryd.underlying5 Tryd.underlying9 (fun j hj => by
      have hj' : j < L.length := by simpa using hj
      obtain ⟨b, e, _, hc⟩ := h.cel (by omega)
      injection e with e
      subst e
      rw [hc j (by omega)]
      have hlt := nth_lt h.byt j
      have e2 : nth L j = L[j] := by simp [nth, List.getD, hj']
      simp only [List.getElem_map]
      rw [UInt8.toNat_ofNat', ← e2, Nat.mod_eq_of_lt hlt])
    rw [List.length_map, hl] at this
    exact this
theorem str_iff {L M : List Nat} (h : AllB L) (k : AllB M) : ((strB L).toList == (strB M).toList) = true ↔ L = M := by
  rw [beq_iff_eq]
  constructor
  · intro e
    refine strB_inj h k ?_
    rw [ByteArray.toList_eq, ByteArray.toList_eq] at e
    exact ByteArray.ext (Array.toList_inj.1 e)
  · rintro rfl; rfl
theorem str_dec {L M : List Nat} (h : AllB L) (k : AllB M) : ((strB L).toList == (strB M).toList) = decide (L = M) := by
  rw [Bool.eq_iff_iff, str_iff h k, decide_eq_true_iff]

set_option maxRecDepth 100000 in
set_option maxHeartbeats 4000000 in
theorem bytesEqual_any {A B : Option Addr} {n c m d : Nat} {L M : List Nat} (w : World) (hA : Bs w A n L) (hB : Bs w B m M) :
    Calls Tryd.prog 59 #[.slice A n c, .slice B m d] w fun e w' => e = .returned (.bool (decide (L = M))) ∧ w' = w := by
  have r1 := run_str (c := c) hA
  have r2 := run_str (c := d) hB
  have e1 := str_dec hA.byt hB.byt
  obtain ⟨q, hq⟩ : ∃ q, decide (L = M) = q := ⟨_, rfl⟩
  rw [hq] at e1 ⊢
  obtain ⟨S, hS⟩ : ∃ S, strB L = S := ⟨_, rfl⟩
  obtain ⟨T, hT⟩ : ∃ S, strB M = S := ⟨_, rfl⟩
  rw [hS] at r1 e1
  rw [hT] at r2 e1
  clear hA hB hq hS hT
  go_enter Tryd.func59, Tryd.ntmps59
  go_wp2_with fail
  go_ret
  exact ⟨rfl, rfl⟩

/-! ### places -/
def fromV (h : List Nat) (n : Nat) : List Value := vals h ++ [.int .u32 (n : Int)]
theorem fromV_len {h : List Nat} (hh : h.length = 32) (n : Nat) : (fromV h n).length = 33 := by simp [fromV, vals_length, hh]
set_option maxRecDepth 100000 in
theorem rowPlace : IsRow 53 33 := ⟨.inl ⟨_, Tryd.underlying53⟩, by kernel_rfl⟩
theorem inV_from (h : List Nat) (n : Nat) (As : Option Addr) (ns cs q : Nat) (Aw : Option Addr) (nw cw : Nat) : inV h n As ns cs q Aw nw cw = fromV h n ++ [.slice As ns cs, .int .u32 (q : Int), .slice Aw nw cw] := by simp [inV, fromV]
theorem from_range {w : World} {b o : Nat} {h : List Nat} {n : Nat} {As : Option Addr} {ns cs q : Nat} {Aw : Option Addr} {nw cw : Nat} (hr : w.rangeAt b o (inV h n As ns cs q Aw nw cw)) : w.rangeAt b o (fromV h n) := fun j v hj => hr j v (by
  rw [inV_from, List.getElem?_append_left (List.getElem?_eq_some_iff.1 hj).1]; exact hj)
set_option maxRecDepth 100000 in
theorem eq_hash9 {H K : List Nat} (hH : H.length = 32) (hK : K.length = 32) (w : World) : (Op.equalIn 9999 32 (.agg (vals H).toArray) (.agg (vals K).toArray)).run Tryd.prog w = .ok (eqB H K) w := by
  obtain ⟨i, hi⟩ : ∃ i, Tryd.prog.info? 5 = some i := Option.isSome_iff_exists.1 (by kernel_rfl)
  rw [run_equalIn_array w 9998 (e := 5) (n := 32) _ _ Tryd.underlying32 hi, show Tryd.prog.cellsOf 5 = 1 from by kernel_rfl, eqItems_bytes H K 9997 w (List.range 32) (fun i hi => by
    have := List.mem_range.1 hi
    omega)]
  congr 1
  unfold eqB
  rw [decide_eq_decide]
  constructor
  · intro h
    exact nth_ext (by omega) fun k hk => h k (List.mem_range.2 (by omega))
  · rintro rfl
    exact fun _ _ => rfl
theorem eqFields_step {d : Nat} {xs ys : Array Value} {w : World} {f : Field} {fs : List Field} {nm : String} {T : TypeId} {o : Nat} {a b : Value} {r : Bool} (h : (f.name, f.type, f.offset) = (nm, T, o)) (hn : nm ≠ "_")
    (ha : (part T xs o).run Tryd.prog w = .ok a w) (hb : (part T ys o).run Tryd.prog w = .ok b w) (hr : (Op.equalIn d T a b).run Tryd.prog w = .ok r w) :
    (Op.eqFields d xs ys (f :: fs)).run Tryd.prog w = if r then (Op.eqFields d xs ys fs).run Tryd.prog w else .ok false w := by
  simp only [Prod.mk.injEq] at h
  obtain ⟨h1, h2, h3⟩ := h
  subst h1 h2 h3
  simp only [Op.eqFields, hn, ne_eq, not_false_eq_true, if_true, Sem.run_bind, ha, hb, hr, Result.andThen_ok]
  cases r <;> simp
theorem part_u32 {xs : List Value} {o : Nat} {v : Value} (h : xs[o]? = some v) (w : World) : (part 22 xs.toArray o).run Tryd.prog w = .ok v w := by
  simp [part, isAgg, run_underlying Tryd.underlying22, h]
set_option maxRecDepth 100000 in
theorem part_hash {xs X Y Z : List Value} {o : Nat} (h : xs = X ++ (Y ++ Z)) (hX : X.length = o) (hY : Y.length = 32) (w : World) : (part 32 xs.toArray o).run Tryd.prog w = .ok (.agg Y.toArray) w := by
  have hi : (Tryd.prog.info? 32).map (·.size) = some 32 := by kernel_rfl
  cases hq : Tryd.prog.info? 32 with
  | none => simp [hq] at hi
  | some i =>
    have hs : i.size = 32 := by simpa [hq] using hi
    have e : List.take 32 (List.drop o (X ++ (Y ++ Z))) = Y := by rw [← hX, List.drop_left, ← hY, List.take_left]
    subst h
    simp [part, isAgg, run_underlying Tryd.underlying32, sizeOf, typeInfo, hq, hs, e]
theorem fields_place : (Tryd.prog.fieldsOf 53).toList.map (fun f => (f.name, f.type, f.offset)) = [("Tx", 32, 0), ("N", 22, 32)] := by kernel_rfl
set_option maxRecDepth 100000 in
theorem eq_place {h k : List Nat} {n m : Nat} (hh : h.length = 32) (hk : k.length = 32) (w : World) : (Op.equalIn 10000 53 (.agg (fromV h n).toArray) (.agg (fromV k m).toArray)).run Tryd.prog w = .ok (decide ((h, n) = (k, m))) w := by
  rw [run_equalIn_struct w 9999 _ _ _ (by kernel_rfl) (by kernel_rfl)]
  have hf := fields_place
  obtain ⟨fs, hfs⟩ : ∃ fs, (Tryd.prog.fieldsOf 53).toList = fs := ⟨_, rfl⟩
  rw [hfs] at hf ⊢
  match fs, hf with
  | [f0, f1], hf =>
    simp only [List.map_cons, List.map_nil, List.cons.injEq, and_true] at hf
    obtain ⟨h0, h1⟩ := hf
    have n0 : ∀ {x : List Nat} {z : Nat}, x.length = 32 → (fromV x z)[32]? = some (.int .u32 (z : Int)) := fun {x z} hx => by
      unfold fromV
      rw [List.getElem?_append_right (by rw [vals_length]; omega), vals_length, hx]; rfl
    have qi : ∀ a b : Nat, (Op.equalIn 9999 22 (.int .u32 (a : Nat)) (.int .u32 (b : Nat))).run Tryd.prog w = .ok ((a : Int) == (b : Int)) w := fun a b => run_equalIn_int w 9998 _ _ _ _ _ Tryd.underlying22
    have hp : ∀ {x : List Nat} {z : Nat}, x.length = 32 → (part 32 (fromV x z).toArray 0).run Tryd.prog w = .ok (.agg (vals x).toArray) w := fun {x z} hx => part_hash (X := []) (Z := [.int .u32 (z : Int)]) (by simp [fromV]) rfl (by rw [vals_length, hx]) w
    rw [eqFields_step h0 (by decide) (hp hh) (hp hk) (eq_hash9 hh hk w), eqFields_step h1 (by decide) (part_u32 (n0 hh) w) (part_u32 (n0 hk) w) (qi _ _)]
    have nil : (Op.eqFields 9999 (fromV h n).toArray (fromV k m).toArray []).run Tryd.prog w = .ok true w := by simp [Op.eqFields]
    rw [nil]
    have iff : ((h, n) = (k, m)) ↔ (eqB h k = true ∧ ((n : Int) == (m : Int)) = true) := by
      simp only [beq_iff_eq, eqB, decide_eq_true_eq, Prod.mk.injEq]
      constructor
      · rintro ⟨rfl, rfl⟩; exact ⟨rfl, rfl⟩
      · rintro ⟨a, b⟩; exact ⟨a, by omega⟩
    by_cases q0 : eqB h k = true
    · by_cases q1 : ((n : Int) == (m : Int)) = true
      · rw [if_pos q0, if_pos q1, decide_eq_true (iff.2 ⟨q0, q1⟩)]
      · rw [if_pos q0, if_neg q1, decide_eq_false (fun h => q1 (iff.1 h).2)]
    · rw [if_neg q0, decide_eq_false (fun h => q0 (iff.1 h).1)]
end Go.Proofs.YtbdjcbdnhaddoaaDoor

/- A map of bools by places that the call made: the set of its keys. No condition. -/
namespace Go.Proofs.YtbdjcbdnhaddoaaDoor
open Go.RowKit

set_option maxRecDepth 100000 in
theorem Tryd.laidOut : laidOutB Tryd.prog = true := by kernel_rfl
set_option maxRecDepth 100000 in
theorem Tryd.rowPl : (53 : TypeId) < Tryd.prog.types.size := of_decide_eq_true (by kernel_rfl)
set_option maxRecDepth 100000 in
theorem Tryd.widePl : (match Tryd.prog.underlying 53 with | some (.array _ _) | some (.struct _) => true | _ => false) = true := by rw [Tryd.underlying53]
set_option maxRecDepth 100000 in
theorem Tryd.lawPl : Go.WideMaps.KeyLaw Tryd.prog 53 := deep_law_laid Tryd.laidOut (m := 3) (by omega) Tryd.rowPl (by kernel_rfl) Tryd.widePl
set_option maxRecDepth 100000 in
theorem Tryd.keyedPl : Go.Maps.Keyed Tryd.prog 53 := Go.Maps.Keyed.of_law Tryd.lawPl

set_option maxRecDepth 100000 in
theorem mapM_all {α β : Type} {f : α → Option β} : ∀ {l : List α}, (∀ x ∈ l, ∃ y, f x = some y) → ∃ ys, l.mapM f = some ys
  | [], _ => ⟨[], rfl⟩
  | x :: l, h => by
    obtain ⟨y, hy⟩ := h x (by simp)
    obtain ⟨ys, hys⟩ := mapM_all (l := l) (fun z hz => h z (by simp [hz]))
    exact ⟨y :: ys, by simp [hy, hys]⟩
set_option maxRecDepth 100000 in
theorem lits_hash {X : List Nat} (hl : X.length = 32) (hb : AllB X) (m : Nat) : ∃ l, Tryd.prog.keyLits (m + 2) 32 (vals X) = some l := by
  have hs : (vals X).length = 32 := by rw [vals_length]; exact hl
  obtain ⟨ys, hys⟩ := mapM_all (f := fun i => Tryd.prog.keyLits (m + 1) 5 (((vals X).drop (i * 1)).take 1)) (l := List.range 32) (fun i hi => by
    have h1 := List.mem_range.1 hi
    have h2 : i < (vals X).length := by omega
    have e : ((vals X).drop (i * 1)).take 1 = [.int .u8 (nth X i : Nat)] := by
      rw [Nat.mul_one, List.drop_eq_getElem_cons h2, List.take_succ_cons, List.take_zero]
      have := vals_get X i (by omega)
      rw [List.getElem?_eq_getElem h2] at this
      injection this with this
      rw [this]
    refine ⟨[.int .u8 (nth X i : Nat)], ?_⟩
    have hx : nth X i < 256 := hb _ (by unfold nth; rw [List.getD_eq_getElem?_getD, List.getElem?_eq_getElem (show i < X.length by omega)]; exact List.getElem_mem _)
    rw [e]
    unfold Program.keyLits
    simp only [Tryd.underlying5]
    rw [if_pos ⟨trivial, by
      show (decide (IntKind.u8.min ≤ ((nth X i : Nat) : Int)) && decide (((nth X i : Nat) : Int) ≤ IntKind.u8.max)) = true
      rw [show IntKind.u8.min = 0 from by decide, show IntKind.u8.max = 255 from by decide, decide_eq_true (by omega), decide_eq_true (by omega)]
      rfl⟩])
  refine ⟨ys.flatten, ?_⟩
  unfold Program.keyLits
  simp only [Tryd.underlying32, show Tryd.prog.cellsOf 32 = 32 from by kernel_rfl, show Tryd.prog.cellsOf 5 = 1 from by kernel_rfl]
  rw [if_pos hs, hys]; rfl
set_option maxRecDepth 100000 in
theorem lits_u32 {n : Nat} (hn : n < 4294967296) (m : Nat) : Tryd.prog.keyLits (m + 1) 22 [.int .u32 (n : Int)] = some [.int .u32 (n : Int)] := by
  unfold Program.keyLits
  simp only [Tryd.underlying22]
  rw [if_pos ⟨trivial, by
    show (decide (IntKind.u32.min ≤ (n : Int)) && decide ((n : Int) ≤ IntKind.u32.max)) = true
    rw [show IntKind.u32.min = 0 from by decide, show IntKind.u32.max = 4294967295 from by decide, decide_eq_true (by omega), decide_eq_true (by omega)]
    rfl⟩]
set_option maxRecDepth 100000 in
theorem places_named : (Tryd.prog.fieldsOf 53).all (fun f => f.name != "_") = true := by kernel_rfl
set_option maxRecDepth 100000 in
theorem key_place {X : List Nat} {n : Nat} (hl : X.length = 32) (hb : AllB X) (hn : n < 4294967296) : ∃ l, keyOf Tryd.prog 53 (.agg (fromV X n).toArray) = some l := by
  have hs : (fromV X n).length = 33 := fromV_len hl n
  have hc : Tryd.prog.cellsOf 53 = 33 := by kernel_rfl
  have hu : Tryd.prog.underlying 53 = some (.struct (Tryd.prog.fieldsOf 53)) := by kernel_rfl
  have hf : (Value.agg (fromV X n).toArray).formed Tryd.prog 53 = true := by
    unfold Value.formed
    simp [hu, hc, hs]
  have hk : Tryd.prog.keyType 53 = true := by kernel_rfl
  have h2 : 2 ≤ Tryd.prog.types.size := Nat.le_trans (by decide) (Nat.le_of_lt Tryd.rowPl)
  obtain ⟨m, hm⟩ : ∃ m, Tryd.prog.types.size = m + 2 := ⟨_, (Nat.sub_add_cancel h2).symm⟩
  obtain ⟨l1, e1⟩ := lits_hash hl hb m
  have e2 := lits_u32 hn (m + 1)
  have d0 : ((fromV X n).drop 0).take 32 = vals X := by
    rw [List.drop_zero]; unfold fromV
    exact List.take_left' (by rw [vals_length, hl])
  have d1 : ((fromV X n).drop 32).take 1 = [.int .u32 (n : Int)] := by
    unfold fromV
    rw [List.drop_left' (by rw [vals_length, hl])]; rfl
  have hfd := fields_place
  have hnm := places_named
  unfold keyOf
  simp only [hu, hk, hf, Bool.and_self, if_true, hm, Value.cells]
  suffices h : ∃ ls, Tryd.prog.keyLits (m + 2 + 1) 53 (fromV X n) = some ls by
    obtain ⟨ls, h⟩ := h
    rw [h]
    exact ⟨_, rfl⟩
  unfold Program.keyLits
  simp only [hu, hc]
  obtain ⟨fs, hfs⟩ : ∃ fs, Tryd.prog.fieldsOf 53 = fs := ⟨_, rfl⟩
  rw [hfs] at hfd hnm ⊢
  rw [if_pos ⟨hs, hnm⟩]
  obtain ⟨fl⟩ := fs
  match fl, hfd with
  | [f0, f1], hfd =>
    simp only [List.map_cons, List.map_nil, List.cons.injEq, and_true, Prod.mk.injEq] at hfd
    obtain ⟨⟨_, a0, b0⟩, ⟨_, a1, b1⟩⟩ := hfd
    simp only [List.mapM_cons, List.mapM_nil, a0, b0, a1, b1, show Tryd.prog.cellsOf 32 = 32 from by kernel_rfl, show Tryd.prog.cellsOf 22 = 1 from by kernel_rfl, d0, d1, e1, e2]
    exact ⟨_, rfl⟩
set_option maxRecDepth 100000 in
theorem plain_bool_inv {v : Value} {x : Bool} {ps : List MemPlace} (h : plainElem (H := Unit) Tryd.prog 4 v = some (.lit (.bool x), ps)) : v = .bool x := by
  unfold plainElem at h
  rw [Tryd.underlying4] at h
  cases v <;> simp at h
  rw [h.1]
set_option maxRecDepth 100000 in
theorem vals_inj : ∀ {a b : List Nat}, vals a = vals b → a = b
  | [], [], _ => rfl
  | [], _ :: _, h => by simp [vals] at h
  | _ :: _, [], h => by simp [vals] at h
  | x :: a, y :: b, h => by
    simp only [vals, List.map_cons, List.cons.injEq] at h
    obtain ⟨h1, h2⟩ := h
    injection h1 with _ h1
    rw [vals_inj (a := a) (b := b) h2, show x = y by omega]
set_option maxRecDepth 100000 in
theorem fromV_inj {a b : List Nat} {n m : Nat} (ha : a.length = 32) (hb : b.length = 32) (h : fromV a n = fromV b m) : (a, n) = (b, m) := by
  unfold fromV at h
  obtain ⟨h1, h2⟩ := List.append_inj h (by rw [vals_length, vals_length, ha, hb])
  injection h2 with h2
  injection h2 with _ h2
  rw [vals_inj h1, show n = m by omega]
/-- A place. -/
def OkP (p : List Nat × Nat) : Prop := p.1.length = 32 ∧ AllB p.1 ∧ p.2 < 4294967296
/-- Block b is a map whose keys are those of S, each with true. -/
def MP (w : World) (b n : Nat) (S : List (List Nat × Nat)) : Prop :=
  ∃ D : DataW Unit, w.ownsMap Tryd.prog 53 (plainElem Tryd.prog 4) b n D ∧ ∀ p, OkP p → ∀ l, keyOf Tryd.prog 53 (.agg (fromV p.1 p.2).toArray) = some l → D.atKey l (.lit (.bool false)) = .lit (.bool (decide (p ∈ S)))
section
variable {w w1 : World} {b n : Nat} {S : List (List Nat × Nat)} {p : List Nat × Nat}
set_option maxRecDepth 100000 in
theorem MP.lt (h : MP w b n S) : b < w.heap.size := by
  obtain ⟨D, h, _⟩ := h
  exact h.lt
set_option maxRecDepth 100000 in
theorem MP.later (h : MP w b n S) (g : Below w.heap.size w w1) : MP w1 b n S := by
  have hlt := h.lt
  obtain ⟨D, ⟨es, clock, hb, r⟩, h2⟩ := h
  exact ⟨D, ⟨es, clock, (g.block b hlt).trans hb, r⟩, h2⟩
set_option maxRecDepth 100000 in
theorem MP.made (w : World) : MP (w.alloc (.map #[] 0)) w.heap.size 0 [] := ⟨_, World.ownsMap_made w _ _ _, fun p _ l _ => by simp [DataW.atKey]⟩
set_option maxRecDepth 100000 in
theorem MP.look (h : MP w b n S) (o : OkP p) : (Instr.lookup 62 (.map (some b)) (.agg (fromV p.1 p.2).toArray) false).run Tryd.prog w = .ok (.bool (decide (p ∈ S))) w := by
  obtain ⟨D, h1, h2⟩ := h
  obtain ⟨l, hk⟩ := key_place o.1 o.2.1 o.2.2
  obtain ⟨v, ps, e1, e2⟩ := h1.lookup Tryd.keyedPl Tryd.underlying62 (z := .bool false) (by kernel_rfl) (plainElem_bool Tryd.underlying4 false) hk
  rw [h2 p o l hk] at e2
  rw [e1, plain_bool_inv e2]
set_option maxRecDepth 100000 in
theorem MP.put (h : MP w b n S) (hn : n < maxLen) (o : OkP p) : ∃ w', (Instr.mapUpdate 62 (.map (some b)) (.agg (fromV p.1 p.2).toArray) (.bool true)).run Tryd.prog w = .ok () w' ∧ MP w' b (n + 1) (S ++ [p]) ∧ w.grownBy w' (some b) := by
  obtain ⟨D, h1, h2⟩ := h
  obtain ⟨l, hk⟩ := key_place o.1 o.2.1 o.2.2
  obtain ⟨w', e1, e2, e3⟩ := h1.update Tryd.keyedPl Tryd.underlying62 hn (val := .bool true) hk (plainElem_bool Tryd.underlying4 true)
  refine ⟨w', e1, ⟨_, e2, fun y hy m hm => ?_⟩, e3⟩
  by_cases e : y = p
  · subst e
    rw [hk] at hm
    injection hm with hm
    subst hm
    rw [Go.Maps.atKey_put_same h1.isMap (Tryd.keyedPl.key hk)]
    simp
  · rw [Go.Maps.atKey_put_other (fun q => e (by
      subst q
      have := Tryd.keyedPl.inj hm hk
      injection this with this
      exact fromV_inj hy.1 o.1 (by simpa using this))), h2 y hy m hm]
    simp [e]
end
section
variable {w : World} {ops : Array Oper} {rest : List Oper} {o : Oper} {a : Act} {Q : Exit → Act → World → Prop} {b n : Nat} {S : List (List Nat × Nat)} {p : List Nat × Nat}
set_option maxRecDepth 100000 in
theorem wpList_putP (hgd : o.guard = none) (m x : Operand) (ho : o.op = .mapUpdate 62 m x (.const (.bool true))) (hm : a.eval m = .map (some b)) (hx : a.eval x = .agg (fromV p.1 p.2).toArray) (h : MP w b n S) (hn : n < maxLen) (ok : OkP p)
    (hw : ∀ w', MP w' b (n + 1) (S ++ [p]) → w.grownBy w' (some b) → wpList Tryd.prog ops Q rest (a.put o.dst undef) w') : wpList Tryd.prog ops Q (o :: rest) a w := by
  refine wpList_plain hgd fun K hK => ?_
  obtain ⟨w', h1, h2, h3⟩ := h.put hn ok
  have e := hK _ _ (hw w' h2 h3)
  unfold Oper.wp execOp
  have hc : a.eval (.const (.bool true)) = .bool true := rfl
  simp only [ho, hm, hx, hc, Sem.run_bind, h1, Result.andThen_ok]
  exact e
end
end Go.Proofs.YtbdjcbdnhaddoaaDoor
