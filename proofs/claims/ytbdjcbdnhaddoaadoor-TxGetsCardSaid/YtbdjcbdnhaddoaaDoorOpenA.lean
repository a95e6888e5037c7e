/- Transactions, bytes and numbers that came in as arguments; the door's own heap. No condition. -/
import Derived.Test.YtbdjcbdnhaddoaaDoorGs
import Derived.Test.YtbdjcbdnhaddoaaDoorGt
import Derived.ChangeOld
import Derived.ChangeMaps5
import Derived.Laws.IdiomArrays
import Derived.Below
namespace Go.Proofs.YtbdjcbdnhaddoaaDoor
open Go.ChangeShapes Go.WideShapes Go.ChangeAt Go.RowKit Go.ChangeMaps

theorem take_drop_app {α : Type} (L : List α) (i a b : Nat) : (L.drop i).take a ++ (L.drop (i + a)).take b = (L.drop i).take (a + b) := by
  rw [← List.drop_drop, List.take_add]
theorem Tryd.cellsHash : Tryd.prog.cellsOf 32 = 32 := by kernel_rfl
theorem Tryd.cellsPl : Tryd.prog.cellsOf 53 = 33 := by kernel_rfl
theorem Tryd.cellsIn : Tryd.prog.cellsOf 56 = 36 := by kernel_rfl
theorem Tryd.cellsOut : Tryd.prog.cellsOf 46 = 2 := by kernel_rfl
theorem Tryd.cellsTx : Tryd.prog.cellsOf 26 = 4 := by kernel_rfl
theorem Tryd.cellsB : Tryd.prog.cellsOf 5 = 1 := by kernel_rfl
theorem Tryd.cellsU64 : Tryd.prog.cellsOf 44 = 1 := by kernel_rfl
theorem Tryd.cellsBs : Tryd.prog.cellsOf 29 = 1 := by kernel_rfl
theorem Tryd.cellsBss : Tryd.prog.cellsOf 54 = 1 := by kernel_rfl
theorem Tryd.cellsIns : Tryd.prog.cellsOf 23 = 1 := by kernel_rfl
theorem Tryd.cellsOuts : Tryd.prog.cellsOf 24 = 1 := by kernel_rfl
theorem bytesBs : Tryd.prog.bytesOf 29 = 24 := by kernel_rfl
theorem bytesIn : Tryd.prog.bytesOf 56 = 96 := by kernel_rfl
theorem bytesOut : Tryd.prog.bytesOf 46 = 32 := by kernel_rfl
theorem fields_pl : (Tryd.prog.fieldsOf 53).toList.map (fun f => (f.name, f.type, f.offset)) = [("Tx", 32, 0), ("N", 22, 32)] := by kernel_rfl
theorem fields_in : (Tryd.prog.fieldsOf 56).toList.map (fun f => (f.name, f.type, f.offset)) = [("From", 53, 0), ("Script", 29, 33), ("Seq", 22, 34), ("Witness", 54, 35)] := by kernel_rfl
theorem fields_out : (Tryd.prog.fieldsOf 46).toList.map (fun f => (f.name, f.type, f.offset)) = [("Value", 44, 0), ("Script", 29, 1)] := by kernel_rfl
theorem fields_tx : (Tryd.prog.fieldsOf 26).toList.map (fun f => (f.name, f.type, f.offset)) = [("Version", 22, 0), ("Ins", 23, 1), ("Outs", 24, 2), ("Lock", 22, 3)] := by kernel_rfl
set_option maxRecDepth 100000 in
/-- The door's own heap meets the condition. -/
theorem door_met (os : Os) (args : Array Value) : laidMetH Tryd.prog laidL ((World.doorLaid Tryd.prog 65 os).forCall (fun _ _ => 0) ⟨#[], args, []⟩).memory :=
  laidMetH_of_parts3 (fuel := 8) (laidMet_of_run' 8 (by kernel_rfl) (by kernel_rfl)) (by kernel_rfl) (by kernel_rfl)

theorem weights_in {H : Type} {P : Program} {e : TypeId} {d : DataW H} {x : Nat} (hx : x ∈ d.weights P e) : ∀ {l : List (DataW H)}, d ∈ l → x ∈ DataW.weightsAll P e l
  | [], h => by cases h
  | a :: l, h => by
    rw [DataW.weightsAll, List.mem_append]
    rcases List.mem_cons.1 h with rfl | h
    · exact Or.inl hx
    · exact Or.inr (weights_in hx h)
/-- All that is said weighs no more than a machine's reach. -/
def Light {H : Type} (d : DataW H) (T : TypeId) : Prop := ∀ y ∈ d.weights Tryd.prog T, y ≤ reachBytes
section
variable {H : Type} {enc : TypeId × Value → H} {W : World} {base : Nat} {v : Value} {d : DataW H} {p : List MemPlace}
variable {spare : Nat → Bool} {held : Bool} {fuel : Nat} {cs : List Value} {x : DataW H × List MemPlace}
theorem trod_u32 (h : DataW.trod enc Tryd.prog W 0 spare held fuel 22 cs = some x) : ∃ n : Nat, n < 4294967296 ∧ cs = [.int .u32 (n : Int)] := by
  obtain ⟨q, e0, _, w0⟩ := DataW.trod_int Tryd.underlying22 h
  have b0 := bounds_u32 w0
  exact ⟨q.toNat, by omega, by rw [e0]; rw [Int.toNat_of_nonneg b0.1]⟩
theorem trod_u64 (h : DataW.trod enc Tryd.prog W 0 spare held fuel 44 cs = some x) : ∃ n : Nat, n < 18446744073709551616 ∧ cs = [.int .u64 (n : Int)] := by
  obtain ⟨q, e0, _, w0⟩ := DataW.trod_int Tryd.underlying44 h
  have b0 := bounds_u64 w0
  exact ⟨q.toNat, by omega, by rw [e0]; rw [Int.toNat_of_nonneg b0.1]⟩
theorem trod_hash (h : DataW.trod enc Tryd.prog W 0 spare held fuel 32 cs = some x) : ∃ L : List Nat, L.length = 32 ∧ AllB L ∧ cs = vals L := by
  obtain ⟨xs, m, _, _, hcl, hxl, hx⟩ := Go.DataW.trod_array Tryd.underlying32 h
  rw [Tryd.cellsHash] at hcl
  have each : ∀ i, i < 32 → ∃ n : Nat, n < 256 ∧ cs[i]? = some (.int .u8 (n : Nat)) := fun i hi => by
    have h1 := hx i hi
    rw [Tryd.cellsB, Nat.mul_one, List.getElem?_eq_getElem (by omega)] at h1
    have hl : cs[i]? = some cs[i] := List.getElem?_eq_getElem (by omega)
    have hdt : (cs.drop i).take 1 = [cs[i]] := by
      rw [List.drop_eq_getElem_cons (by omega)]; rfl
    rw [hdt] at h1
    obtain ⟨n, e0, _, w0⟩ := DataW.trod_int Tryd.underlying5 h1
    have b0 := bounds_u8 w0
    refine ⟨n.toNat, by omega, ?_⟩
    rw [hl, Int.toNat_of_nonneg b0.1]
    simpa using e0
  obtain ⟨f, hf'⟩ := Deep.choose_lt (α := Nat) (p := fun i n => n < 256 ∧ cs[i]? = some (.int .u8 (n : Nat))) each
  refine ⟨(List.range 32).map f, by simp, fun x hx => ?_, ?_⟩
  · simp only [List.mem_map, List.mem_range] at hx
    obtain ⟨i, hi, rfl⟩ := hx
    exact (hf' i hi).1
  · refine List.ext_getElem? fun i => ?_
    by_cases hi : i < 32
    · rw [(hf' i hi).2, vals, List.map_map, List.getElem?_map, List.getElem?_range hi]; rfl
    · rw [List.getElem?_eq_none (by omega), List.getElem?_eq_none (by simp [vals]; omega)]
theorem trod_bytes (hf : DataW.trod enc Tryd.prog W 0 spare held fuel 29 cs = some x) (hw : Light x.1 29) :
    ∃ (A : Option Addr) (n c : Nat) (L : List Nat), cs = [.slice A n c] ∧ n ≤ c ∧ n ≤ 140737488351232 ∧ Bs W A n L := by
  rcases Deep.open_slice1 Tryd.underlying29 Tryd.cellsB hf with ⟨e, _⟩ | ⟨a, len, cap, m, _, V, D, Pl, e, _, hlc, hcm, hm, hxx, hx⟩
  · exact ⟨none, 0, 0, [], e, Nat.le_refl _, by decide, Bs.nil _ _⟩
  · have hb : Tryd.prog.bytesOf 5 = 1 := by kernel_rfl
    have hm' : len ≤ m := by rw [hm]; split <;> omega
    have hl := hw ((len + (m - len)) * 1) (by
      rw [hxx, DataW.weights, Tryd.underlying29]
      simp [hb])
    unfold reachBytes at hl
    have each : ∀ i, i < len → ∃ x : Nat, x < 256 ∧ W.cell? (a.add i) = some (.int .u8 (x : Nat)) := fun i hi => by
      obtain ⟨h1, h2⟩ := hx i (by omega)
      obtain ⟨q, e0, _, w0⟩ := DataW.trod_int Tryd.underlying5 h2
      simp at e0
      have b0 := bounds_u8 w0
      exact ⟨q.toNat, by omega, by rw [h1, e0, Int.toNat_of_nonneg b0.1]⟩
    obtain ⟨f, hf'⟩ := Deep.choose_lt (α := Nat) (p := fun i x => x < 256 ∧ W.cell? (a.add i) = some (.int .u8 (x : Nat))) each
    refine ⟨some a, len, cap, (List.range len).map f, e, hlc, by omega, ⟨by simp, fun x hx => ?_, fun hn => ⟨a, rfl, ?_, fun k hk => ?_⟩⟩⟩
    · simp only [List.mem_map, List.mem_range] at hx
      obtain ⟨i, hi, rfl⟩ := hx
      exact (hf' i hi).1
    · have := World.block_lt_of_cell? _ _ (hf' 0 hn).2
      rwa [add_block] at this
    · rw [(hf' k hk).2]
      simp [nth, List.getD, hk]
/-- Elements that lie one behind the other. -/
theorem rows_of {α : Type} {sz : Nat} {R : Reads α} {b o : Nat} (f : Nat → List Value × α) (h : ∀ i, (f i).1.length = sz → True) : ∀ (n : Nat), (∀ i, i < n → (f i).1.length = sz ∧ W.rangeAt b (o + i * sz) (f i).1 ∧ R W anyP (f i).1 (f i).2) → ∃ cs l, l.length = n ∧ W.rangeAt b o cs ∧ Each sz (R W anyP) cs l
  | 0, _ => ⟨[], [], rfl, fun j v hj => by simp at hj, .nil⟩
  | n + 1, hi => by
    obtain ⟨cs, l, h1, h2, h3⟩ := rows_of f h n (fun i hlt => hi i (by omega))
    obtain ⟨g1, g2, g3⟩ := hi n (by omega)
    have hlen := h3.len
    refine ⟨cs ++ (f n).1, l ++ [(f n).2], by rw [List.length_append, h1]; rfl, fun j v hj => ?_, h3.app (Each.one g1 g3)⟩
    by_cases hlt : j < cs.length
    · rw [List.getElem?_append_left hlt] at hj
      exact h2 j v hj
    · rw [List.getElem?_append_right (by omega)] at hj
      have := g2 _ v hj
      rwa [show o + n * sz + (j - cs.length) = o + j by rw [hlen, h1]; rw [hlen, h1] at hlt; omega] at this
theorem trod_rows {α : Type} {S T : TypeId} {sz : Nat} {R : Reads α} (hu : Tryd.prog.underlying S = some (.slice T)) (hc : Tryd.prog.cellsOf T = sz) (hsz : 0 < sz) (hb : 1 ≤ Tryd.prog.bytesOf T) (hi : Inhabited α)
    (hel : ∀ {fu : Nat} {cs' : List Value} {y : DataW H × List MemPlace}, DataW.trod enc Tryd.prog W 0 spare held fu T cs' = some y → Light y.1 T → cs'.length = sz ∧ ∃ e, R W anyP cs' e)
    (hf : DataW.trod enc Tryd.prog W 0 spare held fuel S cs = some x) (hw : Light x.1 S) :
    ∃ (A : Option Addr) (n c : Nat) (l : List α), cs = [.slice A n c] ∧ n ≤ c ∧ n ≤ 140737488351232 ∧ Rows W anyP sz R A n l := by
  rcases Deep.open_slice hu hf with ⟨e, _⟩ | ⟨a, len, cap, m, fu, D, Pl, e, _, hlc, hcm, hm, hxx, hx⟩
  · exact ⟨none, 0, 0, [], e, Nat.le_refl _, by decide, Rows.nil _ _ _ _ _⟩
  · have hm' : len ≤ m := by rw [hm]; split <;> omega
    have hl := hw ((len + (m - len)) * Tryd.prog.bytesOf T) (by
      rw [hxx, DataW.weights, hu]
      simp)
    unfold reachBytes at hl
    have hl2 : len ≤ 140737488351232 := by
      have : len * 1 ≤ (len + (m - len)) * Tryd.prog.bytesOf T := Nat.mul_le_mul (by omega) hb
      omega
    have each : ∀ i, i < len → ∃ g : List Value × α, g.1.length = sz ∧ (∀ q u, g.1[q]? = some u → W.cell? ((a.add (i * sz)).add q) = some u) ∧ R W anyP g.1 g.2 := fun i hlt => by
      obtain ⟨cs', h1, h2⟩ := hx i (by omega)
      rw [hc] at h1
      obtain ⟨_, hlen, hcel⟩ := World.cells?_some h1
      obtain ⟨g1, e2, g2⟩ := hel h2 (fun z hz => hw z (by
        rw [hxx, DataW.weights, hu]
        exact List.mem_cons_of_mem _ (List.mem_append_left _ (weights_in hz (List.mem_map.2 ⟨i, List.mem_range.2 hlt, rfl⟩)))))
      refine ⟨(cs', e2), g1, fun q u hq => ?_, g2⟩
      have hq2 := (List.getElem?_eq_some_iff.1 hq).1
      rw [hcel q (by rw [← hlen]; exact hq2)]
      exact hq
    obtain ⟨f, hf'⟩ := Deep.choose_lt (α := List Value × α) (p := fun i g => g.1.length = sz ∧ (∀ q u, g.1[q]? = some u → W.cell? ((a.add (i * sz)).add q) = some u) ∧ R W anyP g.1 g.2) each
    rcases Nat.eq_zero_or_pos len with h0 | h0
    · subst h0
      exact ⟨some a, 0, cap, [], e, hlc, hl2, Rows.nil _ _ _ _ _⟩
    · obtain ⟨l0, hc0, _⟩ := hf' 0 h0
      obtain ⟨u, hu0⟩ : ∃ u, (f 0).1[0]? = some u := ⟨_, List.getElem?_eq_getElem (by omega)⟩
      have c0 := hc0 0 u hu0
      have e0 : (a.add (0 * sz)).add 0 = a := by rw [Nat.zero_mul]; rfl
      rw [e0] at c0
      obtain ⟨b, o, rfl⟩ : ∃ b o, a = ⟨b, o, none⟩ := by
        unfold World.cell? at c0
        split at c0
        · split at c0
          · cases c0
          · rename_i hs
            obtain ⟨b, o, s⟩ := a
            cases s with
            | none => exact ⟨b, o, rfl⟩
            | some x => simp at hs
        · cases c0
      obtain ⟨cs2, l, k1, k2, k3⟩ := rows_of (W := W) (b := b) (o := o) (R := R) f (fun _ _ => trivial) len (fun i hlt => by
        obtain ⟨g1, g2, g3⟩ := hf' i hlt
        exact ⟨g1, fun q u hq => by have := g2 q u hq; rwa [add_at, add_at] at this, g3⟩)
      exact ⟨_, len, cap, l, e, hlc, hl2, ⟨k1, fun _ => ⟨b, o, cs2, rfl, World.block_lt_of_cell? _ _ c0, trivial, k2, k3⟩⟩⟩
set_option maxRecDepth 100000 in
theorem trod_pl (h : DataW.trod enc Tryd.prog W 0 spare held fuel 53 cs = some x) : ∃ (L : List Nat) (n : Nat), L.length = 32 ∧ AllB L ∧ n < 4294967296 ∧ cs = vals L ++ [.int .u32 (n : Int)] := by
  have hu : Tryd.prog.underlying 53 = some (.struct (Tryd.prog.fieldsOf 53)) := by kernel_rfl
  obtain ⟨xs, n, _, _, hcl, hxl, hf⟩ := DataW.trod_struct hu h
  rw [Tryd.cellsPl] at hcl
  have hfd := fields_pl
  obtain ⟨fs, hfs⟩ : ∃ fs, Tryd.prog.fieldsOf 53 = fs := ⟨_, rfl⟩
  rw [hfs] at hf hfd hxl
  obtain ⟨l⟩ := fs
  match l, hfd, hf, hxl with
  | [f0, f1], hfd, hf, hxl =>
    simp only [List.map_cons, List.map_nil, List.cons.injEq, and_true, Prod.mk.injEq] at hfd
    obtain ⟨⟨_, a0, b0⟩, ⟨_, a1, b1⟩⟩ := hfd
    match xs, hxl with
    | [y0, y1], _ =>
      have g0 := hf 0 f0 rfl
      have g1 := hf 1 f1 rfl
      rw [a0, b0, Tryd.cellsHash] at g0
      rw [a1, b1, Tryd.cells33] at g1
      obtain ⟨L, hL, hb, e0⟩ := trod_hash (x := y0) g0
      obtain ⟨n, hn, e1⟩ := trod_u32 (x := y1) g1
      refine ⟨L, n, hL, hb, hn, ?_⟩
      have e : cs = (cs.drop 0).take 32 ++ (cs.drop 32).take 1 := by
        rw [take_drop_app cs 0 32 1]
        simp [List.take_of_length_le, hcl]
      rw [e, e0, e1]
set_option maxRecDepth 100000 in
theorem trod_wit (hf : DataW.trod enc Tryd.prog W 0 spare held fuel 54 cs = some x) (hw : Light x.1 54) :
    ∃ (A : Option Addr) (n c : Nat) (l : List (List Nat)), cs = [.slice A n c] ∧ n ≤ c ∧ n ≤ 140737488351232 ∧ Rows W anyP 1 BsR A n l :=
  trod_rows (S := 54) (T := 29) (sz := 1) (R := BsR) (by kernel_rfl) Tryd.cellsBs (by decide) (by rw [bytesBs]; decide) ⟨[]⟩ (fun h1 h2 => by
    obtain ⟨A, n, c, L, e, k1, k2, k3⟩ := trod_bytes h1 h2
    exact ⟨by rw [e]; rfl, L, A, n, c, e, k1, k2, k3.p⟩) hf hw
set_option maxRecDepth 100000 in
theorem rows_byt {A : Option Addr} {n : Nat} {l : List (List Nat)} (h : Rows W anyP 1 BsR A n l) : AllBB l := h.all fun _ _ ⟨_, _, _, _, _, _, b⟩ => b.bs.byt
set_option maxRecDepth 100000 in
theorem light_each {xs : List (DataW H × List MemPlace)} {T : TypeId} {fs : Array Field} (hu : Tryd.prog.underlying T = some (.struct fs)) (hw : Light (.agg (xs.map (·.1))) T) : ∀ y ∈ DataW.weightsEach Tryd.prog (fs.toList.map (·.type)) (xs.map (·.1)), y ≤ reachBytes := fun y hy => hw y (by rw [DataW.weights, hu]; exact hy)
set_option maxRecDepth 100000 in
theorem trod_in (h : DataW.trod enc Tryd.prog W 0 spare held fuel 56 cs = some x) (hw : Light x.1 56) : cs.length = 36 ∧ ∃ i, InR W anyP cs i := by
  have hu : Tryd.prog.underlying 56 = some (.struct (Tryd.prog.fieldsOf 56)) := by kernel_rfl
  obtain ⟨xs, n, _, hx, hcl, hxl, hf⟩ := DataW.trod_struct hu h
  rw [hx] at hw
  have hwe := light_each hu hw
  rw [Tryd.cellsIn] at hcl
  have hfd := fields_in
  obtain ⟨fs, hfs⟩ : ∃ fs, Tryd.prog.fieldsOf 56 = fs := ⟨_, rfl⟩
  rw [hfs] at hf hfd hxl hwe
  obtain ⟨l⟩ := fs
  match l, hfd, hf, hxl, hwe with
  | [f0, f1, f2, f3], hfd, hf, hxl, hwe =>
    simp only [List.map_cons, List.map_nil, List.cons.injEq, and_true, Prod.mk.injEq] at hfd
    obtain ⟨⟨_, a0, b0⟩, ⟨_, a1, b1⟩, ⟨_, a2, b2⟩, ⟨_, a3, b3⟩⟩ := hfd
    match xs, hxl, hwe with
    | [y0, y1, y2, y3], _, hwe =>
      simp only [List.map_cons, List.map_nil, DataW.weightsEach, a0, a1, a2, a3] at hwe
      have g0 := hf 0 f0 rfl
      have g1 := hf 1 f1 rfl
      have g2 := hf 2 f2 rfl
      have g3 := hf 3 f3 rfl
      rw [a0, b0, Tryd.cellsPl] at g0
      rw [a1, b1, Tryd.cellsBs] at g1
      rw [a2, b2, Tryd.cells33] at g2
      rw [a3, b3, Tryd.cellsBss] at g3
      obtain ⟨L, m, hL, hb, hm, e0⟩ := trod_pl (x := y0) g0
      obtain ⟨As, ns, cs', S, e1, s1, s2, s3⟩ := trod_bytes (x := y1) g1 (fun y hy => hwe y (List.mem_append_right _ (List.mem_append_left _ hy)))
      obtain ⟨q, hq, e2⟩ := trod_u32 (x := y2) g2
      obtain ⟨Aw, nw, cw, Wl, e3, w1, w2, w3⟩ := trod_wit (x := y3) g3 (fun y hy => hwe y (List.mem_append_right _ (List.mem_append_right _ (List.mem_append_right _ (List.mem_append_left _ hy)))))
      refine ⟨hcl, ⟨L, m, S, q, Wl⟩, As, ns, cs', Aw, nw, cw, ?_, ⟨hL, hb, hm, s3.byt, hq, rows_byt w3⟩, s1, s2, s3.p, w1, w2, w3⟩
      have e : cs = (cs.drop 0).take 33 ++ ((cs.drop 33).take 1 ++ ((cs.drop 34).take 1 ++ (cs.drop 35).take 1)) := by
        rw [take_drop_app cs 34 1 1, take_drop_app cs 33 1 2, take_drop_app cs 0 33 3]
        simp [List.take_of_length_le, hcl]
      rw [e, e0, e1, e2, e3]
      unfold inV
      simp
set_option maxRecDepth 100000 in
theorem trod_out (h : DataW.trod enc Tryd.prog W 0 spare held fuel 46 cs = some x) (hw : Light x.1 46) : cs.length = 2 ∧ ∃ o, OutR W anyP cs o := by
  have hu : Tryd.prog.underlying 46 = some (.struct (Tryd.prog.fieldsOf 46)) := by kernel_rfl
  obtain ⟨xs, n, _, hx, hcl, hxl, hf⟩ := DataW.trod_struct hu h
  rw [hx] at hw
  have hwe := light_each hu hw
  rw [Tryd.cellsOut] at hcl
  have hfd := fields_out
  obtain ⟨fs, hfs⟩ : ∃ fs, Tryd.prog.fieldsOf 46 = fs := ⟨_, rfl⟩
  rw [hfs] at hf hfd hxl hwe
  obtain ⟨l⟩ := fs
  match l, hfd, hf, hxl, hwe with
  | [f0, f1], hfd, hf, hxl, hwe =>
    simp only [List.map_cons, List.map_nil, List.cons.injEq, and_true, Prod.mk.injEq] at hfd
    obtain ⟨⟨_, a0, b0⟩, ⟨_, a1, b1⟩⟩ := hfd
    match xs, hxl, hwe with
    | [y0, y1], _, hwe =>
      simp only [List.map_cons, List.map_nil, DataW.weightsEach, a0, a1] at hwe
      have g0 := hf 0 f0 rfl
      have g1 := hf 1 f1 rfl
      rw [a0, b0, Tryd.cellsU64] at g0
      rw [a1, b1, Tryd.cellsBs] at g1
      obtain ⟨m, hm, e0⟩ := trod_u64 (x := y0) g0
      obtain ⟨As, ns, cs', S, e1, s1, s2, s3⟩ := trod_bytes (x := y1) g1 (fun y hy => hwe y (List.mem_append_right _ (List.mem_append_left _ hy)))
      refine ⟨hcl, ⟨m, S⟩, As, ns, cs', ?_, ⟨hm, s3.byt⟩, s1, s2, s3.p⟩
      have e : cs = (cs.drop 0).take 1 ++ (cs.drop 1).take 1 := by
        rw [take_drop_app cs 0 1 1]
        simp [List.take_of_length_le, hcl]
      rw [e, e0, e1]
      rfl
set_option maxRecDepth 100000 in
theorem trod_tx (h : DataW.trod enc Tryd.prog W 0 spare held fuel 26 cs = some x) (hw : Light x.1 26) : ∃ t Ai ni ci Ao no co, cs = txV t.ver Ai ni ci Ao no co t.lock ∧ TxR W t Ai ni ci Ao no co := by
  have hu : Tryd.prog.underlying 26 = some (.struct (Tryd.prog.fieldsOf 26)) := by kernel_rfl
  obtain ⟨xs, n, _, hx, hcl, hxl, hf⟩ := DataW.trod_struct hu h
  rw [hx] at hw
  have hwe := light_each hu hw
  rw [Tryd.cellsTx] at hcl
  have hfd := fields_tx
  obtain ⟨fs, hfs⟩ : ∃ fs, Tryd.prog.fieldsOf 26 = fs := ⟨_, rfl⟩
  rw [hfs] at hf hfd hxl hwe
  obtain ⟨l⟩ := fs
  match l, hfd, hf, hxl, hwe with
  | [f0, f1, f2, f3], hfd, hf, hxl, hwe =>
    simp only [List.map_cons, List.map_nil, List.cons.injEq, and_true, Prod.mk.injEq] at hfd
    obtain ⟨⟨_, a0, b0⟩, ⟨_, a1, b1⟩, ⟨_, a2, b2⟩, ⟨_, a3, b3⟩⟩ := hfd
    match xs, hxl, hwe with
    | [y0, y1, y2, y3], _, hwe =>
      simp only [List.map_cons, List.map_nil, DataW.weightsEach, a0, a1, a2, a3] at hwe
      have g0 := hf 0 f0 rfl
      have g1 := hf 1 f1 rfl
      have g2 := hf 2 f2 rfl
      have g3 := hf 3 f3 rfl
      rw [a0, b0, Tryd.cells33] at g0
      rw [a1, b1, Tryd.cellsIns] at g1
      rw [a2, b2, Tryd.cellsOuts] at g2
      rw [a3, b3, Tryd.cells33] at g3
      obtain ⟨ver, hv, e0⟩ := trod_u32 (x := y0) g0
      obtain ⟨Ai, ni, ci, is, e1, i1, i2, i3⟩ := trod_rows (S := 23) (T := 56) (sz := 36) (R := InR) (by kernel_rfl) Tryd.cellsIn (by decide) (by rw [bytesIn]; decide) ⟨⟨[], 0, [], 0, []⟩⟩ (fun h1 h2 => trod_in h1 h2) (x := y1) g1 (fun y hy => hwe y (List.mem_append_right _ (List.mem_append_left _ hy)))
      obtain ⟨Ao, no, co, os, e2, o1, o2, o3⟩ := trod_rows (S := 24) (T := 46) (sz := 2) (R := OutR) (by kernel_rfl) Tryd.cellsOut (by decide) (by rw [bytesOut]; decide) ⟨⟨0, []⟩⟩ (fun h1 h2 => trod_out h1 h2) (x := y2) g2 (fun y hy => hwe y (List.mem_append_right _ (List.mem_append_right _ (List.mem_append_left _ hy))))
      obtain ⟨lk, hk, e3⟩ := trod_u32 (x := y3) g3
      refine ⟨⟨ver, is, os, lk⟩, Ai, ni, ci, Ao, no, co, ?_, hv, hk, i1, i2, i3, o1, o2, o3⟩
      have e : cs = (cs.drop 0).take 1 ++ ((cs.drop 1).take 1 ++ ((cs.drop 2).take 1 ++ (cs.drop 3).take 1)) := by
        rw [take_drop_app cs 2 1 1, take_drop_app cs 1 1 2, take_drop_app cs 0 1 3]
        simp [List.take_of_length_le, hcl]
      rw [e, e0, e1, e2, e3]
      rfl
set_option maxRecDepth 100000 in
theorem open_tx (hv : Value.okWide Tryd.prog W .any base 26 v) (h : DataW.Trod enc Tryd.prog W 0 (fun _ => true) true 26 v d p) (hw : ∀ y ∈ d.weights Tryd.prog 26, y ≤ reachBytes) : ∃ t Ai ni ci Ao no co, TxR W t Ai ni ci Ao no co ∧ v = .agg (txV t.ver Ai ni ci Ao no co t.lock).toArray := by
  obtain ⟨cs, rfl, _⟩ := okWide_struct (fs := Tryd.prog.fieldsOf 26) (by kernel_rfl) hv
  obtain ⟨fuel, hf⟩ := h
  obtain ⟨t, Ai, ni, ci, Ao, no, co, e, T⟩ := trod_tx (x := (d, p)) hf hw
  refine ⟨t, Ai, ni, ci, Ao, no, co, T, ?_⟩
  simp only [Value.cells] at e
  rw [← e]
set_option maxRecDepth 100000 in
theorem open_bytes (hv : Value.okWide Tryd.prog W .any base 29 v) (h : DataW.Trod enc Tryd.prog W 0 (fun _ => true) true 29 v d p) (hw : ∀ y ∈ d.weights Tryd.prog 29, y ≤ reachBytes) :
    ∃ (A : Option Addr) (n c : Nat) (L : List Nat), (n ≤ c ∧ n ≤ 140737488351232 ∧ Bs W A n L) ∧ v = .slice A n c := by
  obtain ⟨fuel, hf⟩ := h
  obtain ⟨A, n, c, rfl⟩ := okWide_slice Tryd.underlying29 hv
  obtain ⟨A', n', c', L, e, k1, k2, k3⟩ := trod_bytes (x := (d, p)) hf hw
  simp [Value.cells] at e
  obtain ⟨rfl, rfl, rfl⟩ := e
  exact ⟨A, n, c, L, ⟨k1, k2, k3⟩, rfl⟩
set_option maxRecDepth 100000 in
theorem open_u32 (hv : Value.okWide Tryd.prog W .any base 22 v) (h : DataW.Trod enc Tryd.prog W 0 (fun _ => true) true 22 v d p) : ∃ x : Nat, x < 4294967296 ∧ v = .int .u32 (x : Nat) := by
  obtain ⟨n, rfl, rfl, rfl, w⟩ := open_int Tryd.underlying22 hv h
  have b := bounds_u32 w
  exact ⟨n.toNat, by omega, by rw [Int.toNat_of_nonneg b.1]⟩
set_option maxRecDepth 100000 in
theorem open_u64 (hv : Value.okWide Tryd.prog W .any base 44 v) (h : DataW.Trod enc Tryd.prog W 0 (fun _ => true) true 44 v d p) : ∃ x : Nat, x < 18446744073709551616 ∧ v = .int .u64 (x : Nat) := by
  obtain ⟨n, rfl, rfl, rfl, w⟩ := open_int Tryd.underlying44 hv h
  have b := bounds_u64 w
  exact ⟨n.toNat, by omega, by rw [Int.toNat_of_nonneg b.1]⟩
set_option maxRecDepth 100000 in
theorem open_i8 (hv : Value.okWide Tryd.prog W .any base 49 v) (h : DataW.Trod enc Tryd.prog W 0 (fun _ => true) true 49 v d p) : ∃ x : Int, (-128 ≤ x ∧ x < 128) ∧ v = .int .i8 x := by
  obtain ⟨n, rfl, rfl, rfl, w⟩ := open_int Tryd.underlying49 hv h
  have b := bounds_i8 w
  exact ⟨n, by omega, rfl⟩
end
end Go.Proofs.YtbdjcbdnhaddoaaDoor
