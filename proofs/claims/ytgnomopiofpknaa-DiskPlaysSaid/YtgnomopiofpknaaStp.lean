/- Steps: as data, in memory, and as they come in. No condition. -/
import Derived.Test.YtgnomopiofpknaaWorks
import Derived.Test.YtgnomopiofpknaaDOpen
namespace Go.Proofs.Ytgnomopiofpknaa
open Go.ChangeShapes Go.WideShapes Go.ChangeAt Go.RowKit Go.ChangeMaps

structure StepD where
  k : Nat
  f : Int
  n : Int
  b : List Nat
  p : List Int
def stepV (k : Nat) (f n : Int) (B : Option Addr) (nb cb : Nat) (Q : Option Addr) (nq cq : Nat) : List Value := [.int .u8 (k : Int), .int .i64 f, .int .i64 n, .slice B nb cb, .slice Q nq cq]
structure StepD.Ok (s : StepD) : Prop where
  k : s.k < 256
  f : -9223372036854775808 ≤ s.f ∧ s.f ≤ 9223372036854775807
  n : -9223372036854775808 ≤ s.n ∧ s.n ≤ 9223372036854775807
/-- Ints that lie in a block of P. -/
structure ZsP (w : World) (P : Nat → Prop) (A : Option Addr) (n : Nat) (L : List Int) : Prop where
  zs : Zs w A n L
  inP : 0 < n → ∀ a, A = some a → P a.block
theorem Zs.p {w : World} {A : Option Addr} {n : Nat} {L : List Int} (h : Zs w A n L) : ZsP w anyP A n L := ⟨h, fun _ _ _ => trivial⟩
theorem ZsP.keep {w w' : World} {P : Nat → Prop} {A : Option Addr} {n : Nat} {L : List Int} (h : ZsP w P A n L) (g : Kept P w w') : ZsP w' P A n L :=
  ⟨⟨h.zs.len, h.zs.rng, fun k hk => by
    obtain ⟨a, e, hb, hc⟩ := h.zs.cel k hk
    have hp := h.inP (by omega) a e
    exact ⟨a, e, Nat.lt_of_lt_of_le hb g.size, by rw [g.cell (by rw [add_block]; exact hp) (by rw [add_block]; exact hb)]; exact hc⟩⟩, h.inP⟩
theorem ZsP.weak {w : World} {P Q : Nat → Prop} {A : Option Addr} {n : Nat} {L : List Int} (h : ZsP w P A n L) (q : ∀ b, P b → b < w.heap.size → Q b) : ZsP w Q A n L :=
  ⟨h.zs, fun hn a e => by
    obtain ⟨a', e', hb, _⟩ := h.zs.cel 0 hn
    rw [e] at e'
    injection e' with e'
    subst e'
    exact q _ (h.inP hn a e) hb⟩
theorem Zs.later {w w' : World} {A : Option Addr} {n : Nat} {L : List Int} (h : Zs w A n L) (g : Below w.heap.size w w') : Zs w' A n L := (h.p.keep (Kept.of_below g)).zs
/-- How a step reads. -/
def StepR : Reads StepD := fun w P V s => ∃ B cb Q cq, V = stepV s.k s.f s.n B s.b.length cb Q s.p.length cq ∧ s.Ok ∧ (s.b.length ≤ cb ∧ s.b.length ≤ 140737488351232) ∧ cb ≤ 9223372036854775807 ∧ BsP w P B s.b.length s.b ∧ (s.p.length ≤ cq ∧ s.p.length ≤ 140737488351232) ∧ cq ≤ 9223372036854775807 ∧ ZsP w P Q s.p.length s.p
theorem stepM : Mono StepR where
  keep := by
    rintro w w' P V x ⟨B, cb, Q, cq, e, h1, h2, h3, h4, h5, h6, h7⟩ g
    exact ⟨B, cb, Q, cq, e, h1, h2, h3, h4.keep g, h5, h6, h7.keep g⟩
  weak := by
    rintro w P P' V x ⟨B, cb, Q, cq, e, h1, h2, h3, h4, h5, h6, h7⟩ q
    exact ⟨B, cb, Q, cq, e, h1, h2, h3, h4.weak q, h5, h6, h7.weak q⟩

theorem add_at (b o i : Nat) : (⟨b, o, none⟩ : Addr).add i = ⟨b, o + i, none⟩ := by
  unfold Addr.add
  split <;> simp_all
theorem take_drop_app {α : Type} (L : List α) (i a b : Nat) : (L.drop i).take a ++ (L.drop (i + a)).take b = (L.drop i).take (a + b) := by
  rw [← List.drop_drop, List.take_add]
theorem Try.cellsInt : Try.prog.cellsOf 3 = 1 := by kernel_rfl
theorem Try.cellsBs : Try.prog.cellsOf 33 = 1 := by kernel_rfl
theorem Try.cellsIs : Try.prog.cellsOf 34 = 1 := by kernel_rfl
theorem Try.cellsStep : Try.prog.cellsOf 36 = 5 := by kernel_rfl
theorem bytesStep : Try.prog.bytesOf 36 = 72 := by kernel_rfl
theorem fields_step : (Try.prog.fieldsOf 36).toList.map (fun f => (f.type, f.offset)) = [(5, 0), (3, 1), (3, 2), (33, 3), (34, 4)] := by kernel_rfl
theorem weights_in {H : Type} {P : Program} {e : TypeId} {d : DataW H} {x : Nat} (hx : x ∈ d.weights P e) : ∀ {l : List (DataW H)}, d ∈ l → x ∈ DataW.weightsAll P e l
  | [], h => by cases h
  | a :: l, h => by
    rw [DataW.weightsAll, List.mem_append]
    rcases List.mem_cons.1 h with rfl | h
    · exact Or.inl hx
    · exact Or.inr (weights_in hx h)
/-- All that is said weighs no more than a machine's reach. -/
def Light {H : Type} (d : DataW H) (T : TypeId) : Prop := ∀ y ∈ d.weights Try.prog T, y ≤ reachBytes
theorem bytes_trod {H : Type} {enc : TypeId × Value → H} {W : World} {spare : Nat → Bool} {held : Bool} {v : Value} {x : DataW H × List MemPlace} {fuel : Nat} (hf : DataW.trod enc Try.prog W 0 spare held fuel 33 [v] = some x) (hw : Light x.1 33) :
    ∃ (A : Option Addr) (n c : Nat) (L : List Nat), (n ≤ c ∧ c ≤ 9223372036854775807 ∧ n ≤ 140737488351232 ∧ Bs W A n L) ∧ v = .slice A n c := by
  rcases Deep.open_slice1 Try.underlying33 Try.cellsByte hf with ⟨e, _⟩ | ⟨a, len, cap, m, _, V, D, Pl, e, _, hlc, hcm, hm, hxx, hx⟩
  · simp at e
    subst e
    exact ⟨none, 0, 0, [], ⟨Nat.le_refl _, by omega, by omega, Bs.nil _ _⟩, rfl⟩
  · simp at e
    subst e
    have hm' : len ≤ m := by rw [hm]; split <;> omega
    have hb : Try.prog.bytesOf 5 = 1 := by kernel_rfl
    have hl := hw ((len + (m - len)) * 1) (by
      rw [hxx, DataW.weights, Try.underlying33]
      simp [hb])
    unfold reachBytes at hl
    have each : ∀ i, i < len → ∃ x : Nat, x < 256 ∧ W.cell? (a.add i) = some (.int .u8 (x : Nat)) := fun i hi => by
      obtain ⟨h1, h2⟩ := hx i (by omega)
      obtain ⟨q, e0, _, w0⟩ := DataW.trod_int Try.underlying5 h2
      simp at e0
      have b0 := bounds_u8 w0
      exact ⟨q.toNat, by omega, by rw [h1, e0, Int.toNat_of_nonneg b0.1]⟩
    obtain ⟨f, hf'⟩ := Deep.choose_lt (α := Nat) (p := fun i x => x < 256 ∧ W.cell? (a.add i) = some (.int .u8 (x : Nat))) each
    refine ⟨some a, len, cap, (List.range len).map f, ⟨hlc, by unfold maxLen at hcm; omega, by omega, by simp, fun x hx => ?_, fun hn => ⟨a, rfl, ?_, fun k hk => ?_⟩⟩, rfl⟩
    · simp only [List.mem_map, List.mem_range] at hx
      obtain ⟨i, hi, rfl⟩ := hx
      exact (hf' i hi).1
    · have := World.block_lt_of_cell? _ _ (hf' 0 hn).2
      rwa [add_block] at this
    · rw [(hf' k hk).2]
      simp [nth, List.getD, hk]

theorem ints_trod {H : Type} {enc : TypeId × Value → H} {W : World} {spare : Nat → Bool} {held : Bool} {v : Value} {x : DataW H × List MemPlace} {fuel : Nat} (hf : DataW.trod enc Try.prog W 0 spare held fuel 34 [v] = some x) (hw : Light x.1 34) :
    ∃ (A : Option Addr) (n c : Nat) (L : List Int), (n ≤ c ∧ c ≤ 9223372036854775807 ∧ n ≤ 140737488351232 ∧ Zs W A n L) ∧ v = .slice A n c := by
  rcases Deep.open_slice1 Try.underlying34 Try.cellsInt hf with ⟨e, _⟩ | ⟨a, len, cap, m, _, V, D, Pl, e, _, hlc, hcm, hm, hxx, hx⟩
  · simp at e
    subst e
    exact ⟨none, 0, 0, [], ⟨Nat.le_refl _, by omega, by omega, Zs.nil _ _⟩, rfl⟩
  · simp at e
    subst e
    have hm' : len ≤ m := by rw [hm]; split <;> omega
    have hb : Try.prog.bytesOf 3 = 8 := by kernel_rfl
    have hl := hw ((len + (m - len)) * 8) (by
      rw [hxx, DataW.weights, Try.underlying34]
      simp [hb])
    unfold reachBytes at hl
    have each : ∀ i, i < len → ∃ x : Int, (-9223372036854775808 ≤ x ∧ x ≤ 9223372036854775807) ∧ W.cell? (a.add i) = some (.int .i64 x) := fun i hi => by
      obtain ⟨h1, h2⟩ := hx i (by omega)
      obtain ⟨q, e0, _, w0⟩ := DataW.trod_int Try.underlying3 h2
      simp at e0
      have b0 := bounds_i64 w0
      exact ⟨q, by omega, by rw [h1, e0]⟩
    obtain ⟨f, hf'⟩ := Deep.choose_lt (α := Int) (p := fun i x => (-9223372036854775808 ≤ x ∧ x ≤ 9223372036854775807) ∧ W.cell? (a.add i) = some (.int .i64 x)) each
    refine ⟨some a, len, cap, (List.range len).map f, ⟨hlc, by unfold maxLen at hcm; omega, by omega, by simp, fun x hx => ?_, fun k hk => ⟨a, rfl, ?_, ?_⟩⟩, rfl⟩
    · simp only [List.mem_map, List.mem_range] at hx
      obtain ⟨i, hi, rfl⟩ := hx
      exact (hf' i hi).1
    · have := World.block_lt_of_cell? _ _ (hf' k hk).2
      rwa [add_block] at this
    · rw [(hf' k hk).2]
      simp [pick, List.getD, hk]
section
variable {H : Type} {enc : TypeId × Value → H} {W : World} {base : Nat} {v : Value} {d : DataW H} {p : List MemPlace}
variable {spare : Nat → Bool} {held : Bool} {fuel : Nat} {cs : List Value} {x : DataW H × List MemPlace}
/-- Elements that lie one behind the other. -/
theorem rows_of {α : Type} {sz : Nat} {R : Reads α} {b o : Nat} (f : Nat → List Value × α) (h : ∀ i, (f i).1.length = sz → True) : ∀ (n : Nat), (∀ i, i < n → (f i).1.length = sz ∧ W.rangeAt b (o + i * sz) (f i).1 ∧ R W anyP (f i).1 (f i).2) → ∃ cs l, l.length = n ∧ W.rangeAt b o cs ∧ Each sz (R W anyP) cs l
  | 0, _ => ⟨[], [], rfl, fun j v hj => by simp at hj, .nil⟩
  | n + 1, hi => by
    obtain ⟨cs, l, h1, h2, h3⟩ := rows_of f h n (fun i hlt => hi i (by omega))
    obtain ⟨g1, g2, g3⟩ := hi n (by omega)
    have hlen := h3.len
    refine ⟨cs ++ (f n).1, l ++ [(f n).2], by rw [List.length_append, h1]; rfl, fun j v hj => ?_, h3.app (Each.one g1 g3)⟩
    by_cases hlt : j < cs.length
    · rw [List.getElem?_append_left hlt] at hj
      exact h2 j v hj
    · rw [List.getElem?_append_right (by omega)] at hj
      have := g2 _ v hj
      rwa [show o + n * sz + (j - cs.length) = o + j by rw [hlen, h1]; rw [hlen, h1] at hlt; omega] at this
theorem trod_rows {α : Type} {S T : TypeId} {sz : Nat} {R : Reads α} (hu : Try.prog.underlying S = some (.slice T)) (hc : Try.prog.cellsOf T = sz) (hsz : 0 < sz) (hb : 1 ≤ Try.prog.bytesOf T) (hi : Inhabited α)
    (hel : ∀ {fu : Nat} {cs' : List Value} {y : DataW H × List MemPlace}, DataW.trod enc Try.prog W 0 spare held fu T cs' = some y → Light y.1 T → cs'.length = sz ∧ ∃ e, R W anyP cs' e)
    (hf : DataW.trod enc Try.prog W 0 spare held fuel S cs = some x) (hw : Light x.1 S) :
    ∃ (A : Option Addr) (n c : Nat) (l : List α), cs = [.slice A n c] ∧ n ≤ c ∧ n ≤ 140737488351232 ∧ c ≤ 9223372036854775807 ∧ Rows W anyP sz R A n l := by
  rcases Deep.open_slice hu hf with ⟨e, _⟩ | ⟨a, len, cap, m, fu, D, Pl, e, _, hlc, hcm, hm, hxx, hx⟩
  · exact ⟨none, 0, 0, [], e, Nat.le_refl _, by decide, by decide, Rows.nil _ _ _ _ _⟩
  · have hm' : len ≤ m := by rw [hm]; split <;> omega
    have hl := hw ((len + (m - len)) * Try.prog.bytesOf T) (by
      rw [hxx, DataW.weights, hu]
      simp)
    unfold reachBytes at hl
    have hl2 : len ≤ 140737488351232 := by
      have : len * 1 ≤ (len + (m - len)) * Try.prog.bytesOf T := Nat.mul_le_mul (by omega) hb
      omega
    have hcc : cap ≤ 9223372036854775807 := by unfold maxLen at hcm; omega
    have each : ∀ i, i < len → ∃ g : List Value × α, g.1.length = sz ∧ (∀ q u, g.1[q]? = some u → W.cell? ((a.add (i * sz)).add q) = some u) ∧ R W anyP g.1 g.2 := fun i hlt => by
      obtain ⟨cs', h1, h2⟩ := hx i (by omega)
      rw [hc] at h1
      obtain ⟨_, hlen, hcel⟩ := World.cells?_some h1
      obtain ⟨g1, e2, g2⟩ := hel h2 (fun z hz => hw z (by
        rw [hxx, DataW.weights, hu]
        exact List.mem_cons_of_mem _ (List.mem_append_left _ (weights_in hz (List.mem_map.2 ⟨i, List.mem_range.2 hlt, rfl⟩)))))
      refine ⟨(cs', e2), g1, fun q u hq => ?_, g2⟩
      have hq2 := (List.getElem?_eq_some_iff.1 hq).1
      rw [hcel q (by rw [← hlen]; exact hq2)]
      exact hq
    obtain ⟨f, hf'⟩ := Deep.choose_lt (α := List Value × α) (p := fun i g => g.1.length = sz ∧ (∀ q u, g.1[q]? = some u → W.cell? ((a.add (i * sz)).add q) = some u) ∧ R W anyP g.1 g.2) each
    rcases Nat.eq_zero_or_pos len with h0 | h0
    · subst h0
      exact ⟨some a, 0, cap, [], e, hlc, hl2, hcc, Rows.nil _ _ _ _ _⟩
    · obtain ⟨l0, hc0, _⟩ := hf' 0 h0
      obtain ⟨u, hu0⟩ : ∃ u, (f 0).1[0]? = some u := ⟨_, List.getElem?_eq_getElem (by omega)⟩
      have c0 := hc0 0 u hu0
      have e0 : (a.add (0 * sz)).add 0 = a := by rw [Nat.zero_mul]; rfl
      rw [e0] at c0
      obtain ⟨b, o, rfl⟩ : ∃ b o, a = ⟨b, o, none⟩ := by
        unfold World.cell? at c0
        split at c0
        · split at c0
          · cases c0
          · rename_i hs
            obtain ⟨b, o, s⟩ := a
            cases s with
            | none => exact ⟨b, o, rfl⟩
            | some x => simp at hs
        · cases c0
      obtain ⟨cs2, l, k1, k2, k3⟩ := rows_of (W := W) (b := b) (o := o) (R := R) f (fun _ _ => trivial) len (fun i hlt => by
        obtain ⟨g1, g2, g3⟩ := hf' i hlt
        exact ⟨g1, fun q u hq => by have := g2 q u hq; rwa [add_at, add_at] at this, g3⟩)
      exact ⟨_, len, cap, l, e, hlc, hl2, hcc, ⟨k1, fun _ => ⟨b, o, cs2, rfl, World.block_lt_of_cell? _ _ c0, trivial, k2, k3⟩⟩⟩
theorem light_each {xs : List (DataW H × List MemPlace)} {T : TypeId} {fs : Array Field} (hu : Try.prog.underlying T = some (.struct fs)) (hw : Light (.agg (xs.map (·.1))) T) : ∀ y ∈ DataW.weightsEach Try.prog (fs.toList.map (·.type)) (xs.map (·.1)), y ≤ reachBytes := fun y hy => hw y (by rw [DataW.weights, hu]; exact hy)
set_option maxRecDepth 100000 in
theorem trod_step (h : DataW.trod enc Try.prog W 0 spare held fuel 36 cs = some x) (hw : Light x.1 36) : cs.length = 5 ∧ ∃ s, StepR W anyP cs s := by
  have hu : Try.prog.underlying 36 = some (.struct (Try.prog.fieldsOf 36)) := by kernel_rfl
  obtain ⟨xs, n, _, hxx, hcl, hxl, hf⟩ := DataW.trod_struct hu h
  rw [hxx] at hw
  have hwe := light_each hu hw
  rw [Try.cellsStep] at hcl
  have hfd := fields_step
  obtain ⟨fs, hfs⟩ : ∃ fs, Try.prog.fieldsOf 36 = fs := ⟨_, rfl⟩
  rw [hfs] at hf hfd hxl hwe
  obtain ⟨l⟩ := fs
  match l, hfd, hf, hxl, hwe with
  | [f0, f1, f2, f3, f4], hfd, hf, hxl, hwe =>
    simp only [List.map_cons, List.map_nil, List.cons.injEq, and_true, Prod.mk.injEq] at hfd
    obtain ⟨⟨a0, b0⟩, ⟨a1, b1⟩, ⟨a2, b2⟩, ⟨a3, b3⟩, ⟨a4, b4⟩⟩ := hfd
    obtain ⟨v0, v1, v2, v3, v4, rfl⟩ : ∃ v0 v1 v2 v3 v4, cs = [v0, v1, v2, v3, v4] := by
      match cs, hcl with
      | [v0, v1, v2, v3, v4], _ => exact ⟨v0, v1, v2, v3, v4, rfl⟩
    match xs, hxl, hwe with
    | [y0, y1, y2, y3, y4], _, hwe =>
      simp only [List.map_cons, List.map_nil, DataW.weightsEach, a0, a1, a2, a3, a4] at hwe
      have g0 := hf 0 f0 rfl
      have g1 := hf 1 f1 rfl
      have g2 := hf 2 f2 rfl
      have g3 := hf 3 f3 rfl
      have g4 := hf 4 f4 rfl
      rw [a0, b0, Try.cellsByte] at g0
      rw [a1, b1, Try.cellsInt] at g1
      rw [a2, b2, Try.cellsInt] at g2
      rw [a3, b3, Try.cellsBs] at g3
      rw [a4, b4, Try.cellsIs] at g4
      obtain ⟨q0, e0, _, w0⟩ := DataW.trod_int Try.underlying5 (x := y0) g0
      obtain ⟨q1, e1, _, w1⟩ := DataW.trod_int Try.underlying3 (x := y1) g1
      obtain ⟨q2, e2, _, w2⟩ := DataW.trod_int Try.underlying3 (x := y2) g2
      obtain ⟨B, nb, cb, L, ⟨k1, k2, k4, k3⟩, e3⟩ := bytes_trod (x := y3) g3 (fun y hy => hwe y (List.mem_append_right _ (List.mem_append_right _ (List.mem_append_right _ (List.mem_append_left _ hy)))))
      obtain ⟨Q, nq, cq, Z, ⟨l1, l2, l4, l3⟩, e4⟩ := ints_trod (x := y4) g4 (fun y hy => hwe y (List.mem_append_right _ (List.mem_append_right _ (List.mem_append_right _ (List.mem_append_right _ (List.mem_append_left _ hy))))))
      have c0 := bounds_u8 w0
      have c1 := bounds_i64 w1
      have c2 := bounds_i64 w2
      simp at e0 e1 e2
      subst e0 e1 e2 e3 e4
      have n1 := k3.len
      have n2 := l3.len
      subst n1 n2
      exact ⟨rfl, ⟨q0.toNat, q1, q2, L, Z⟩, B, cb, Q, cq, by simp [stepV, Int.toNat_of_nonneg c0.1], ⟨by show q0.toNat < 256; omega, by show _ ∧ _; omega, by show _ ∧ _; omega⟩, ⟨k1, k4⟩, k2, k3.p, ⟨l1, l4⟩, l2, l3.p⟩
theorem open_steps (hv : Value.okWide Try.prog W .any base 22 v) (h : DataW.Trod enc Try.prog W 0 (fun _ => true) true 22 v d p) (hw : ∀ y ∈ d.weights Try.prog 22, y ≤ reachBytes) :
    ∃ (A : Option Addr) (n c : Nat) (l : List StepD), (n ≤ c ∧ n ≤ 140737488351232 ∧ c ≤ 9223372036854775807 ∧ Rows W anyP 5 StepR A n l) ∧ v = .slice A n c := by
  obtain ⟨fuel, hf⟩ := h
  obtain ⟨A, n, c, rfl⟩ := okWide_slice Try.underlying22 hv
  obtain ⟨A', n', c', l, e, h1, h4, h2, h3⟩ := trod_rows (S := 22) (T := 36) (sz := 5) (R := StepR) (by kernel_rfl) Try.cellsStep (by decide) (by rw [bytesStep]; decide) ⟨⟨0, 0, 0, [], []⟩⟩ (fun h1 h2 => trod_step h1 h2) hf hw
  simp [Value.cells] at e
  obtain ⟨rfl, rfl, rfl⟩ := e
  exact ⟨A, n, c, l, ⟨h1, h4, h2, h3⟩, rfl⟩
end
end Go.Proofs.Ytgnomopiofpknaa
