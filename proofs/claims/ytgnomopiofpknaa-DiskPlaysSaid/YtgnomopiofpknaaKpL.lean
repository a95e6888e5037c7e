/- DiskKeeps: the law's boxes; arrays of rows of bytes, as they come in. No condition. -/
import Derived.Test.YtgnomopiofpknaaKpS
import Derived.Test.YtgnomopiofpknaaEnE
import Derived.OpenShut
namespace Go.Proofs.Ytgnomopiofpknaa
open Go.ChangeShapes Go.WideShapes Go.ChangeAt Go.RowKit Go.ChangeMaps

/-- How bytes read as an element. -/
def ByR : Reads (List Nat) := fun w P V L => ∃ B cb, V = [.slice B L.length cb] ∧ (L.length ≤ cb ∧ L.length ≤ 140737488351232) ∧ cb ≤ 9223372036854775807 ∧ BsP w P B L.length L
theorem byM : Mono ByR where
  keep := by
    rintro w w' P V x ⟨B, cb, e, h1, h2, h3⟩ g
    exact ⟨B, cb, e, h1, h2, h3.keep g⟩
  weak := by
    rintro w P P' V x ⟨B, cb, e, h1, h2, h3⟩ q
    exact ⟨B, cb, e, h1, h2, h3.weak q⟩
structure RowIn (w : World) (v : Value) (l : Pcs) : Prop where
  at_ : ∃ A n c, v = .slice A n c ∧ n ≤ c ∧ n ≤ 140737488351232 ∧ c ≤ 9223372036854775807 ∧ Rows w anyP 1 ByR A n l
section
variable {H : Type} {enc : TypeId × Value → H} {W : World} {base : Nat} {v : Value} {d : DataW H} {p : List MemPlace}
variable {spare : Nat → Bool} {held : Bool} {fuel : Nat} {cs : List Value} {x : DataW H × List MemPlace}
theorem trod_by (h : DataW.trod enc Try.prog W 0 spare held fuel 33 cs = some x) (hw : Light x.1 33) : cs.length = 1 ∧ ∃ L, ByR W anyP cs L := by
  have hc : cs.length = 1 := by
    rcases Deep.open_slice Try.underlying33 h with ⟨e, _⟩ | ⟨a, len, cap, m, fu, D, Pl, e, _⟩ <;> (rw [e]; rfl)
  obtain ⟨u, rfl⟩ : ∃ u, cs = [u] := by
    match cs, hc with
    | [u], _ => exact ⟨u, rfl⟩
  obtain ⟨A, n, c, L, ⟨h1, h2, h3, h4⟩, rfl⟩ := bytes_trod h hw
  have hl := h4.len
  subst hl
  exact ⟨rfl, L, A, c, rfl, ⟨h1, h3⟩, h2, h4.p⟩
theorem trod_bss (h : DataW.trod enc Try.prog W 0 spare held fuel 39 cs = some x) (hw : Light x.1 39) : ∃ v l, cs = [v] ∧ RowIn W v l := by
  obtain ⟨A, n, c, l, e, h1, h4, h2, h3⟩ := trod_rows (S := 39) (T := 33) (sz := 1) (R := ByR) Try.underlying39 Try.cellsBs (by decide) (by rw [show Try.prog.bytesOf 33 = 24 by kernel_rfl]; decide) ⟨[]⟩ (fun h1 h2 => trod_by h1 h2) h hw
  exact ⟨_, l, e, ⟨A, n, c, rfl, h1, h4, h2, h3⟩⟩
theorem open_bsss (hv : Value.okWide Try.prog W .any base 40 v) (h : DataW.Trod enc Try.prog W 0 (fun _ => true) true 40 v d p) (hw : ∀ y ∈ d.weights Try.prog 40, y ≤ reachBytes) :
    ∃ (V : Nat → Value) (l : Nat → Pcs), (∀ k, k < 2 → RowIn W (V k) (l k)) ∧ v = .agg [V 0, V 1].toArray := by
  obtain ⟨fuel, hf⟩ := h
  obtain ⟨xs0, rfl, _⟩ : ∃ cs, v = .agg cs ∧ cs.size = Try.prog.cellsOf 40 := by
    simp only [Value.okWide, Try.underlying40] at hv
    obtain ⟨cs, h1, h2, _⟩ := hv
    exact ⟨cs, h1, h2⟩
  have hc : Try.prog.cellsOf 39 = 1 := by kernel_rfl
  obtain ⟨xs, m, _, ex, hl, hn, hel⟩ := DataW.trod_array Try.underlying40 hf
  simp only [Prod.mk.injEq] at ex
  rw [ex.1] at hw
  rw [show Try.prog.cellsOf 40 = 2 by kernel_rfl] at hl
  rw [hc] at hel
  obtain ⟨l⟩ := xs0
  simp only [Value.cells] at hl hel
  match l, hl, hel with
  | [u0, u1], _, hel =>
    match xs, hn, hel, hw with
    | [y0, y1], _, hel, hw =>
      have g0 := hel 0 (by omega)
      have g1 := hel 1 (by omega)
      simp at g0 g1
      have w0 : Light y0.1 39 := fun y hy => hw y (by
        rw [DataW.weights, Try.underlying40]
        exact weights_in hy (by simp))
      have w1 : Light y1.1 39 := fun y hy => hw y (by
        rw [DataW.weights, Try.underlying40]
        exact weights_in hy (by simp))
      obtain ⟨v0, l0, e0, h0⟩ := trod_bss g0 w0
      obtain ⟨v1, l1, e1, h1⟩ := trod_bss g1 w1
      injection e0 with e0
      injection e1 with e1
      subst e0 e1
      refine ⟨fun k => if k = 0 then u0 else u1, fun k => if k = 0 then l0 else l1, fun k hk => ?_, rfl⟩
      rcases (by omega : k = 0 ∨ k = 1) with rfl | rfl
      · exact h0
      · exact h1
theorem open_ints (hv : Value.okWide Try.prog W .any base 34 v) (h : DataW.Trod enc Try.prog W 0 (fun _ => true) true 34 v d p) (hw : ∀ y ∈ d.weights Try.prog 34, y ≤ reachBytes) :
    ∃ (A : Option Addr) (n c : Nat) (L : List Int), (n ≤ c ∧ n ≤ 140737488351232 ∧ c ≤ 9223372036854775807 ∧ Zs W A n L) ∧ v = .slice A n c := by
  obtain ⟨fuel, hf⟩ := h
  obtain ⟨A, n, c, rfl⟩ := okWide_slice Try.underlying34 hv
  obtain ⟨A', n', c', L, ⟨h1, h2, h3, h4⟩, e⟩ := ints_trod hf hw
  exact ⟨A', n', c', L, ⟨h1, h3, h2, h4⟩, e⟩
end

/-- An element's own slice. -/
theorem RowIn.at {w w' : World} {v : Value} {l : Pcs} {A : Option Addr} {n c : Nat} (h : RowIn w v l) (e : v = .slice A n c) (g : Below w.heap.size w w') {k : Nat} (hk : k < n) :
    ∃ a B cb, A = some a ∧ l.length = n ∧ w'.cell? (a.add k) = some (.slice B (l.getD k []).length cb) ∧ (l.getD k []).length ≤ cb ∧ (l.getD k []).length ≤ 140737488351232 ∧ cb ≤ 9223372036854775807 ∧ Bs w B (l.getD k []).length (l.getD k []) ∧ (0 < (l.getD k []).length → ∀ x, B = some x → x.block < w.heap.size) := by
  obtain ⟨A', n', c', e', _, _, _, R⟩ := h.at_
  rw [e] at e'
  injection e' with e1 e2 e3
  subst e1 e2 e3
  have hl := R.len
  obtain ⟨b, o, rfl⟩ := rows_some R (by omega)
  have hkl : k < l.length := by omega
  obtain ⟨hb, _, V, hV, hr, B, cb, rfl, h1, h2, h3⟩ := R.at_ hkl
  have hd : l.getD k [] = l[k] := by rw [List.getD_eq_getElem?_getD, List.getElem?_eq_getElem hkl]; rfl
  rw [hd]
  refine ⟨_, B, cb, rfl, hl, ?_, h1.1, h1.2, h2, h3.bs, fun h0 x ex => ?_⟩
  · rw [add_at]
    have := hr 0 _ rfl
    rw [Nat.mul_one, Nat.add_zero] at this
    exact (g.cell (p := ⟨b, o + k, none⟩) hb).trans this
  · obtain ⟨a', e', hb', _⟩ := h3.bs.cel h0
    rw [ex] at e'
    injection e' with e'
    subst e'
    exact hb'
def XK (g h : Nat) : Nat → Prop := fun b => b = g ∨ b = g + 1 ∨ b = h ∨ b = h + 1
def strs (s : Nat → List Nat) : List Value := [.string (strB (s 0)), .string (strB (s 1))]
/-- The law's boxes: the two arrays, and the two texts. -/
structure Kb (w : World) (g h : Nat) (V0 V1 : Nat → Value) (s t : Nat → List Nat) (wr : World) : Prop where
  bel : Below w.heap.size w wr
  lo : w.heap.size ≤ g
  lh : g + 1 < h
  a : Ro wr g 40 [V0 0, V0 1]
  b : Ro wr (g + 1) 40 [V1 0, V1 1]
  s : Ro wr h 41 (strs s)
  t : Ro wr (h + 1) 41 (strs t)
section
variable {w wr w1 : World} {g h : Nat} {V0 V1 : Nat → Value} {s t : Nat → List Nat}
theorem Kb.lt (k : Kb w g h V0 V1 s t wr) : ∀ b, XK g h b → b < wr.heap.size := fun b hb => by
  rcases hb with rfl | rfl | rfl | rfl
  · exact k.a.lt
  · exact k.b.lt
  · exact k.s.lt
  · exact k.t.lt
theorem Kb.keep (k : Kb w g h V0 V1 s t wr) (q : Kept (XK g h) wr w1) (hb : Below w.heap.size w w1) : Kb w g h V0 V1 s t w1 :=
  ⟨hb, k.lo, k.lh, k.a.same (q.blk _ (.inl rfl) k.a.lt), k.b.same (q.blk _ (.inr (.inl rfl)) k.b.lt), k.s.same (q.blk _ (.inr (.inr (.inl rfl))) k.s.lt), k.t.same (q.blk _ (.inr (.inr (.inr rfl))) k.t.lt)⟩
theorem Kb.ca (k : Kb w g h V0 V1 s t wr) {f : Nat} (hf : f < 2) : wr.cell? ⟨g, f, none⟩ = some (V0 f) := by
  rcases (by omega : f = 0 ∨ f = 1) with rfl | rfl
  · exact k.a.cell rfl
  · exact k.a.cell rfl
theorem Kb.cb (k : Kb w g h V0 V1 s t wr) {f : Nat} (hf : f < 2) : wr.cell? ⟨g + 1, f, none⟩ = some (V1 f) := by
  rcases (by omega : f = 0 ∨ f = 1) with rfl | rfl
  · exact k.b.cell rfl
  · exact k.b.cell rfl
theorem Kb.cs (k : Kb w g h V0 V1 s t wr) {f : Nat} (hf : f < 2) : wr.cell? ⟨h, f, none⟩ = some (.string (strB (s f))) := by
  rcases (by omega : f = 0 ∨ f = 1) with rfl | rfl
  · exact k.s.cell rfl
  · exact k.s.cell rfl
theorem Kb.ct (k : Kb w g h V0 V1 s t wr) {f : Nat} (hf : f < 2) : wr.cell? ⟨h + 1, f, none⟩ = some (.string (strB (t f))) := by
  rcases (by omega : f = 0 ∨ f = 1) with rfl | rfl
  · exact k.t.cell rfl
  · exact k.t.cell rfl
theorem strs_set {f : Nat} (hf : f < 2) {s s' : Nat → List Nat} {L : List Nat} (h : ∀ k, s' k = if k = f then L else s k) : (strs s).set f (.string (strB L)) = strs s' := by
  unfold strs
  rcases (by omega : f = 0 ∨ f = 1) with rfl | rfl
  · rw [h 0, h 1]; rfl
  · rw [h 0, h 1]; rfl
theorem Kb.sets (k : Kb w g h V0 V1 s t wr) {f : Nat} (hf : f < 2) {s' : Nat → List Nat} {L : List Nat} (hs : ∀ j, s' j = if j = f then L else s j) : Kb w g h V0 V1 s' t (wr.setCell ⟨h, f, none⟩ (.string (strB L))) := by
  have l0 := k.lo
  have l1 := k.lh
  refine ⟨k.bel.setCell (by show w.heap.size ≤ h; omega) _, k.lo, k.lh, k.a.other (by omega) _, k.b.other (by omega) _, ?_, k.t.other (by omega) _⟩
  rw [← strs_set hf hs]
  exact k.s.set f _
theorem Kb.sett (k : Kb w g h V0 V1 s t wr) {f : Nat} (hf : f < 2) {t' : Nat → List Nat} {L : List Nat} (hs : ∀ j, t' j = if j = f then L else t j) : Kb w g h V0 V1 s t' (wr.setCell ⟨h + 1, f, none⟩ (.string (strB L))) := by
  have l0 := k.lo
  have l1 := k.lh
  refine ⟨k.bel.setCell (by show w.heap.size ≤ h + 1; omega) _, k.lo, k.lh, k.a.other (by omega) _, k.b.other (by omega) _, k.s.other (by omega) _, ?_⟩
  rw [← strs_set hf hs]
  exact k.t.set f _
theorem Dp.boxK {d : Nat} {S : Dk} (D : Dp w d (XK g h) S wr) {q : Nat} (hq : XK g h q) (h0 : w.heap.size ≤ q) (o : Nat) (v : Value) : Dp w d (XK g h) S (wr.setCell ⟨q, o, none⟩ v) :=
  D.keep (kept_set wr q o v (P := fun b => ¬ XK g h b) fun n => n hq) (D.bel.setCell h0 v)
end
theorem strs_nil (a l : Nat → Pcs) : strs (sN a 0 0) = [.string ⟨#[]⟩, .string ⟨#[]⟩] ∧ strs (tN a l 0 0) = [.string ⟨#[]⟩, .string ⟨#[]⟩] := by
  have e1 : ∀ k, sN a 0 0 k = [] := fun k => by unfold sN aN; rw [if_neg (by omega)]; split <;> simp
  have e2 : ∀ k, tN a l 0 0 k = [] := fun k => by unfold tN lN; rw [if_neg (by omega)]; split <;> simp
  unfold strs
  rw [e1, e1, e2, e2]
  exact ⟨rfl, rfl⟩
theorem tot_nil (a l : Nat → Pcs) : tot a l 0 0 = 0 := by
  have e1 : ∀ k, sN a 0 0 k = [] := fun k => by unfold sN aN; rw [if_neg (by omega)]; split <;> simp
  have e2 : ∀ k, tN a l 0 0 k = [] := fun k => by unfold tN lN; rw [if_neg (by omega)]; split <;> simp
  unfold tot
  rw [e1, e1, e2, e2]
  rfl
theorem strB_app (L M : List Nat) : (strB L) ++ (strB M) = strB (L ++ M) := by
  unfold strB
  apply ByteArray.ext
  simp
end Go.Proofs.Ytgnomopiofpknaa
