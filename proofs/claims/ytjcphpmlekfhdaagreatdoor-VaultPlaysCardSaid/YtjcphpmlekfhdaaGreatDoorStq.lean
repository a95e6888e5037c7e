/- A law's calls: as data, in memory, and as they come in. No condition. -/
import Derived.Test.YtjcphpmlekfhdaaGreatDoorGm
namespace Go.Proofs.YtjcphpmlekfhdaaGreatDoor
open Go.ChangeShapes Go.WideShapes Go.ChangeAt Go.RowKit Go.ChangeMaps
set_option maxRecDepth 100000

structure StepD where
  k : Nat
  f : Int
  n : Int
  b : List Nat
  p : List Int
def stepV (k : Nat) (f n : Int) (B : Option Addr) (nb cb : Nat) (Q : Option Addr) (nq cq : Nat) : List Value := [.int .u8 (k : Int), .int .i64 f, .int .i64 n, .slice B nb cb, .slice Q nq cq]
structure StepD.Ok (s : StepD) : Prop where
  k : s.k < 256
  f : -9223372036854775808 ≤ s.f ∧ s.f ≤ 9223372036854775807
  n : -9223372036854775808 ≤ s.n ∧ s.n ≤ 9223372036854775807
/-- How a step reads. -/
def StepR : Reads StepD := fun w P V s => ∃ B cb Q cq, V = stepV s.k s.f s.n B s.b.length cb Q s.p.length cq ∧ s.Ok ∧ (s.b.length ≤ cb ∧ s.b.length ≤ 140737488351232) ∧ cb ≤ 9223372036854775807 ∧ BsP w P B s.b.length s.b ∧ (s.p.length ≤ cq ∧ s.p.length ≤ 140737488351232) ∧ cq ≤ 9223372036854775807 ∧ ZsP w P Q s.p.length s.p
theorem stepM : Mono StepR where
  keep := by
    rintro w w' P V x ⟨B, cb, Q, cq, e, h1, h2, h3, h4, h5, h6, h7⟩ g
    exact ⟨B, cb, Q, cq, e, h1, h2, h3, h4.keep g, h5, h6, h7.keep g⟩
  weak := by
    rintro w P P' V x ⟨B, cb, Q, cq, e, h1, h2, h3, h4, h5, h6, h7⟩ q
    exact ⟨B, cb, Q, cq, e, h1, h2, h3, h4.weak q, h5, h6, h7.weak q⟩

theorem Tryz.cellsStep : Tryz.prog.cellsOf 43 = 5 := by kernel_rfl
theorem bytesStep : Tryz.prog.bytesOf 43 = 72 := by kernel_rfl
theorem fields_step : (Tryz.prog.fieldsOf 43).toList.map (fun f => (f.type, f.offset)) = [(5, 0), (3, 1), (3, 2), (40, 3), (41, 4)] := by kernel_rfl
/-- A call of the law's. -/
structure CallD where
  k : Nat
  l : List (List Nat)
  s : StepD
def CallR : Reads CallD := fun w P V x => ∃ A c V2, V = .int .u8 (x.k : Int) :: .slice A x.l.length c :: V2 ∧ x.k < 256 ∧ (x.l.length ≤ c ∧ x.l.length ≤ 140737488351232) ∧ c ≤ 9223372036854775807 ∧ Rows w P 1 ByR A x.l.length x.l ∧ StepR w P V2 x.s
theorem callM : Mono CallR where
  keep := by
    rintro w w' P V x ⟨A, c, V2, e, h1, h2, h3, h4, h5⟩ g
    exact ⟨A, c, V2, e, h1, h2, h3, h4.keep byM g, stepM.keep h5 g⟩
  weak := by
    rintro w P P' V x ⟨A, c, V2, e, h1, h2, h3, h4, h5⟩ q
    exact ⟨A, c, V2, e, h1, h2, h3, Rows.weak byM h4 q, stepM.weak h5 q⟩
theorem Tryz.cellsBss : Tryz.prog.cellsOf 39 = 1 := by kernel_rfl
theorem Tryz.cellsCall : Tryz.prog.cellsOf 45 = 7 := by kernel_rfl
theorem bytesCall : Tryz.prog.bytesOf 45 = 104 := by kernel_rfl
theorem fields_call : (Tryz.prog.fieldsOf 45).toList.map (fun f => (f.type, f.offset)) = [(5, 0), (39, 1), (43, 2)] := by kernel_rfl
section
variable {H : Type} {enc : TypeId × Value → H} {W : World} {base : Nat} {v : Value} {d : DataW H} {p : List MemPlace}
variable {spare : Nat → Bool} {held : Bool} {fuel : Nat} {cs : List Value} {x : DataW H × List MemPlace}
theorem light_each {xs : List (DataW H × List MemPlace)} {T : TypeId} {fs : Array Field} (hu : Tryz.prog.underlying T = some (.struct fs)) (hw : Light (.agg (xs.map (·.1))) T) : ∀ y ∈ DataW.weightsEach Tryz.prog (fs.toList.map (·.type)) (xs.map (·.1)), y ≤ reachBytes := fun y hy => hw y (by rw [DataW.weights, hu]; exact hy)
set_option maxRecDepth 100000 in
theorem trod_step (h : DataW.trod enc Tryz.prog W 0 spare held fuel 43 cs = some x) (hw : Light x.1 43) : cs.length = 5 ∧ ∃ s, StepR W anyP cs s := by
  have hu : Tryz.prog.underlying 43 = some (.struct (Tryz.prog.fieldsOf 43)) := by kernel_rfl
  obtain ⟨xs, n, _, hxx, hcl, hxl, hf⟩ := DataW.trod_struct hu h
  rw [hxx] at hw
  have hwe := light_each hu hw
  rw [Tryz.cellsStep] at hcl
  have hfd := fields_step
  obtain ⟨fs, hfs⟩ : ∃ fs, Tryz.prog.fieldsOf 43 = fs := ⟨_, rfl⟩
  rw [hfs] at hf hfd hxl hwe
  obtain ⟨l⟩ := fs
  match l, hfd, hf, hxl, hwe with
  | [f0, f1, f2, f3, f4], hfd, hf, hxl, hwe =>
    simp only [List.map_cons, List.map_nil, List.cons.injEq, and_true, Prod.mk.injEq] at hfd
    obtain ⟨⟨a0, b0⟩, ⟨a1, b1⟩, ⟨a2, b2⟩, ⟨a3, b3⟩, ⟨a4, b4⟩⟩ := hfd
    obtain ⟨v0, v1, v2, v3, v4, rfl⟩ : ∃ v0 v1 v2 v3 v4, cs = [v0, v1, v2, v3, v4] := by
      match cs, hcl with
      | [v0, v1, v2, v3, v4], _ => exact ⟨v0, v1, v2, v3, v4, rfl⟩
    match xs, hxl, hwe with
    | [y0, y1, y2, y3, y4], _, hwe =>
      simp only [List.map_cons, List.map_nil, DataW.weightsEach, a0, a1, a2, a3, a4] at hwe
      have g0 := hf 0 f0 rfl
      have g1 := hf 1 f1 rfl
      have g2 := hf 2 f2 rfl
      have g3 := hf 3 f3 rfl
      have g4 := hf 4 f4 rfl
      rw [a0, b0, Tryz.cellsByte] at g0
      rw [a1, b1, Tryz.cellsInt] at g1
      rw [a2, b2, Tryz.cellsInt] at g2
      rw [a3, b3, Tryz.cellsBs] at g3
      rw [a4, b4, Tryz.cellsIs] at g4
      obtain ⟨q0, e0, _, w0⟩ := DataW.trod_int Tryz.underlying5 (x := y0) g0
      obtain ⟨q1, e1, _, w1⟩ := DataW.trod_int Tryz.underlying3 (x := y1) g1
      obtain ⟨q2, e2, _, w2⟩ := DataW.trod_int Tryz.underlying3 (x := y2) g2
      obtain ⟨B, nb, cb, L, ⟨k1, k2, k4, k3⟩, e3⟩ := bytes_trod (x := y3) g3 (fun y hy => hwe y (List.mem_append_right _ (List.mem_append_right _ (List.mem_append_right _ (List.mem_append_left _ hy)))))
      obtain ⟨Q, nq, cq, Z, ⟨l1, l2, l4, l3⟩, e4⟩ := ints_trod (x := y4) g4 (fun y hy => hwe y (List.mem_append_right _ (List.mem_append_right _ (List.mem_append_right _ (List.mem_append_right _ (List.mem_append_left _ hy))))))
      have c0 := bounds_u8 w0
      have c1 := bounds_i64 w1
      have c2 := bounds_i64 w2
      simp at e0 e1 e2
      subst e0 e1 e2 e3 e4
      have n1 := k3.len
      have n2 := l3.len
      subst n1 n2
      exact ⟨rfl, ⟨q0.toNat, q1, q2, L, Z⟩, B, cb, Q, cq, by simp [stepV, Int.toNat_of_nonneg c0.1], ⟨by show q0.toNat < 256; omega, by show _ ∧ _; omega, by show _ ∧ _; omega⟩, ⟨k1, k4⟩, k2, k3.p, ⟨l1, l4⟩, l2, l3.p⟩
/-- Records, by their cells. -/
theorem trod_bytess (h : DataW.trod enc Tryz.prog W 0 spare held fuel 39 cs = some x) (hw : Light x.1 39) :
    ∃ (A : Option Addr) (n c : Nat) (l : List (List Nat)), cs = [.slice A n c] ∧ n ≤ c ∧ n ≤ 140737488351232 ∧ c ≤ 9223372036854775807 ∧ Rows W anyP 1 ByR A n l :=
  trod_rows (R := ByR) Tryz.underlying39 (by kernel_rfl : Tryz.prog.cellsOf 40 = 1) (by decide) (by rw [(by kernel_rfl : Tryz.prog.bytesOf 40 = 24)]; decide) ⟨[]⟩ (fun {fu cs' y} ht hl => by
    obtain ⟨u, rfl⟩ : ∃ u, cs' = [u] := by
      rcases Deep.open_slice1 Tryz.underlying40 Tryz.cellsByte ht with ⟨e, _⟩ | ⟨_, _, _, _, _, _, _, _, e, _⟩
      · exact ⟨_, e⟩
      · exact ⟨_, e⟩
    obtain ⟨B, k, q, L, ⟨g1, g2, g3, g4⟩, rfl⟩ := bytes_trod ht hl
    have g5 := g4.len
    subst g5
    exact ⟨rfl, L, B, q, rfl, ⟨g1, g3⟩, g2, g4.p⟩) h hw
theorem trod_call (h : DataW.trod enc Tryz.prog W 0 spare held fuel 45 cs = some x) (hw : Light x.1 45) : cs.length = 7 ∧ ∃ s, CallR W anyP cs s := by
  have hu : Tryz.prog.underlying 45 = some (.struct (Tryz.prog.fieldsOf 45)) := by kernel_rfl
  obtain ⟨xs, n, _, hxx, hcl, hxl, hf⟩ := DataW.trod_struct hu h
  rw [hxx] at hw
  have hwe := light_each hu hw
  rw [Tryz.cellsCall] at hcl
  have hfd := fields_call
  obtain ⟨fs, hfs⟩ : ∃ fs, Tryz.prog.fieldsOf 45 = fs := ⟨_, rfl⟩
  rw [hfs] at hf hfd hxl hwe
  obtain ⟨l⟩ := fs
  match l, hfd, hf, hxl, hwe with
  | [f0, f1, f2], hfd, hf, hxl, hwe =>
    simp only [List.map_cons, List.map_nil, List.cons.injEq, and_true, Prod.mk.injEq] at hfd
    obtain ⟨⟨a0, b0⟩, ⟨a1, b1⟩, ⟨a2, b2⟩⟩ := hfd
    obtain ⟨v0, v1, v2, v3, v4, v5, v6, rfl⟩ : ∃ v0 v1 v2 v3 v4 v5 v6, cs = [v0, v1, v2, v3, v4, v5, v6] := by
      match cs, hcl with
      | [v0, v1, v2, v3, v4, v5, v6], _ => exact ⟨v0, v1, v2, v3, v4, v5, v6, rfl⟩
    match xs, hxl, hwe with
    | [y0, y1, y2], _, hwe =>
      simp only [List.map_cons, List.map_nil, DataW.weightsEach, a0, a1, a2] at hwe
      have g0 := hf 0 f0 rfl
      have g1 := hf 1 f1 rfl
      have g2 := hf 2 f2 rfl
      rw [a0, b0, Tryz.cellsByte] at g0
      rw [a1, b1, Tryz.cellsBss] at g1
      rw [a2, b2, Tryz.cellsStep] at g2
      obtain ⟨q0, e0, _, w0⟩ := DataW.trod_int Tryz.underlying5 (x := y0) g0
      obtain ⟨B, nb, cb, L, e1, k1, k4, k2, k3⟩ := trod_bytess (x := y1) g1 (fun y hy => hwe y (List.mem_append_right _ (List.mem_append_left _ hy)))
      obtain ⟨_, s, hs⟩ := trod_step (x := y2) g2 (fun y hy => hwe y (List.mem_append_right _ (List.mem_append_right _ (List.mem_append_left _ hy))))
      have c0 := bounds_u8 w0
      simp at e0 e1
      subst e0 e1
      have n1 := k3.len
      subst n1
      exact ⟨rfl, ⟨q0.toNat, L, s⟩, B, cb, _, by rw [Int.toNat_of_nonneg c0.1]; rfl, (by show q0.toNat < 256; omega), ⟨k1, k4⟩, k2, k3, hs⟩
theorem open_calls (hv : Value.okWide Tryz.prog W .any base 23 v) (h : DataW.Trod enc Tryz.prog W 0 (fun _ => true) true 23 v d p) (hw : ∀ y ∈ d.weights Tryz.prog 23, y ≤ reachBytes) :
    ∃ (A : Option Addr) (n c : Nat) (l : List CallD), (n ≤ c ∧ n ≤ 140737488351232 ∧ c ≤ 9223372036854775807 ∧ Rows W anyP 7 CallR A n l) ∧ v = .slice A n c := by
  obtain ⟨fuel, hf⟩ := h
  obtain ⟨A0, n0, c0, rfl⟩ := okWide_slice Tryz.underlying23 hv
  obtain ⟨A, n, c, l, e, h1, h2, h3, h4⟩ := trod_rows (R := CallR) Tryz.underlying23 Tryz.cellsCall (by decide) (by rw [bytesCall]; decide) ⟨⟨0, [], ⟨0, 0, 0, [], []⟩⟩⟩ (fun {fu cs' y} ht hl => trod_call ht hl) hf hw
  simp [Value.cells] at e
  obtain ⟨rfl, rfl, rfl⟩ := e
  exact ⟨A0, n0, c0, l, ⟨h1, h2, h3, h4⟩, rfl⟩
end
end Go.Proofs.YtjcphpmlekfhdaaGreatDoor
