/- A law's calls: as data, in memory, and as they come in. No condition. -/
import Derived.Test.YtjcphpmlekfhdaaDoorGm
import Derived.Test.YtjcphpmlekfhdaaDoorGn

namespace Go.Proofs.YtjcphpmlekfhdaaDoor
open Go.ChangeShapes Go.WideShapes Go.ChangeAt Go.RowKit Go.ChangeMaps
set_option maxRecDepth 100000

structure StepD where
  k : Nat
  f : Int
  n : Int
  b : List Nat
  p : List Int
def stepV (k : Nat) (f n : Int) (B : Option Addr) (nb cb : Nat) (Q : Option Addr) (nq cq : Nat) : List Value := [.int .u8 (k : Int), .int .i64 f, .int .i64 n, .slice B nb cb, .slice Q nq cq]
structure StepD.Ok (s : StepD) : Prop where
  k : s.k < 256
  f : -9223372036854775808 ≤ s.f ∧ s.f ≤ 9223372036854775807
  n : -9223372036854775808 ≤ s.n ∧ s.n ≤ 9223372036854775807
/-- How a step reads. -/
def StepR : Reads StepD := fun w P V s => ∃ B cb Q cq, V = stepV s.k s.f s.n B s.b.length cb Q s.p.length cq ∧ s.Ok ∧ (s.b.length ≤ cb ∧ s.b.length ≤ 140737488351232) ∧ cb ≤ 9223372036854775807 ∧ BsP w P B s.b.length s.b ∧ (s.p.length ≤ cq ∧ s.p.length ≤ 140737488351232) ∧ cq ≤ 9223372036854775807 ∧ ZsP w P Q s.p.length s.p
theorem stepM : Mono StepR where
  keep := by
    rintro w w' P V x ⟨B, cb, Q, cq, e, h1, h2, h3, h4, h5, h6, h7⟩ g
    exact ⟨B, cb, Q, cq, e, h1, h2, h3, h4.keep g, h5, h6, h7.keep g⟩
  weak := by
    rintro w P P' V x ⟨B, cb, Q, cq, e, h1, h2, h3, h4, h5, h6, h7⟩ q
    exact ⟨B, cb, Q, cq, e, h1, h2, h3, h4.weak q, h5, h6, h7.weak q⟩

theorem Tryd.cellsStep : Tryd.prog.cellsOf 38 = 5 := by kernel_rfl
theorem bytesStep : Tryd.prog.bytesOf 38 = 72 := by kernel_rfl
theorem fields_step : (Tryd.prog.fieldsOf 38).toList.map (fun f => (f.type, f.offset)) = [(5, 0), (3, 1), (3, 2), (35, 3), (36, 4)] := by kernel_rfl
/-- A call of the law's. -/
structure CallD where
  k : Nat
  l : List (List Nat)
  s : StepD
def CallR : Reads CallD := fun w P V x => ∃ A c V2, V = .int .u8 (x.k : Int) :: .slice A x.l.length c :: V2 ∧ x.k < 256 ∧ (x.l.length ≤ c ∧ x.l.length ≤ 140737488351232) ∧ c ≤ 9223372036854775807 ∧ Rows w P 1 ByR A x.l.length x.l ∧ StepR w P V2 x.s
theorem callM : Mono CallR where
  keep := by
    rintro w w' P V x ⟨A, c, V2, e, h1, h2, h3, h4, h5⟩ g
    exact ⟨A, c, V2, e, h1, h2, h3, h4.keep byM g, stepM.keep h5 g⟩
  weak := by
    rintro w P P' V x ⟨A, c, V2, e, h1, h2, h3, h4, h5⟩ q
    exact ⟨A, c, V2, e, h1, h2, h3, Rows.weak byM h4 q, stepM.weak h5 q⟩
theorem Tryd.cellsBss : Tryd.prog.cellsOf 30 = 1 := by kernel_rfl
theorem Tryd.cellsCall : Tryd.prog.cellsOf 40 = 7 := by kernel_rfl
theorem bytesCall : Tryd.prog.bytesOf 40 = 104 := by kernel_rfl
theorem fields_call : (Tryd.prog.fieldsOf 40).toList.map (fun f => (f.type, f.offset)) = [(5, 0), (30, 1), (38, 2)] := by kernel_rfl
section
variable {H : Type} {enc : TypeId × Value → H} {W : World} {base : Nat} {v : Value} {d : DataW H} {p : List MemPlace}
variable {spare : Nat → Bool} {held : Bool} {fuel : Nat} {cs : List Value} {x : DataW H × List MemPlace}
theorem light_each {xs : List (DataW H × List MemPlace)} {T : TypeId} {fs : Array Field} (hu : Tryd.prog.underlying T = some (.struct fs)) (hw : Light (.agg (xs.map (·.1))) T) : ∀ y ∈ DataW.weightsEach Tryd.prog (fs.toList.map (·.type)) (xs.map (·.1)), y ≤ reachBytes := fun y hy => hw y (by rw [DataW.weights, hu]; exact hy)
set_option maxRecDepth 100000 in
theorem trod_step (h : DataW.trod enc Tryd.prog W 0 spare held fuel 38 cs = some x) (hw : Light x.1 38) : cs.length = 5 ∧ ∃ s, StepR W anyP cs s := by
  have hu : Tryd.prog.underlying 38 = some (.struct (Tryd.prog.fieldsOf 38)) := by kernel_rfl
  obtain ⟨xs, n, _, hxx, hcl, hxl, hf⟩ := DataW.trod_struct hu h
  rw [hxx] at hw
  have hwe := light_each hu hw
  rw [Tryd.cellsStep] at hcl
  have hfd := fields_step
  obtain ⟨fs, hfs⟩ : ∃ fs, Tryd.prog.fieldsOf 38 = fs := ⟨_, rfl⟩
  rw [hfs] at hf hfd hxl hwe
  obtain ⟨l⟩ := fs
  match l, hfd, hf, hxl, hwe with
  | [f0, f1, f2, f3, f4], hfd, hf, hxl, hwe =>
    simp only [List.map_cons, List.map_nil, List.cons.injEq, and_true, Prod.mk.injEq] at hfd
    obtain ⟨⟨a0, b0⟩, ⟨a1, b1⟩, ⟨a2, b2⟩, ⟨a3, b3⟩, ⟨a4, b4⟩⟩ := hfd
    obtain ⟨v0, v1, v2, v3, v4, rfl⟩ : ∃ v0 v1 v2 v3 v4, cs = [v0, v1, v2, v3, v4] := by
      match cs, hcl with
      | [v0, v1, v2, v3, v4], _ => exact ⟨v0, v1, v2, v3, v4, rfl⟩
    match xs, hxl, hwe with
    | [y0, y1, y2, y3, y4], _, hwe =>
      simp only [List.map_cons, List.map_nil, DataW.weightsEach, a0, a1, a2, a3, a4] at hwe
      have g0 := hf 0 f0 rfl
      have g1 := hf 1 f1 rfl
      have g2 := hf 2 f2 rfl
      have g3 := hf 3 f3 rfl
      have g4 := hf 4 f4 rfl
      rw [a0, b0, Tryd.cellsByte] at g0
      rw [a1, b1, Tryd.cellsInt] at g1
      rw [a2, b2, Tryd.cellsInt] at g2
      rw [a3, b3, Tryd.cellsBs] at g3
      rw [a4, b4, Tryd.cellsIs] at g4
      obtain ⟨q0, e0, _, w0⟩ := DataW.trod_int Tryd.underlying5 (x := y0) g0
      obtain ⟨q1, e1, _, w1⟩ := DataW.trod_int Tryd.underlying3 (x := y1) g1
      obtain ⟨q2, e2, _, w2⟩ := DataW.trod_int Tryd.underlying3 (x := y2) g2
      obtain ⟨B, nb, cb, L, ⟨k1, k2, k4, k3⟩, e3⟩ := bytes_trod (x := y3) g3 (fun y hy => hwe y (List.mem_append_right _ (List.mem_append_right _ (List.mem_append_right _ (List.mem_append_left _ hy)))))
      obtain ⟨Q, nq, cq, Z, ⟨l1, l2, l4, l3⟩, e4⟩ := ints_trod (x := y4) g4 (fun y hy => hwe y (List.mem_append_right _ (List.mem_append_right _ (List.mem_append_right _ (List.mem_append_right _ (List.mem_append_left _ hy))))))
      have c0 := bounds_u8 w0
      have c1 := bounds_i64 w1
      have c2 := bounds_i64 w2
      simp at e0 e1 e2
      subst e0 e1 e2 e3 e4
      have n1 := k3.len
      have n2 := l3.len
      subst n1 n2
      exact ⟨rfl, ⟨q0.toNat, q1, q2, L, Z⟩, B, cb, Q, cq, by simp [stepV, Int.toNat_of_nonneg c0.1], ⟨by show q0.toNat < 256; omega, by show _ ∧ _; omega, by show _ ∧ _; omega⟩, ⟨k1, k4⟩, k2, k3.p, ⟨l1, l4⟩, l2, l3.p⟩
/-- Records, by their cells. -/
theorem trod_bytess (h : DataW.trod enc Tryd.prog W 0 spare held fuel 30 cs = some x) (hw : Light x.1 30) :
    ∃ (A : Option Addr) (n c : Nat) (l : List (List Nat)), cs = [.slice A n c] ∧ n ≤ c ∧ n ≤ 140737488351232 ∧ c ≤ 9223372036854775807 ∧ Rows W anyP 1 ByR A n l :=
  trod_rows (R := ByR) Tryd.underlying30 (by kernel_rfl : Tryd.prog.cellsOf 35 = 1) (by decide) (by rw [(by kernel_rfl : Tryd.prog.bytesOf 35 = 24)]; decide) ⟨[]⟩ (fun {fu cs' y} ht hl => by
    obtain ⟨u, rfl⟩ : ∃ u, cs' = [u] := by
      rcases Deep.open_slice1 Tryd.underlying35 Tryd.cellsByte ht with ⟨e, _⟩ | ⟨_, _, _, _, _, _, _, _, e, _⟩
      · exact ⟨_, e⟩
      · exact ⟨_, e⟩
    obtain ⟨B, k, q, L, ⟨g1, g2, g3, g4⟩, rfl⟩ := bytes_trod ht hl
    have g5 := g4.len
    subst g5
    exact ⟨rfl, L, B, q, rfl, ⟨g1, g3⟩, g2, g4.p⟩) h hw
theorem trod_call (h : DataW.trod enc Tryd.prog W 0 spare held fuel 40 cs = some x) (hw : Light x.1 40) : cs.length = 7 ∧ ∃ s, CallR W anyP cs s := by
  have hu : Tryd.prog.underlying 40 = some (.struct (Tryd.prog.fieldsOf 40)) := by kernel_rfl
  obtain ⟨xs, n, _, hxx, hcl, hxl, hf⟩ := DataW.trod_struct hu h
  rw [hxx] at hw
  have hwe := light_each hu hw
  rw [Tryd.cellsCall] at hcl
  have hfd := fields_call
  obtain ⟨fs, hfs⟩ : ∃ fs, Tryd.prog.fieldsOf 40 = fs := ⟨_, rfl⟩
  rw [hfs] at hf hfd hxl hwe
  obtain ⟨l⟩ := fs
  match l, hfd, hf, hxl, hwe with
  | [f0, f1, f2], hfd, hf, hxl, hwe =>
    simp only [List.map_cons, List.map_nil, List.cons.injEq, and_true, Prod.mk.injEq] at hfd
    obtain ⟨⟨a0, b0⟩, ⟨a1, b1⟩, ⟨a2, b2⟩⟩ := hfd
    obtain ⟨v0, v1, v2, v3, v4, v5, v6, rfl⟩ : ∃ v0 v1 v2 v3 v4 v5 v6, cs = [v0, v1, v2, v3, v4, v5, v6] := by
      match cs, hcl with
      | [v0, v1, v2, v3, v4, v5, v6], _ => exact ⟨v0, v1, v2, v3, v4, v5, v6, rfl⟩
    match xs, hxl, hwe with
    | [y0, y1, y2], _, hwe =>
      simp only [List.map_cons, List.map_nil, DataW.weightsEach, a0, a1, a2] at hwe
      have g0 := hf 0 f0 rfl
      have g1 := hf 1 f1 rfl
      have g2 := hf 2 f2 rfl
      rw [a0, b0, Tryd.cellsByte] at g0
      rw [a1, b1, Tryd.cellsBss] at g1
      rw [a2, b2, Tryd.cellsStep] at g2
      obtain ⟨q0, e0, _, w0⟩ := DataW.trod_int Tryd.underlying5 (x := y0) g0
      obtain ⟨B, nb, cb, L, e1, k1, k4, k2, k3⟩ := trod_bytess (x := y1) g1 (fun y hy => hwe y (List.mem_append_right _ (List.mem_append_left _ hy)))
      obtain ⟨_, s, hs⟩ := trod_step (x := y2) g2 (fun y hy => hwe y (List.mem_append_right _ (List.mem_append_right _ (List.mem_append_left _ hy))))
      have c0 := bounds_u8 w0
      simp at e0 e1
      subst e0 e1
      have n1 := k3.len
      subst n1
      exact ⟨rfl, ⟨q0.toNat, L, s⟩, B, cb, _, by rw [Int.toNat_of_nonneg c0.1]; rfl, (by show q0.toNat < 256; omega), ⟨k1, k4⟩, k2, k3, hs⟩
theorem open_calls (hv : Value.okWide Tryd.prog W .any base 22 v) (h : DataW.Trod enc Tryd.prog W 0 (fun _ => true) true 22 v d p) (hw : ∀ y ∈ d.weights Tryd.prog 22, y ≤ reachBytes) :
    ∃ (A : Option Addr) (n c : Nat) (l : List CallD), (n ≤ c ∧ n ≤ 140737488351232 ∧ c ≤ 9223372036854775807 ∧ Rows W anyP 7 CallR A n l) ∧ v = .slice A n c := by
  obtain ⟨fuel, hf⟩ := h
  obtain ⟨A0, n0, c0, rfl⟩ := okWide_slice Tryd.underlying22 hv
  obtain ⟨A, n, c, l, e, h1, h2, h3, h4⟩ := trod_rows (R := CallR) Tryd.underlying22 Tryd.cellsCall (by decide) (by rw [bytesCall]; decide) ⟨⟨0, [], ⟨0, 0, 0, [], []⟩⟩⟩ (fun {fu cs' y} ht hl => trod_call ht hl) hf hw
  simp [Value.cells] at e
  obtain ⟨rfl, rfl, rfl⟩ := e
  exact ⟨A0, n0, c0, l, ⟨h1, h2, h3, h4⟩, rfl⟩
end
end Go.Proofs.YtjcphpmlekfhdaaDoor

/- heavy: whether calls are too many. No condition but the machine's reach. -/
namespace Go.Proofs.YtjcphpmlekfhdaaDoor
open Go.RowKit

def rwt (l : List (List Nat)) : Nat := (l.map fun r => 16 + r.length).sum
def kwt (x : CallD) : Nat := 32 + x.s.b.length + x.s.p.length + rwt x.l
def kwts (l : List CallD) : Nat := (l.map kwt).sum
theorem rwt_next {l : List (List Nat)} {k : Nat} (h : k < l.length) : rwt (l.take (k + 1)) = rwt (l.take k) + 16 + l[k].length := by
  unfold rwt
  rw [List.take_add_one, List.getElem?_eq_getElem h, Option.toList_some, List.map_append, List.sum_append]
  simp
  omega
theorem rwt_take (l : List (List Nat)) (k : Nat) : rwt (l.take k) ≤ rwt l := by
  have e : rwt l = rwt (l.take k) + rwt (l.drop k) := by
    unfold rwt
    rw [← List.sum_append, ← List.map_append, List.take_append_drop]
  omega
theorem kwts_next {l : List CallD} {k : Nat} (h : k < l.length) : kwts (l.take (k + 1)) = kwts (l.take k) + kwt l[k] := by
  unfold kwts
  rw [List.take_add_one, List.getElem?_eq_getElem h, Option.toList_some, List.map_append, List.sum_append]
  simp
theorem kwts_take (l : List CallD) (k : Nat) : kwts (l.take k) ≤ kwts l := by
  have e : kwts l = kwts (l.take k) + kwts (l.drop k) := by
    unfold kwts
    rw [← List.sum_append, ← List.map_append, List.take_append_drop]
  omega
/-- A call's cells. -/
theorem call_at {w : World} {P : Nat → Prop} {b o n : Nat} {l : List CallD} (h : Rows w P 7 CallR (some ⟨b, o, none⟩) n l) {k : Nat} (hk : k < l.length) : b < w.heap.size ∧ ∃ A c B cb Q cq,
    w.cell? ⟨b, o + k * 7, none⟩ = some (.int .u8 (l[k].k : Int)) ∧ w.cell? ⟨b, o + k * 7 + 1, none⟩ = some (.slice A l[k].l.length c) ∧ w.cell? ⟨b, o + k * 7 + 2 + 2, none⟩ = some (.int .i64 l[k].s.n) ∧ w.cell? ⟨b, o + k * 7 + 2 + 3, none⟩ = some (.slice B l[k].s.b.length cb) ∧ w.cell? ⟨b, o + k * 7 + 2 + 4, none⟩ = some (.slice Q l[k].s.p.length cq) ∧
    l[k].k < 256 ∧ (l[k].l.length ≤ c ∧ l[k].l.length ≤ 140737488351232) ∧ c ≤ 9223372036854775807 ∧ Rows w P 1 ByR A l[k].l.length l[k].l ∧ l[k].s.Ok ∧ (l[k].s.b.length ≤ cb ∧ l[k].s.b.length ≤ 140737488351232) ∧ (l[k].s.p.length ≤ cq ∧ l[k].s.p.length ≤ 140737488351232) ∧ cq ≤ 9223372036854775807 ∧ ZsP w P Q l[k].s.p.length l[k].s.p := by
  obtain ⟨hb, _, V, _, hr, A, c, V2, rfl, h1, h2, h3, h4, B, cb, Q, cq, rfl, k1, k2, k3, k4, k5, k6, k7⟩ := h.at_ hk
  exact ⟨hb, A, c, B, cb, Q, cq, hr 0 _ rfl, hr 1 _ rfl, hr 4 _ rfl, hr 5 _ rfl, hr 6 _ rfl, h1, h2, h3, h4, k1, k2, k5, k6, k7⟩
set_option maxRecDepth 100000 in
set_option maxHeartbeats 4000000 in
theorem heavy_any {A : Option Addr} {n c : Nat} {l : List CallD} (w : World) (hn : n ≤ 140737488351232) (hL : Rows w anyP 7 CallR A n l) :
    Calls Tryd.prog 8 #[.slice A n c] w fun e w' => e = .returned (.bool (decide (16384 < kwts l))) ∧ Below w.heap.size w w' := by
  have HL := Lib.hid hL
  have hln := hL.len
  clear hL
  go_enter Tryd.func8, Tryd.ntmps8
  go_wp2_with fail
  go_loopw [3, 4] (fun v i wr => ∃ k z : Nat, k ≤ n ∧ v = .int .i64 (z : Nat) ∧ i = .int .i64 (k : Nat) ∧ (z = kwts (l.take k) ∨ (16384 < z ∧ z ≤ kwts l)) ∧ z ≤ 900000000000000 ∧ Below w.heap.size w wr) (fun _ i _ => n - (intOf i).toNat)
  case atStart => exact ⟨0, 0, Nat.zero_le _, rfl, rfl, .inl rfl, by omega, Below.refl _ _⟩
  case round =>
    obtain ⟨k, z, hk, rfl, rfl, hz, hzb, bel⟩ := hrel
    have HZ := Lib.hid hz
    have HB := Lib.hid bel
    clear hz bel
    by_cases hlt : k < n
    · have t1 : decide ((k : Int) < (n : Int)) = true := decide_eq_true (by omega)
      by_cases h2 : z ≤ 16384
      · have t2 : decide ((z : Int) ≤ 16384) = true := decide_eq_true (by omega)
        obtain ⟨b, o, rfl⟩ := rows_some HL.out (by omega)
        have hkl : k < l.length := by omega
        have HQ := Lib.hid ((HL.out.later callM HB.out).later callM (Below.refl _ _).drew)
        obtain ⟨_, A1, c1, B, cb, Q, cq, _, q1, _, q3, q4, _, ⟨_, l0⟩, _, hrow, _, ⟨_, l1⟩, ⟨_, l2⟩, _⟩ := call_at HQ.out hkl
        have HN := Lib.hid (kwts_next hkl)
        obtain ⟨X, hX⟩ : ∃ X, l[k] = X := ⟨_, rfl⟩
        rw [hX] at q1 q3 q4 l0 l1 l2 hrow
        have HW : Hid (kwts (l.take (k + 1)) = z + (32 + X.s.b.length + X.s.p.length + rwt X.l)) := Lib.hid (by
          rw [HN.out, hX]
          rcases HZ.out with e | e
          · rw [e]; rfl
          · omega)
        obtain ⟨x, hx⟩ : ∃ x, X.s.b.length = x := ⟨_, rfl⟩
        obtain ⟨y, hy⟩ : ∃ y, X.s.p.length = y := ⟨_, rfl⟩
        rw [hx, hy] at HW
        rw [hx] at q3 l1
        rw [hy] at q4 l2
        obtain ⟨m, hm⟩ : ∃ m, X.l.length = m := ⟨_, rfl⟩
        rw [hm] at q1 l0 hrow
        have HR := Lib.hid hrow
        have hml := hm
        clear hx hy hX hm hrow HN
        go_wp2_with fail
        go_region
        go_wp2_with fail
        have zb : z + 32 + x + y ≤ 300000000000000 := by omega
        go_loopw [3, 5] (fun v i wq => ∃ q zz : Nat, q ≤ m ∧ v = .int .i64 (zz : Nat) ∧ i = .int .i64 (q : Nat) ∧ zz = z + 32 + x + y + rwt (X.l.take q) ∧ zz ≤ 600000000000000 ∧ wq = wr.drew) (fun _ i _ => m - (intOf i).toNat)
        case atStart => exact ⟨0, z + 32 + x + y, Nat.zero_le _, by go_num, rfl, rfl, by omega, rfl⟩
        case round =>
          obtain ⟨q, zz, hqm, rfl, rfl, hzz, hzzb, hwq⟩ := hrel
          subst hwq
          have HZZ := Lib.hid hzz
          clear hzz
          by_cases hqlt : q < m
          · have s1 : decide (q < m) = true := decide_eq_true hqlt
            have s1' : decide ((q : Int) < (m : Int)) = true := decide_eq_true (by omega)
            by_cases h3 : zz ≤ 16384
            · have s2 : decide ((zz : Int) ≤ 16384) = true := decide_eq_true (by omega)
              obtain ⟨b2, o2, rfl⟩ := rows_some HR.out (by omega)
              have hql : q < X.l.length := by omega
              obtain ⟨_, B3, c3, hc3, _, hl3, _, _⟩ := by_at HR.out hql
              have HN2 := Lib.hid (rwt_next hql)
              obtain ⟨u, hu⟩ : ∃ u, X.l[q].length = u := ⟨_, rfl⟩
              rw [hu] at hc3 hl3 HN2
              clear hu
              go_wp2_with fail
              go_roundw
              case rel => exact ⟨q + 1, zz + 16 + u, by omega, by go_num, by go_num, by rw [HN2.out]; have := HZZ.out; omega, by omega, trivial⟩
              case measure => simp [intOf]; omega
            · have s2 : decide ((zz : Int) ≤ 16384) = false := decide_eq_false (by omega)
              have HIN : Hid (16384 < zz ∧ zz ≤ kwts l) := Lib.hid ⟨by omega, by have := HZZ.out; have := rwt_take X.l q; have := HW.out; have := kwts_take l (k + 1); omega⟩
              go_wp2_with fail
              go_roundw
              case rel => exact ⟨k + 1, zz, by omega, by go_num, by go_num, .inr HIN.out, by omega, HB.out.drew⟩
              case measure => simp [intOf]; omega
          · have s1 : decide (q < m) = false := decide_eq_false hqlt
            have s1' : decide ((q : Int) < (m : Int)) = false := decide_eq_false (by omega)
            have HIN : Hid (zz = kwts (l.take (k + 1))) := Lib.hid (by
              have e : X.l.take q = X.l := List.take_of_length_le (by omega)
              have h1 := HZZ.out
              have h2 := HW.out
              rw [e] at h1
              omega)
            go_wp2_with fail
            go_roundw
            case rel => exact ⟨k + 1, zz, by omega, by go_num, by go_num, .inl HIN.out, by omega, HB.out.drew⟩
            case measure => simp [intOf]; omega
      · have t2 : decide ((z : Int) ≤ 16384) = false := decide_eq_false (by omega)
        have t3 : decide ((16384 : Int) < (z : Int)) = true := decide_eq_true (by omega)
        go_wp2_with fail
        go_ret
        exact ⟨by rw [decide_eq_true (show 16384 < kwts l by have := kwts_take l k; have := HZ.out; omega)]; rfl, HB.out⟩
    · have t1 : decide ((k : Int) < (n : Int)) = false := decide_eq_false (by omega)
      have HE : Hid (z = kwts l ∨ (16384 < z ∧ z ≤ kwts l)) := Lib.hid (by
        have := HZ.out
        rwa [List.take_of_length_le (by omega)] at this)
      by_cases h2 : 16384 < z
      · have t3 : decide ((16384 : Int) < (z : Int)) = true := decide_eq_true (by omega)
        go_wp2_with fail
        go_ret
        exact ⟨by rw [decide_eq_true (show 16384 < kwts l by have := HE.out; omega)]; rfl, HB.out⟩
      · have t3 : decide ((16384 : Int) < (z : Int)) = false := decide_eq_false (by omega)
        go_wp2_with fail
        go_ret
        exact ⟨by rw [decide_eq_false (show ¬ 16384 < kwts l by have := HE.out; omega)]; rfl, HB.out⟩
end Go.Proofs.YtjcphpmlekfhdaaDoor

/- Words of VaultKeeps: what holds between two calls; Add and Compact of a vault in whatever state. Condition: the tables lie as laid. -/
namespace Go.Proofs.YtjcphpmlekfhdaaDoor
open Go.RowKit

/-- Blocks in which gathered rows lie. -/
def KpR (X : Nat → Prop) (pb : Nat) (a : Value) : Nat → Prop := fun b => X b ∧ b ≠ pb ∧ a ≠ .pointer (some ⟨b, 0, none⟩)
/-- The vault in order, or nil, or failed. -/
def KepS (w : World) (d pb : Nat) (a : Value) (all more next : List (List Nat)) (o : Bool) (T : Dk) (X : Nat → Prop) (wr : World) : Prop :=
  (∃ v f g, a = .pointer (some ⟨v, 0, none⟩) ∧ Ro wr v 78 (vtV d f g all.length false) ∧ X v ∧ w.heap.size ≤ v ∧ v ≠ pb ∧ Alive T f g all ∧ more = [] ∧ o = false) ∨
  ((a = .pointer none ∨ ∃ v f g n, a = .pointer (some ⟨v, 0, none⟩) ∧ Ro wr v 78 (vtV d f g n true) ∧ X v ∧ w.heap.size ≤ v ∧ v ≠ pb) ∧ Safe T (MayBe o all more next))
structure KepB (w : World) (d pb : Nat) (a : Value) (all more next : List (List Nat)) (o : Bool) (T : Dk) (X : Nat → Prop) (A1 A2 A3 : Option Addr) (c1 c2 c3 : Nat) (wr : World) : Prop where
  dp : Dp w d X T wr
  box : Ro wr pb 34 [.slice A1 all.length c1, .slice A2 more.length c2, .slice A3 next.length c3, .bool o]
  low : w.heap.size ≤ pb
  xo : ∀ b, b < w.heap.size → X b
  xb : X pb
  xs : ∀ b, X b → b < wr.heap.size
  r1 : Rows wr (KpR X pb a) 1 ByR A1 all.length all
  r2 : Rows wr (KpR X pb a) 1 ByR A2 more.length more
  r3 : Rows wr (KpR X pb a) 1 ByR A3 next.length next
  k1 : all.length ≤ c1
  k2 : more.length ≤ c2
  k3 : next.length ≤ c3
structure KepJ (w : World) (d pb i : Nat) (a : Value) (all more next : List (List Nat)) (o : Bool) (T : Dk) (X : Nat → Prop) (A1 A2 A3 : Option Addr) (c1 c2 c3 : Nat) (wr : World) : Prop extends KepB w d pb a all more next o T X A1 A2 A3 c1 c2 c3 wr where
  cn : T.cnt ≤ 4 * i + 8
  st : KepS w d pb a all more next o T X wr
theorem kwts_len : ∀ (l : List CallD), 32 * l.length ≤ kwts l
  | [] => Nat.zero_le _
  | x :: l => by
    have e : kwts (x :: l) = kwt x + kwts l := by unfold kwts; simp
    have := kwts_len l
    rw [e, List.length_cons]
    unfold kwt
    omega
theorem rwt_len (l : List (List Nat)) : l.length ≤ rwt l ∧ wideS l ≤ 36 * rwt l := by
  induction l with
  | nil => exact ⟨Nat.zero_le _, Nat.zero_le _⟩
  | cons x l ih =>
    have e : rwt (x :: l) = 16 + x.length + rwt l := by unfold rwt; simp
    have e2 : wideS (x :: l) = 36 + x.length + wideS l := by unfold wideS; simp
    rw [e, e2, List.length_cons]
    omega
theorem maybe_len {o : Bool} {all more next y : List (List Nat)} (h : MayBe o all more next y) : y.length ≤ all.length + more.length + next.length := by
  rcases h with ⟨_, rfl⟩ | ⟨j, rfl⟩
  · omega
  · rw [List.length_append, List.length_take]
    omega
section
variable {w wr w1 W : World} {d pb i : Nat} {a : Value} {all more next all2 more2 next2 L : List (List Nat)} {o o2 : Bool} {T T2 : Dk} {X Y : Nat → Prop} {A1 A2 A3 A5 B1 B2 B3 : Option Addr} {c1 c2 c3 c5 d1 d2 d3 : Nat}
theorem KepS.kept (st : KepS w d pb a all more next o T X wr) (K : Kept (fun b => b ≠ pb) wr w1) : KepS w d pb a all more next o T X w1 := by
  rcases st with ⟨v, f, g, e, V, h1, h2, h3, h4⟩ | ⟨h | ⟨v, f, g, n, e, V, h1, h2, h3⟩, h5⟩
  · exact .inl ⟨v, f, g, e, (K.blk v h3 V.lt).trans V, h1, h2, h3, h4⟩
  · exact .inr ⟨.inl h, h5⟩
  · exact .inr ⟨.inr ⟨v, f, g, n, e, (K.blk v h3 V.lt).trans V, h1, h2, h3⟩, h5⟩
theorem KepS.wide (st : KepS w d pb a all more next o T X wr) (h : ∀ b, X b → Y b) : KepS w d pb a all more next o T Y wr := by
  rcases st with ⟨v, f, g, e, V, h1, h2⟩ | ⟨q | ⟨v, f, g, n, e, V, h1, h2⟩, h5⟩
  · exact .inl ⟨v, f, g, e, V, h v h1, h2⟩
  · exact .inr ⟨.inl q, h5⟩
  · exact .inr ⟨.inr ⟨v, f, g, n, e, V, h v h1, h2⟩, h5⟩
theorem KepS.far (st : KepS w d pb a all more next o T X wr) : ∀ b, wr.heap.size ≤ b → a ≠ .pointer (some ⟨b, 0, none⟩) := by
  intro b hb e
  rcases st with ⟨v, f, g, rfl, V, _⟩ | ⟨rfl | ⟨v, f, g, n, rfl, V, _⟩, _⟩
  · have := V.lt
    injection e with e; injection e with e; injection e with e
    omega
  · cases e
  · have := V.lt
    injection e with e; injection e with e; injection e with e
    omega
theorem ptr_ne {v b : Nat} (h : v ≠ b) : Value.pointer (some ⟨v, 0, none⟩) ≠ .pointer (some ⟨b, 0, none⟩) := fun e => by
  injection e with e; injection e with e; injection e with e
  exact h e
theorem KepS.va (st : KepS w d pb a all more next o T X wr) : a ≠ .pointer (some ⟨pb, 0, none⟩) := by
  rcases st with ⟨v, f, g, rfl, V, _, _, h, _⟩ | ⟨rfl | ⟨v, f, g, n, rfl, V, _, _, h⟩, _⟩
  · exact ptr_ne h
  · exact fun e => by cases e
  · exact ptr_ne h
/-- Nothing of the vault is in what lay there ahead of the law. -/
theorem KepS.old (st : KepS w d pb a all more next o T X wr) : ∀ b, b < w.heap.size → a ≠ .pointer (some ⟨b, 0, none⟩) := by
  intro b hb
  rcases st with ⟨v, f, g, rfl, V, _, h, _⟩ | ⟨rfl | ⟨v, f, g, n, rfl, V, _, h, _⟩, _⟩
  · exact ptr_ne (by omega)
  · exact fun e => by cases e
  · exact ptr_ne (by omega)
theorem KepS.safe (st : KepS w d pb a all more next o T X wr) : Safe T (MayBe o all more next) := by
  rcases st with ⟨v, f, g, e, V, h1, h2, h3, A, _⟩ | ⟨_, h5⟩
  · exact A.safe maybe_all
  · exact h5
/-- Behind a write of p. -/
theorem KepB.put (B : KepB w d pb a all more next o T X A1 A2 A3 c1 c2 c3 wr) (K : Kept (fun b => b ≠ pb) wr w1) (hs : w1.heap.size = wr.heap.size) (bel : Below w.heap.size w w1) (box : Ro w1 pb 34 [.slice B1 all2.length d1, .slice B2 more2.length d2, .slice B3 next2.length d3, .bool o2])
    (r1 : Rows wr (KpR X pb a) 1 ByR B1 all2.length all2) (r2 : Rows wr (KpR X pb a) 1 ByR B2 more2.length more2) (r3 : Rows wr (KpR X pb a) 1 ByR B3 next2.length next2) (k1 : all2.length ≤ d1) (k2 : more2.length ≤ d2) (k3 : next2.length ≤ d3) :
    KepB w d pb a all2 more2 next2 o2 T X B1 B2 B3 d1 d2 d3 w1 :=
  ⟨B.dp.keep (K.narrow fun b hb e => hb (by rw [e]; exact B.xb)) bel, box, B.low, B.xo, B.xb, fun b hb => by rw [hs]; exact B.xs b hb, r1.keep byM (K.narrow fun b h => h.2.1), r2.keep byM (K.narrow fun b h => h.2.1), r3.keep byM (K.narrow fun b h => h.2.1), k1, k2, k3⟩
/-- Behind what makes memory. -/
theorem KepB.later (J : KepB w d pb a all more next o T X A1 A2 A3 c1 c2 c3 wr) (b : Below wr.heap.size wr w1) : KepB w d pb a all more next o T X A1 A2 A3 c1 c2 c3 w1 :=
  ⟨J.dp.later b, J.box.later b, J.low, J.xo, J.xb, fun k hk => Nat.lt_of_lt_of_le (J.xs k hk) b.size, Rows.later byM J.r1 b, Rows.later byM J.r2 b, Rows.later byM J.r3 b, J.k1, J.k2, J.k3⟩
theorem KepJ.later (J : KepJ w d pb i a all more next o T X A1 A2 A3 c1 c2 c3 wr) (b : Below wr.heap.size wr w1) : KepJ w d pb i a all more next o T X A1 A2 A3 c1 c2 c3 w1 :=
  ⟨J.toKepB.later b, J.cn, J.st.kept (Kept.of_below b)⟩
/-- What is new is kept too. -/
theorem KepB.wide (B : KepB w d pb a all more next o T X A1 A2 A3 c1 c2 c3 wr) (b : Below wr.heap.size wr w1) : KepB w d pb a all more next o T (fun k => X k ∨ (wr.heap.size ≤ k ∧ k < w1.heap.size)) A1 A2 A3 c1 c2 c3 w1 :=
  ⟨B.dp.wide (Kept.of_below b) (B.dp.bel.trans (b.mono B.dp.bel.size)) fun b hb => hb, B.box.later b, B.low, fun k h => .inl (B.xo k h), .inl B.xb, fun k hk => hk.elim (fun h => Nat.lt_of_lt_of_le (B.xs k h) b.size) fun h => h.2, Rows.weak byM (Rows.later byM B.r1 b) fun _ h _ => ⟨.inl h.1, h.2⟩, Rows.weak byM (Rows.later byM B.r2 b) fun _ h _ => ⟨.inl h.1, h.2⟩, Rows.weak byM (Rows.later byM B.r3 b) fun _ h _ => ⟨.inl h.1, h.2⟩, B.k1, B.k2, B.k3⟩
theorem KepJ.wide (J : KepJ w d pb i a all more next o T X A1 A2 A3 c1 c2 c3 wr) (b : Below wr.heap.size wr w1) : KepJ w d pb i a all more next o T (fun k => X k ∨ (wr.heap.size ≤ k ∧ k < w1.heap.size)) A1 A2 A3 c1 c2 c3 w1 :=
  ⟨J.toKepB.wide b, J.cn, (J.st.kept (Kept.of_below b)).wide fun _ h => .inl h⟩
/-- Behind a call of the vault. -/
theorem KepB.move (B : KepB w d pb a all more next o T X A1 A2 A3 c1 c2 c3 wr) (va : a ≠ .pointer (some ⟨pb, 0, none⟩)) (dp : Dp w d X T2 w1) (K : Kept (fun b => X b ∧ a ≠ .pointer (some ⟨b, 0, none⟩)) wr w1) : KepB w d pb a all more next o T2 X A1 A2 A3 c1 c2 c3 w1 :=
  ⟨dp, (K.blk pb ⟨B.xb, va⟩ B.box.lt).trans B.box, B.low, B.xo, B.xb, fun b hb => Nat.lt_of_lt_of_le (B.xs b hb) K.size, B.r1.keep byM (K.narrow fun b h => ⟨h.1, h.2.2⟩), B.r2.keep byM (K.narrow fun b h => ⟨h.1, h.2.2⟩), B.r3.keep byM (K.narrow fun b h => ⟨h.1, h.2.2⟩), B.k1, B.k2, B.k3⟩
/-- Add, whatever the vault. -/
theorem kep_add (hLd : Laid w) (J : KepJ w d pb i a all more next o T X A1 A2 A3 c1 c2 c3 wr) (hi : i ≤ 512) (hall : all.length ≤ 16384) (hR : Rows wr anyP 1 ByR A5 L.length L) (hn : L.length ≤ 16384) (hw : wideS L ≤ 1073741824) :
    Calls Tryd.prog 12 #[a, .slice A5 L.length c5] wr fun e W => ∃ x T2, e = .returned (.int .i64 x) ∧ KepB w d pb a all more next o T2 X A1 A2 A3 c1 c2 c3 W ∧ Kept (fun b => X b ∧ a ≠ .pointer (some ⟨b, 0, none⟩)) wr W ∧ T2.cnt ≤ 4 * (i + 1) + 8 ∧
      ((x ≠ 0 ∧ x ≠ 8 ∧ KepS w d pb a all more next o T2 X W) ∨ (x = 0 ∧ KepS w d pb a (all ++ L) more next o T2 X W ∧ more = [] ∧ o = false) ∨ (x = 8 ∧ KepS w d pb a all L next o T2 X W)) := by
  have hcn := J.cn
  have va := J.st.va
  rcases J.st with ⟨v, f, g, rfl, V, xv, lv, ne, AL, rfl, rfl⟩ | ⟨rfl | ⟨v, f, g, n, rfl, V, xv, lv, ne⟩, hs⟩
  · obtain ⟨x, T2, n, fl, e, hc, h⟩ := kp_add (L := L) AL
    have ha := add_s (n := L.length) (c := c5) hLd (⟨J.dp, xv, V, lv⟩ : Vs w d v X T f g all.length false wr) hR (by omega) (by have := AL.fm.2.2.1; omega) (by omega) (by omega) (by omega)
    rw [e] at ha
    dsimp only at ha
    refine ha.mono ?_
    rintro e W ⟨rfl, V2, K⟩
    have K2 : Kept (fun b => X b ∧ Value.pointer (some ⟨v, 0, none⟩) ≠ .pointer (some ⟨b, 0, none⟩)) wr W := K.narrow fun b h => ⟨h.1, fun e => h.2 (by rw [e])⟩
    refine ⟨x, T2, rfl, J.toKepB.move va V2.dp K2, K2, by omega, ?_⟩
    rcases h with ⟨h1, h2, rfl, rfl, rfl⟩ | ⟨rfl, A', rfl, rfl⟩ | ⟨rfl, rfl, hS⟩
    · exact .inl ⟨h1, h2, .inl ⟨v, f, g, rfl, V2.vt, xv, lv, ne, AL, rfl, rfl⟩⟩
    · exact .inr (.inl ⟨rfl, .inl ⟨v, f, g, rfl, V2.vt, xv, lv, ne, A', rfl, rfl⟩, rfl, rfl⟩)
    · exact .inr (.inr ⟨rfl, .inr ⟨.inr ⟨v, f, g, n, rfl, V2.vt, xv, lv, ne⟩, hS next⟩⟩)
  · refine (add_nil (w := wr)).mono ?_
    rintro e W ⟨rfl, b⟩
    exact ⟨2, T, rfl, J.toKepB.later b, Kept.of_below b, by omega, .inl ⟨by decide, by decide, J.st.kept (Kept.of_below b)⟩⟩
  · refine (add_not V hR (by omega) (by unfold mayN; rw [if_pos rfl]; decide)).mono ?_
    rintro e W ⟨rfl, b⟩
    exact ⟨3, T, rfl, J.toKepB.later b, Kept.of_below b, by omega, .inl ⟨by decide, by decide, J.st.kept (Kept.of_below b)⟩⟩
/-- Compact, whatever the vault. -/
theorem kep_compact (hLd : Laid w) (J : KepJ w d pb i a all more next o T X A1 A2 A3 c1 c2 c3 wr) (hi : i ≤ 512) (hR : Rows wr (fun b => b < w.heap.size) 1 ByR A5 L.length L) (hn : L.length ≤ 16384) (hw : wideS L ≤ 1073741824) :
    Calls Tryd.prog 13 #[a, .slice A5 L.length c5] wr fun e W => ∃ x T2, e = .returned (.int .i64 x) ∧ KepB w d pb a all more next o T2 X A1 A2 A3 c1 c2 c3 W ∧ Kept (fun b => X b ∧ a ≠ .pointer (some ⟨b, 0, none⟩)) wr W ∧ T2.cnt ≤ 4 * (i + 1) + 8 ∧
      ((x ≠ 0 ∧ x ≠ 8 ∧ KepS w d pb a all more next o T2 X W) ∨ (x = 0 ∧ KepS w d pb a L [] [] false T2 X W) ∨ (x = 8 ∧ KepS w d pb a all more L true T2 X W)) := by
  have hcn := J.cn
  have va := J.st.va
  rcases J.st with ⟨v, f, g, rfl, V, xv, lv, ne, AL, rfl, rfl⟩ | ⟨rfl | ⟨v, f, g, n, rfl, V, xv, lv, ne⟩, hs⟩
  · obtain ⟨x, T2, f2, g2, n, fl, e, hc, hf2, hg2, h⟩ := kp_compact (L := L) AL (by omega)
    have ha := compact_s (n := L.length) (c := c5) hLd (⟨J.dp, xv, V, lv⟩ : Vs w d v X T f g all.length false wr) (Rows.weak byM hR fun b h _ => ⟨J.xo b h, by omega⟩) (by omega) AL.hf (by have := AL.fm.2.2.1; omega) (by omega) (by omega)
    rw [e] at ha
    dsimp only at ha
    refine ha.mono ?_
    rintro e W ⟨rfl, V2, K⟩
    have K2 : Kept (fun b => X b ∧ Value.pointer (some ⟨v, 0, none⟩) ≠ .pointer (some ⟨b, 0, none⟩)) wr W := K.narrow fun b h => ⟨h.1, fun e => h.2 (by rw [e])⟩
    refine ⟨x, T2, rfl, J.toKepB.move va V2.dp K2, K2, by omega, ?_⟩
    rcases h with ⟨h1, h2, rfl, rfl, rfl, rfl, rfl⟩ | ⟨rfl, A', rfl, rfl⟩ | ⟨rfl, rfl, hS⟩
    · exact .inl ⟨h1, h2, .inl ⟨v, _, _, rfl, V2.vt, xv, lv, ne, AL, rfl, rfl⟩⟩
    · exact .inr (.inl ⟨rfl, .inl ⟨v, f2, g2, rfl, V2.vt, xv, lv, ne, A', rfl, rfl⟩⟩)
    · exact .inr (.inr ⟨rfl, .inr ⟨.inr ⟨v, f2, g2, n, rfl, V2.vt, xv, lv, ne⟩, hS⟩⟩)
  · refine (compact_nil (w := wr)).mono ?_
    rintro e W ⟨rfl, b⟩
    exact ⟨2, T, rfl, J.toKepB.later b, Kept.of_below b, by omega, .inl ⟨by decide, by decide, J.st.kept (Kept.of_below b)⟩⟩
  · refine (compact_not V (Rows.weak byM hR fun _ _ _ => trivial) (by omega) (by unfold mayN; rw [if_pos rfl]; decide)).mono ?_
    rintro e W ⟨rfl, b⟩
    exact ⟨3, T, rfl, J.toKepB.later b, Kept.of_below b, by omega, .inl ⟨by decide, by decide, J.st.kept (Kept.of_below b)⟩⟩
/-- A row of records by its cells. -/
theorem rows_open {P : Nat → Prop} {A : Option Addr} {n : Nat} {l : List (List Nat)} (h : Rows w P 1 ByR A n l) : ∃ cs, (0 < n → ∃ b o, A = some ⟨b, o, none⟩ ∧ w.rangeAt b o cs) ∧ Each 1 (ByR w fun b => P b ∧ b < w.heap.size) cs l ∧ ∀ u ∈ cs, u.oneCell' = true := by
  by_cases hn : 0 < n
  · obtain ⟨b, o, cs, rfl, _, _, hr, he⟩ := h.cel hn
    refine ⟨cs, fun _ => ⟨b, o, rfl, hr⟩, he.imp fun V x hx => byM.weak hx fun b hb hl => ⟨hb, hl⟩, ?_⟩
    clear hr h
    induction he with
    | nil => exact fun u hu => by cases hu
    | cons _ h2 _ ih =>
      obtain ⟨B, cb, rfl, _⟩ := h2
      intro u hu
      rcases List.mem_append.1 hu with hu | hu
      · rw [List.mem_singleton] at hu
        rw [hu]
        rfl
      · exact ih u hu
  · have e := h.len
    obtain rfl : l = [] := List.length_eq_zero_iff.1 (by omega)
    exact ⟨[], fun h => absurd h hn, .nil, fun u hu => by cases hu⟩
def appK (args : Array Value) : Sem Value := Builtin.append_ #[30, 30] 30 args
theorem appK_mark (args : Array Value) : Builtin.append_ #[30, 30] 30 args = appK args := rfl
/-- Both appends, ahead of the walk. -/
theorem kep_app {P : Nat → Prop} (hP : ∀ b, P b → b < wr.heap.size) (r1 : Rows wr P 1 ByR A1 all.length all) (r5 : Rows wr P 1 ByR A5 L.length L) (hl : all.length + L.length ≤ 32768) :
    ∃ A6 c6 w2 A7 c7 w3, (appK #[.slice (some ⟨wr.heap.size, 0, none⟩) 0 0, .slice A1 all.length c1]).run Tryd.prog (wr.alloc (.cells #[] 35)).drew = .ok (.slice A6 all.length c6) w2 ∧ Below wr.heap.size wr w2 ∧
      (appK #[.slice A6 all.length c6, .slice A5 L.length c5]).run Tryd.prog w2 = .ok (.slice A7 (all.length + L.length) c7) w3 ∧ Below wr.heap.size wr w3 ∧ all.length + L.length ≤ c7 ∧ Rows w3 (fun b => P b ∨ (wr.heap.size ≤ b ∧ b < w3.heap.size)) 1 ByR A7 (all.length + L.length) (all ++ L) := by
  have g1 : Below wr.heap.size wr (wr.alloc (.cells #[] 35)) := (Below.refl _ _).alloc (Nat.le_refl _) _
  have g2 : Below wr.heap.size wr (wr.alloc (.cells #[] 35)).drew := g1.drew
  have O1 : OwnRw 35 1 ByR wr P (.slice (some ⟨wr.heap.size, 0, none⟩) 0 0) 0 [] (wr.alloc (.cells #[] 35)).drew := (OwnRw.made (Below.refl wr.heap.size wr)).later byM (Below.refl _ _).drew
  obtain ⟨cs, h1, h2, h3⟩ := rows_open (Rows.later byM r1 g2)
  obtain ⟨A6, c6, w2, q1, O2, gr2, hc6, n2⟩ := run_appRw (c := c1) elemB byM 30 O1 rfl h1 (h2.imp fun V x hx => byM.weak hx fun b hb hlt => ⟨hb.1, fun e => by
    have := O1.new b e.symm
    have := hP b hb.1
    omega, hlt⟩) h3 (by omega) (by omega)
  simp only [Nat.zero_add, List.nil_append] at q1 O2 n2
  obtain ⟨ds, k1, k2, k3⟩ := rows_open (Rows.later byM r5 O2.bel)
  obtain ⟨A7, c7, w3, q2, O3, gr3, hc7, n3⟩ := run_appRw (c := c5) elemB byM 30 O2 rfl k1 (k2.imp fun V x hx => byM.weak hx fun b hb hlt => ⟨hb.1, fun e => by
    have := O2.new b e.symm
    have := hP b hb.1
    omega, hlt⟩) k3 (by omega) (by omega)
  refine ⟨A6, c6, w2, A7, c7, w3, q1, O2.bel, q2, O3.bel, hc7, Rows.weak byM (O3.reads byM) fun b hb hlt => ?_⟩
  rcases hb with hb | hb
  · exact .inl hb
  · exact .inr ⟨(O3.new b (by cases A7 with | none => cases hb | some x => exact hb)).1, hlt⟩
theorem put1 {P : World} {b k : Nat} {TT : TypeId} {l : List Value} {z : Value} (R : Ro wr b TT l) (hp : P.heap.size ≤ b) (g : Below P.heap.size P wr) :
    Kept (fun q => q ≠ b) wr (wr.setCell ⟨b, k, none⟩ z) ∧ (wr.setCell ⟨b, k, none⟩ z).heap.size = wr.heap.size ∧ Below P.heap.size P (wr.setCell ⟨b, k, none⟩ z) ∧ Ro (wr.setCell ⟨b, k, none⟩ z) b TT (l.set k z) :=
  ⟨⟨Nat.le_of_eq (by simp [World.setCell]), fun q hq _ => Below.heap_setCell _ ⟨b, k, none⟩ _ q hq⟩, by simp [World.setCell], g.setCell (p := ⟨b, k, none⟩) hp _, R.set k z⟩
theorem put7 {sb : Nat} {u0 u1 u2 u3 u4 u5 u6 v0 v1 v2 v3 v4 v5 v6 : Value} {TT : TypeId} (R : Ro w1 sb TT [u0, u1, u2, u3, u4, u5, u6]) (hp : wr.heap.size ≤ sb) (b : Below wr.heap.size wr w1) (hw : W = ((((((w1.setCell ⟨sb, 0, none⟩ v0).setCell ⟨sb, 1, none⟩ v1).setCell ⟨sb, 2, none⟩ v2).setCell ⟨sb, 3, none⟩ v3).setCell ⟨sb, 4, none⟩ v4).setCell ⟨sb, 5, none⟩ v5).setCell ⟨sb, 6, none⟩ v6) :
    Below wr.heap.size wr W ∧ Ro W sb TT [v0, v1, v2, v3, v4, v5, v6] := by
  subst hw
  exact ⟨((((((b.setCell (p := ⟨sb, 0, none⟩) hp _).setCell (p := ⟨sb, 1, none⟩) hp _).setCell (p := ⟨sb, 2, none⟩) hp _).setCell (p := ⟨sb, 3, none⟩) hp _).setCell (p := ⟨sb, 4, none⟩) hp _).setCell (p := ⟨sb, 5, none⟩) hp _).setCell (p := ⟨sb, 6, none⟩) hp _, ((((((R.set 0 v0).set 1 v1).set 2 v2).set 3 v3).set 4 v4).set 5 v5).set 6 v6⟩
theorem put4 {pb : Nat} {u0 u1 u2 u3 v0 v1 v2 v3 : Value} {T : TypeId} (R : Ro wr pb T [u0, u1, u2, u3]) (hp : w.heap.size ≤ pb) (b : Below w.heap.size w wr) (hw : w1 = (((wr.setCell ⟨pb, 0, none⟩ v0).setCell ⟨pb, 1, none⟩ v1).setCell ⟨pb, 2, none⟩ v2).setCell ⟨pb, 3, none⟩ v3) :
    Kept (fun b => b ≠ pb) wr w1 ∧ w1.heap.size = wr.heap.size ∧ Below w.heap.size w w1 ∧ Ro w1 pb T [v0, v1, v2, v3] := by
  subst hw
  refine ⟨⟨Nat.le_of_eq (by simp [World.setCell]), fun b hb _ => ?_⟩, by simp [World.setCell], (((b.setCell (p := ⟨pb, 0, none⟩) hp _).setCell (p := ⟨pb, 1, none⟩) hp _).setCell (p := ⟨pb, 2, none⟩) hp _).setCell (p := ⟨pb, 3, none⟩) hp _, (((R.set 0 v0).set 1 v1).set 2 v2).set 3 v3⟩
  exact (Below.heap_setCell _ ⟨pb, 3, none⟩ _ b hb).trans ((Below.heap_setCell _ ⟨pb, 2, none⟩ _ b hb).trans ((Below.heap_setCell _ ⟨pb, 1, none⟩ _ b hb).trans (Below.heap_setCell _ ⟨pb, 0, none⟩ _ b hb)))
theorem KepB.older (B : KepB w d pb a all more next o T X A1 A2 A3 c1 c2 c3 wr) (st : KepS w d pb a all2 more2 next2 o2 T2 X wr) {n : Nat} (hR : Rows wr (fun b => b < w.heap.size) 1 ByR A5 n L) : Rows wr (KpR X pb a) 1 ByR A5 n L :=
  Rows.weak byM hR fun b h _ => ⟨B.xo b h, by have := B.low; omega, st.old b h⟩
/-- Behind an Add that put its records. -/
theorem kep_added {A7 : Option Addr} {c7 : Nat} (B : KepB w d pb a all [] next false T X A1 A2 A3 c1 c2 c3 wr) (st : KepS w d pb a (all ++ L) [] next false T X wr) (b : Below wr.heap.size wr w1) (hc : all.length + L.length ≤ c7) (r7 : Rows w1 (fun k => KpR X pb a k ∨ (wr.heap.size ≤ k ∧ k < w1.heap.size)) 1 ByR A7 (all.length + L.length) (all ++ L)) (cn : T.cnt ≤ 4 * (i + 1) + 8) :
    KepJ w d pb (i + 1) a (all ++ L) [] next false T (fun k => X k ∨ (wr.heap.size ≤ k ∧ k < w1.heap.size)) A7 A2 A3 c7 c2 c3 (w1.setCell ⟨pb, 0, none⟩ (.slice A7 (all.length + L.length) c7)) := by
  have B1 := B.wide b
  obtain ⟨K, hs, bel, box⟩ := put1 (k := 0) (z := .slice A7 (all.length + L.length) c7) B1.box B1.low B1.dp.bel
  have hl : (all ++ L).length = all.length + L.length := List.length_append
  refine ⟨B1.put K hs bel (by rw [hl]; exact box) ?_ B1.r2 B1.r3 (by rw [hl]; exact hc) B1.k2 B1.k3, cn, ((st.kept (Kept.of_below b)).wide fun _ h => .inl h).kept K⟩
  rw [hl]
  refine Rows.weak byM r7 fun k h _ => ?_
  rcases h with h | h
  · exact ⟨.inl h.1, h.2⟩
  · exact ⟨.inr h, by have := B.box.lt; omega, st.far k h.1⟩
/-- Behind an Add that failed. -/
theorem kep_more (B : KepB w d pb a all more next o T X A1 A2 A3 c1 c2 c3 wr) (st : KepS w d pb a all L next o T X wr) (hR : Rows wr (fun b => b < w.heap.size) 1 ByR A5 L.length L) (hc : L.length ≤ c5) (cn : T.cnt ≤ 4 * (i + 1) + 8) :
    KepJ w d pb (i + 1) a all L next o T X A1 A5 A3 c1 c5 c3 (wr.setCell ⟨pb, 1, none⟩ (.slice A5 L.length c5)) := by
  obtain ⟨K, hs, bel, box⟩ := put1 (k := 1) (z := .slice A5 L.length c5) B.box B.low B.dp.bel
  exact ⟨B.put K hs bel box B.r1 (B.older st hR) B.r3 B.k1 hc B.k3, cn, st.kept K⟩
/-- Behind a Compact that failed. -/
theorem kep_left (B : KepB w d pb a all more next o T X A1 A2 A3 c1 c2 c3 wr) (st : KepS w d pb a all more L true T X wr) (hR : Rows wr (fun b => b < w.heap.size) 1 ByR A5 L.length L) (hc : L.length ≤ c5) (cn : T.cnt ≤ 4 * (i + 1) + 8) :
    KepJ w d pb (i + 1) a all more L true T X A1 A2 A5 c1 c2 c5 ((wr.setCell ⟨pb, 2, none⟩ (.slice A5 L.length c5)).setCell ⟨pb, 3, none⟩ (.bool true)) := by
  obtain ⟨K, hs, bel, box⟩ := put1 (k := 2) (z := .slice A5 L.length c5) B.box B.low B.dp.bel
  obtain ⟨K2, hs2, bel2, box2⟩ := put1 (k := 3) (z := .bool true) box B.low bel
  exact ⟨B.put (K.trans' K2) (hs2.trans hs) bel2 box2 B.r1 B.r2 (B.older st hR) B.k1 B.k2 hc, cn, st.kept (K.trans' K2)⟩
/-- Behind a Compact that left its records. -/
theorem kep_all (B : KepB w d pb a all more next o T X A1 A2 A3 c1 c2 c3 wr) (st : KepS w d pb a L [] [] false T X wr) (hR : Rows wr (fun b => b < w.heap.size) 1 ByR A5 L.length L) (hc : L.length ≤ c5) (cn : T.cnt ≤ 4 * (i + 1) + 8) :
    KepJ w d pb (i + 1) a L [] [] false T X A5 none none c5 0 0 ((((wr.setCell ⟨pb, 0, none⟩ (.slice A5 L.length c5)).setCell ⟨pb, 1, none⟩ (.slice none 0 0)).setCell ⟨pb, 2, none⟩ (.slice none 0 0)).setCell ⟨pb, 3, none⟩ (.bool false)) := by
  obtain ⟨K, hs, bel, box⟩ := put4 B.box B.low B.dp.bel (v0 := .slice A5 L.length c5) (v1 := .slice none 0 0) (v2 := .slice none 0 0) (v3 := .bool false) rfl
  exact ⟨B.put K hs bel box (B.older st hR) (Rows.nil _ _ _ _ _) (Rows.nil _ _ _ _ _) hc (Nat.le_refl _) (Nat.le_refl _), cn, st.kept K⟩
theorem Dp.inn {S : Dk} (D : Dp w d X S wr) : ∀ b, X b → b < wr.heap.size := by
  obtain ⟨F, _, h⟩ := D
  exact fun b hb => (h b hb).2
/-- Behind an Open that found y. -/
theorem kep_opened {W1 W2 : World} {v f g c9 : Nat} {A9 : Option Addr} {y : List (List Nat)} {U : Dk} (B : KepB w d pb a all more next o T X A1 A2 A3 c1 c2 c3 wr) (K : Kept X wr W) (hs : wr.heap.size ≤ W1.heap.size) (hv : W1.heap.size ≤ v) (hV : Ro W v 78 (vtV d f g y.length false)) (hR : Rows W Y 1 ByR A9 y.length y) (hc : y.length ≤ c9) (hY : ∀ b, Y b → W1.heap.size ≤ b ∧ b ≠ v)
    (hD : Dp w d (fun b => X b ∨ b = v ∨ Y b) U W) (A : Alive U f g y) (cn : U.cnt ≤ 4 * (i + 1) + 8) (b2 : Below W.heap.size W W2) :
    Ro W2 pb 34 [.slice A1 all.length c1, .slice A2 more.length c2, .slice A3 next.length c3, .bool o] ∧
    KepJ w d pb (i + 1) (.pointer (some ⟨v, 0, none⟩)) y [] [] false U (fun b => X b ∨ b = v ∨ Y b) A9 none none c9 0 0 ((((W2.setCell ⟨pb, 0, none⟩ (.slice A9 y.length c9)).setCell ⟨pb, 1, none⟩ (.slice none 0 0)).setCell ⟨pb, 2, none⟩ (.slice none 0 0)).setCell ⟨pb, 3, none⟩ (.bool false)) := by
  have box : Ro W pb 34 [.slice A1 all.length c1, .slice A2 more.length c2, .slice A3 next.length c3, .bool o] := (K.blk pb B.xb B.box.lt).trans B.box
  have hp := B.box.lt
  have hw := B.dp.bel.size
  have B2 : KepB w d pb (.pointer (some ⟨v, 0, none⟩)) y [] [] false U (fun b => X b ∨ b = v ∨ Y b) A9 none none c9 0 0 ((((W2.setCell ⟨pb, 0, none⟩ (.slice A9 y.length c9)).setCell ⟨pb, 1, none⟩ (.slice none 0 0)).setCell ⟨pb, 2, none⟩ (.slice none 0 0)).setCell ⟨pb, 3, none⟩ (.bool false)) ∧ Kept (fun b => b ≠ pb) W2 ((((W2.setCell ⟨pb, 0, none⟩ (.slice A9 y.length c9)).setCell ⟨pb, 1, none⟩ (.slice none 0 0)).setCell ⟨pb, 2, none⟩ (.slice none 0 0)).setCell ⟨pb, 3, none⟩ (.bool false)) := by
    have D2 := hD.later b2
    obtain ⟨K4, s4, bel4, box4⟩ := put4 (box.later b2) B.low D2.bel (v0 := .slice A9 y.length c9) (v1 := .slice none 0 0) (v2 := .slice none 0 0) (v3 := .bool false) rfl
    have R2 := Rows.later byM hR b2
    refine ⟨⟨D2.keep (K4.narrow fun b hb e => hb (by rw [e]; exact .inl B.xb)) bel4, box4, B.low, fun b h => .inl (B.xo b h), .inl B.xb, fun b hb => by rw [s4]; exact D2.inn b hb, ?_, Rows.nil _ _ _ _ _, Rows.nil _ _ _ _ _, hc, Nat.le_refl _, Nat.le_refl _⟩, K4⟩
    refine Rows.keep byM (Rows.weak byM R2 fun b h _ => ?_) (K4.narrow fun b h => h.2.1)
    have := hY b h
    exact ⟨.inr (.inr h), by omega, ptr_ne fun e => this.2 e.symm⟩
  exact ⟨box.later b2, B2.1, cn, KepS.kept (.inl ⟨v, f, g, rfl, hV.later b2, .inr (.inl rfl), by omega, by omega, A, rfl, rfl⟩) B2.2⟩
/-- Behind an Open that failed. -/
theorem kep_refused {U : Dk} (J : KepJ w d pb i a all more next o T X A1 A2 A3 c1 c2 c3 wr) (K : Kept X wr W) (hD : Dp w d X U W) (hs : Safe U (MayBe o all more next)) (cn : U.cnt ≤ 4 * (i + 1) + 8) :
    KepJ w d pb (i + 1) (.pointer none) all more next o U X A1 A2 A3 c1 c2 c3 W :=
  ⟨⟨hD, (K.blk pb J.xb J.box.lt).trans J.box, J.low, J.xo, J.xb, hD.inn, Rows.weak byM (J.r1.keep byM (K.narrow fun b h => h.1)) fun b h _ => ⟨h.1, h.2.1, fun e => by cases e⟩, Rows.weak byM (J.r2.keep byM (K.narrow fun b h => h.1)) fun b h _ => ⟨h.1, h.2.1, fun e => by cases e⟩, Rows.weak byM (J.r3.keep byM (K.narrow fun b h => h.1)) fun b h _ => ⟨h.1, h.2.1, fun e => by cases e⟩, J.k1, J.k2, J.k3⟩, cn, .inr ⟨.inl rfl, hs⟩⟩
/-- Behind a Fuse. -/
theorem kep_fused {n : Int} (J : KepJ w d pb i a all more next o T X A1 A2 A3 c1 c2 c3 wr) (K : Kept X wr W) (hD : Dp w d X (T.setFuse n).2 W) :
    KepJ w d pb (i + 1) a all more next o (T.setFuse n).2 X A1 A2 A3 c1 c2 c3 W := by
  have hc := (kp_fuse J.st.safe n).2.2.1
  have hcn := J.cn
  refine ⟨J.toKepB.move J.st.va hD (K.narrow fun b h => h.1), by omega, ?_⟩
  rcases J.st with ⟨v, f, g, e, V, h1, h2, h3, A, h4⟩ | ⟨h | ⟨v, f, g, n', e, V, h1, h2, h3⟩, h5⟩
  · exact .inl ⟨v, f, g, e, (K.blk v h1 V.lt).trans V, h1, h2, h3, (kp_fuse_alive A n).1, h4⟩
  · exact .inr ⟨.inl h, (kp_fuse h5 n).1⟩
  · exact .inr ⟨.inr ⟨v, f, g, n', e, (K.blk v h1 V.lt).trans V, h1, h2, h3⟩, (kp_fuse h5 n).1⟩
end
end Go.Proofs.YtjcphpmlekfhdaaDoor
