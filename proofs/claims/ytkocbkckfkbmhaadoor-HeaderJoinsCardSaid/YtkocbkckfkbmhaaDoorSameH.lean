/- Whether two headers, and two lists of headers, are the same. No condition. -/
import Derived.Test.YtkocbkckfkbmhaaDoorHs
import Derived.Test.YtkocbkckfkbmhaaDoorEq
import Derived.Laws.StructEq
import Derived.BigQuiet
import Derived.WalkSmall
import Derived.Test.YtkocbkckfkbmhaaDoorEnd
namespace Go.Proofs.YtkocbkckfkbmhaaDoor
open Go.RowKit

theorem eq_hash9 {H K : List Nat} (hH : H.length = 32) (hK : K.length = 32) (w : World) : (Op.equalIn 9999 24 (.agg (vals H).toArray) (.agg (vals K).toArray)).run Tryd.prog w = .ok (eqB H K) w := by
  obtain ⟨i, hi⟩ : ∃ i, Tryd.prog.info? 5 = some i := Option.isSome_iff_exists.1 (by kernel_rfl)
  rw [run_equalIn_array w 9998 (e := 5) (n := 32) _ _ Tryd.underlying24 hi, show Tryd.prog.cellsOf 5 = 1 from by kernel_rfl, eqItems_bytes H K 9997 w (List.range 32) (fun i hi => by
    have := List.mem_range.1 hi
    omega)]
  congr 1
  unfold eqB
  rw [decide_eq_decide]
  constructor
  · intro h
    exact nth_ext (by omega) fun k hk => h k (List.mem_range.2 (by omega))
  · rintro rfl
    exact fun _ _ => rfl
theorem fields_hd : (Tryd.prog.fieldsOf 26).toList.map (fun f => (f.name, f.type, f.offset)) = [("Version", 22, 0), ("Prev", 24, 1), ("Root", 24, 33), ("Time", 22, 65), ("Bits", 22, 66), ("Nonce", 22, 67)] := by kernel_rfl
theorem eqFields_step {d : Nat} {xs ys : Array Value} {w : World} {f : Field} {fs : List Field} {nm : String} {T : TypeId} {o : Nat} {a b : Value} {r : Bool} (h : (f.name, f.type, f.offset) = (nm, T, o)) (hn : nm ≠ "_")
    (ha : (part T xs o).run Tryd.prog w = .ok a w) (hb : (part T ys o).run Tryd.prog w = .ok b w) (hr : (Op.equalIn d T a b).run Tryd.prog w = .ok r w) :
    (Op.eqFields d xs ys (f :: fs)).run Tryd.prog w = if r then (Op.eqFields d xs ys fs).run Tryd.prog w else .ok false w := by
  simp only [Prod.mk.injEq] at h
  obtain ⟨h1, h2, h3⟩ := h
  subst h1 h2 h3
  simp only [Op.eqFields, hn, ne_eq, not_false_eq_true, if_true, Sem.run_bind, ha, hb, hr, Result.andThen_ok]
  cases r <;> simp
theorem part_u32 {xs : List Value} {o : Nat} {v : Value} (h : xs[o]? = some v) (w : World) : (part 22 xs.toArray o).run Tryd.prog w = .ok v w := by
  simp [part, isAgg, run_underlying Tryd.underlying22, h]
theorem part_hash {xs X Y Z : List Value} {o : Nat} (h : xs = X ++ (Y ++ Z)) (hX : X.length = o) (hY : Y.length = 32) (w : World) : (part 24 xs.toArray o).run Tryd.prog w = .ok (.agg Y.toArray) w := by
  have hi := Tryd.info26
  cases hq : Tryd.prog.info? 24 with
  | none => simp [hq] at hi
  | some i =>
    have hs : i.size = 32 := by simpa [hq] using hi
    have e : List.take 32 (List.drop o (X ++ (Y ++ Z))) = Y := by rw [← hX, List.drop_left, ← hY, List.take_left]
    subst h
    simp [part, isAgg, run_underlying Tryd.underlying24, sizeOf, typeInfo, hq, hs, e]
theorem eq_hd {h g : Hd} (o : h.Ok) (k : g.Ok) (w : World) : (Op.equalIn 10000 26 (.agg (hdV h).toArray) (.agg (hdV g).toArray)).run Tryd.prog w = .ok (decide (h = g)) w := by
  rw [run_equalIn_struct w 9999 _ _ _ (by kernel_rfl) (by kernel_rfl)]
  have hf := fields_hd
  obtain ⟨fs, hfs⟩ : ∃ fs, (Tryd.prog.fieldsOf 26).toList = fs := ⟨_, rfl⟩
  rw [hfs] at hf ⊢
  match fs, hf with
  | [f0, f1, f2, f3, f4, f5], hf =>
    simp only [List.map_cons, List.map_nil, List.cons.injEq, and_true] at hf
    obtain ⟨h0, h1, h2, h3, h4, h5⟩ := hf
    have n0 : (hdV h)[0]? = some (.int .u32 (h.v : Nat)) := hdV_no o (k := 0) (by decide)
    have n1 : (hdV h)[65]? = some (.int .u32 (h.t : Nat)) := hdV_no o (k := 1) (by decide)
    have n2 : (hdV h)[66]? = some (.int .u32 (h.b : Nat)) := hdV_no o (k := 2) (by decide)
    have n3 : (hdV h)[67]? = some (.int .u32 (h.n : Nat)) := hdV_no o (k := 3) (by decide)
    have m0 : (hdV g)[0]? = some (.int .u32 (g.v : Nat)) := hdV_no k (k := 0) (by decide)
    have m1 : (hdV g)[65]? = some (.int .u32 (g.t : Nat)) := hdV_no k (k := 1) (by decide)
    have m2 : (hdV g)[66]? = some (.int .u32 (g.b : Nat)) := hdV_no k (k := 2) (by decide)
    have m3 : (hdV g)[67]? = some (.int .u32 (g.n : Nat)) := hdV_no k (k := 3) (by decide)
    have qi : ∀ a b : Nat, (Op.equalIn 9999 22 (.int .u32 (a : Nat)) (.int .u32 (b : Nat))).run Tryd.prog w = .ok ((a : Int) == (b : Int)) w := fun a b => run_equalIn_int w 9998 _ _ _ _ _ Tryd.underlying22
    have hp : ∀ {x : Hd}, x.Ok → (part 24 (hdV x).toArray 1).run Tryd.prog w = .ok (.agg (vals x.p).toArray) w := fun {x} o => part_hash (X := [u32v x.v]) rfl rfl (by rw [vals_length, o.p]) w
    have hr : ∀ {x : Hd}, x.Ok → (part 24 (hdV x).toArray 33).run Tryd.prog w = .ok (.agg (vals x.r).toArray) w := fun {x} o => part_hash (X := u32v x.v :: vals x.p) (Z := [u32v x.t, u32v x.b, u32v x.n]) (by simp [hdV]) (by simp [vals_length, o.p]) (by rw [vals_length, o.r]) w
    rw [eqFields_step h0 (by decide) (part_u32 n0 w) (part_u32 m0 w) (qi _ _), eqFields_step h1 (by decide) (hp o) (hp k) (eq_hash9 o.p k.p w), eqFields_step h2 (by decide) (hr o) (hr k) (eq_hash9 o.r k.r w), eqFields_step h3 (by decide) (part_u32 n1 w) (part_u32 m1 w) (qi _ _),
      eqFields_step h4 (by decide) (part_u32 n2 w) (part_u32 m2 w) (qi _ _), eqFields_step h5 (by decide) (part_u32 n3 w) (part_u32 m3 w) (qi _ _)]
    have nil : (Op.eqFields 9999 (hdV h).toArray (hdV g).toArray []).run Tryd.prog w = .ok true w := by simp [Op.eqFields]
    rw [nil]
    have iff : (h = g) ↔ (((h.v : Int) == (g.v : Int)) = true ∧ eqB h.p g.p = true ∧ eqB h.r g.r = true ∧ ((h.t : Int) == (g.t : Int)) = true ∧ ((h.b : Int) == (g.b : Int)) = true ∧ ((h.n : Int) == (g.n : Int)) = true) := by
      simp only [beq_iff_eq, eqB, decide_eq_true_eq]
      constructor
      · rintro rfl; simp
      · rintro ⟨a, b, c, d, e, f⟩
        exact Hd.ext' (by omega) b c (by omega) (by omega) (by omega)
    rw [show decide (h = g) = decide _ from decide_eq_decide.2 iff]
    cases (h.v : Int) == (g.v : Int) <;> cases eqB h.p g.p <;> cases eqB h.r g.r <;> cases (h.t : Int) == (g.t : Int) <;> cases (h.b : Int) == (g.b : Int) <;> cases (h.n : Int) == (g.n : Int) <;> simp
end Go.Proofs.YtkocbkckfkbmhaaDoor
