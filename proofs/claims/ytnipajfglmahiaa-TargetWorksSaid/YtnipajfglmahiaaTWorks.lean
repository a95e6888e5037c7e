/- TargetWorks returns true for every target, every hash and every list of works, and each argument reads afterwards as it read before. No condition. -/
import Derived.Test.YtnipajfglmahiaaRows
import Derived.Test.YtnipajfglmahiaaRWorks
import Derived.Test.YtnipajfglmahiaaTSum
import Derived.Test.YtnipajfglmahiaaTAnchor
import Derived.Test.YtnipajfglmahiaaOpen
import Derived.Deep.Slices
import Derived.Deep.WholeRow
import Derived.Deep.RegionWith
import Derived.Laws.OwnMore
namespace Go.Proofs.Ytnipajfglmahiaa
open Go.ChangeShapes Go.WideShapes Go.ChangeAt Go.RowKit

theorem Try.cellsBig : Try.prog.cellsOf 25 = 4 := by kernel_rfl
/-- A list of numbers that came in. -/
theorem open_slice_big {H : Type} {enc : TypeId × Value → H} {W : World} {base : Nat} {v : Value} {d : DataW H} {pl : List MemPlace}
    (hv : Value.okWide Try.prog W .any base 33 v) (h : DataW.Trod enc Try.prog W 0 (fun _ => true) true 33 v d pl) :
    ∃ (p : Option Addr) (len cap : Nat) (E : Nat → Nat → Nat), (Lies W p len E ∧ WordsAll len E ∧ len ≤ maxLen ∧ (p = none → len = 0 ∧ cap = 0)) ∧ v = .slice p len cap := by
  obtain ⟨a0, len, cap, rfl⟩ := okWide_slice Try.underlying33 hv
  obtain ⟨fuel, hf⟩ := h
  rcases Go.Deep.open_slice Try.underlying33 hf with ⟨hc, _⟩ | ⟨a, len', cap', m, n, D, Pl, hc, _, hl, hm, hmm, _, hi⟩
  · simp [Value.cells] at hc
    obtain ⟨rfl, rfl, rfl⟩ := hc
    exact ⟨none, 0, 0, fun _ _ => 0, ⟨fun i hi => absurd hi (by omega), fun i hi => absurd hi (by omega), by omega, fun _ => ⟨rfl, rfl⟩⟩, rfl⟩
  · simp [Value.cells] at hc
    obtain ⟨rfl, rfl, rfl⟩ := hc
    rw [Try.cellsBig] at hi
    have each : ∀ i, i < len → ∃ F : Nat → Nat, Words (F 0) (F 1) (F 2) (F 3) ∧ ∀ q, q < 4 → W.cell? ((a.add (i * 4)).add q) = some (.int .u64 (F q : Nat)) := fun i hil => by
      obtain ⟨cs, hcs, ht⟩ := hi i (by rw [hmm]; split <;> omega)
      obtain ⟨_, hcl, hat⟩ := World.cells?_some hcs
      obtain ⟨c0, c1, c2, c3, rfl⟩ := list4 cs (by simpa using hcl)
      obtain ⟨y0, y1, y2, y3, m, hx, hy0, hy1, hy2, hy3⟩ := trod_array4 Try.underlying25 (by kernel_rfl) ht
      obtain ⟨x0, e0, rfl, w0⟩ := DataW.trod_int Try.underlying23 hy0
      obtain ⟨x1, e1, rfl, w1⟩ := DataW.trod_int Try.underlying23 hy1
      obtain ⟨x2, e2, rfl, w2⟩ := DataW.trod_int Try.underlying23 hy2
      obtain ⟨x3, e3, rfl, w3⟩ := DataW.trod_int Try.underlying23 hy3
      simp at e0 e1 e2 e3
      subst e0 e1 e2 e3
      have b0 := bounds_u64 w0
      have b1 := bounds_u64 w1
      have b2 := bounds_u64 w2
      have b3 := bounds_u64 w3
      refine ⟨fun q => if q = 0 then x0.toNat else if q = 1 then x1.toNat else if q = 2 then x2.toNat else x3.toNat, ⟨by show x0.toNat < _; omega, by show x1.toNat < _; omega, by show x2.toNat < _; omega, by show x3.toNat < _; omega⟩, fun q hq => ?_⟩
      have := hat q (by omega)
      rw [this]
      rcases (by omega : q = 0 ∨ q = 1 ∨ q = 2 ∨ q = 3) with rfl | rfl | rfl | rfl
      · show some (Value.int .u64 x0) = some (.int .u64 ((x0.toNat : Nat) : Int)); rw [Int.toNat_of_nonneg b0.1]
      · show some (Value.int .u64 x1) = some (.int .u64 ((x1.toNat : Nat) : Int)); rw [Int.toNat_of_nonneg b1.1]
      · show some (Value.int .u64 x2) = some (.int .u64 ((x2.toNat : Nat) : Int)); rw [Int.toNat_of_nonneg b2.1]
      · show some (Value.int .u64 x3) = some (.int .u64 ((x3.toNat : Nat) : Int)); rw [Int.toNat_of_nonneg b3.1]
    obtain ⟨E, hE⟩ : ∃ E : Nat → Nat → Nat, ∀ i, i < len → Words (E i 0) (E i 1) (E i 2) (E i 3) ∧ ∀ q, q < 4 → W.cell? ((a.add (i * 4)).add q) = some (.int .u64 (E i q : Nat)) :=
      ⟨fun i => if hi : i < len then (each i hi).choose else fun _ => 0, fun i hi => by simp only [hi, dif_pos]; exact (each i hi).choose_spec⟩
    refine ⟨some a, len, cap, E, ⟨fun i hi => ⟨a, rfl, ?_, (hE i hi).2⟩, fun i hi => (hE i hi).1, by omega, fun h => by cases h⟩, rfl⟩
    have := World.block_lt_of_cell? _ _ ((hE i hi).2 0 (by omega))
    rw [addr_block, addr_block] at this
    exact this

def newsOf (E : Nat → Nat → Nat) (len : Nat) : List Value := (List.range (len * 4)).map fun j => Value.int .u64 (E (j / 4) (j % 4) : Nat)
theorem newsOf_get (E : Nat → Nat → Nat) (len i q : Nat) (hi : i < len) (hq : q < 4) : (newsOf E len)[i * 4 + q]? = some (.int .u64 (E i q : Nat)) := by
  unfold newsOf
  rw [List.getElem?_map, List.getElem?_range (by omega), Option.map_some, show (i * 4 + q) / 4 = i by omega, show (i * 4 + q) % 4 = q by omega]
theorem owned_lies {w : World} {base len : Nat} {E : Nat → Nat → Nat} {v : Value} (h : w.ownsRow base 25 4 v len (newsOf E len)) : ∃ p cap, v = .slice p len cap ∧ Lies w p len E := by
  have h0 := h
  obtain ⟨_, ⟨rfl, rfl⟩ | ⟨b, cap, cur, rfl, hb, hh, _⟩⟩ := h
  · exact ⟨none, 0, rfl, fun i hi => absurd hi (by omega)⟩
  · refine ⟨_, _, rfl, fun i hi => ⟨_, rfl, (Array.getElem?_eq_some_iff.1 hh).1, fun q hq => ?_⟩⟩
    rw [Go.Deep.add_add, ← newsOf_get E len i q hi hq, ← World.ownsRow.cellAt h0 (i * 4 + q) (by omega)]
    congr 1
    unfold Addr.add
    split
    · simp
    · simp
theorem Try.infoBig : (Try.prog.info? 25).map (fun i => (i.zero, i.size, i.bytes)) = some (some (.agg #[.int .u64 0, .int .u64 0, .int .u64 0, .int .u64 0]), 4, 32) := by kernel_rfl
theorem news_lies {w : World} {a : Addr} {len : Nat} {E : Nat → Nat → Nat} (h : Lies w (some a) len E) : ∀ j u, (newsOf E len)[j]? = some u → w.cell? (a.add j) = some u := by
  intro j u hj
  have hl : (newsOf E len).length = len * 4 := by simp [newsOf]
  have hj' : j < len * 4 := by have := (List.getElem?_eq_some_iff.1 hj).1; omega
  have e : j = j / 4 * 4 + j % 4 := by omega
  obtain ⟨b, hb, _, hc⟩ := h (j / 4) (by omega)
  obtain rfl : a = b := by injection hb
  have h1 := hc (j % 4) (by omega)
  rw [Go.Deep.add_add, ← e] at h1
  rw [h1, ← hj]
  have h2 := newsOf_get E len (j / 4) (j % 4) (by omega) (by omega)
  rw [← e] at h2
  exact h2.symm
theorem news_one' (E : Nat → Nat → Nat) (len : Nat) : ∀ u ∈ newsOf E len, u.oneCell' = true := by
  intro u hu
  simp [newsOf] at hu
  obtain ⟨j, _, rfl⟩ := hu
  rfl
def SumsTo (F : Nat) (len : Nat) (E : Nat → Nat → Nat) (u0 u1 u2 u3 : Nat) (o : Bool) : Prop := ∀ (p : Option Addr) (cap : Nat) (w : World), Lies w p len E → Calls Try.prog F #[.slice p len cap] w fun e w' => e = .returned (.tuple #[.agg #[.int .u64 (u0 : Nat), .int .u64 (u1 : Nat), .int .u64 (u2 : Nat), .int .u64 (u3 : Nat)], .bool o]) ∧ Below w.heap.size w w'

set_option maxRecDepth 100000 in
set_option maxHeartbeats 8000000 in
theorem tworks_far (p : Option Addr) (len cap : Nat) (hr : Array Value) (t0 t1 t2 t3 : Nat) (w : World) (big : 300 < len) :
    Calls Try.prog 4 #[.agg #[.int .u64 (t0 : Nat), .int .u64 (t1 : Nat), .int .u64 (t2 : Nat), .int .u64 (t3 : Nat)], .agg hr, .slice p len cap] w fun e w' => e = .returned (.bool true) ∧ Below w.heap.size w w' := by
  have far : decide ((300 : Int) < (len : Int)) = true := decide_eq_true (by omega)
  have WKH := Lib.hid works_any
  go_enter Try.func4, Try.ntmps4
  go_wp2_with fail
  refine (WKH.out _).mono ?_
  rintro e w1 ⟨rfl, h1⟩
  have PB := (((Below.refl w.heap.size w).alloc (Nat.le_refl _) (.cells #[.int .u64 (t0 : Nat), .int .u64 (t1 : Nat), .int .u64 (t2 : Nat), .int .u64 (t3 : Nat)] 25)).alloc (by simp) (.cells hr 32)).trans (h1.mono (by simp; omega))
  clear h1
  have HPB := Lib.hid PB
  clear PB
  go_wp2_with fail
  go_ret
  exact ⟨rfl, HPB.out⟩

set_option maxRecDepth 100000 in
set_option maxHeartbeats 8000000 in
theorem tworks_some (a : Addr) (len cap : Nat) (E : Nat → Nat → Nat) (hr y : Array Value) (t0 t1 t2 t3 k0 k1 k2 k3 u0 u1 u2 u3 : Nat) (r z o : Bool) (w : World) (hs : hr.size = 32) (ys : y.size = 32) (yc : y.all (·.oneCell') = true)
    (hl : Lies w (some a) len E) (hlen : len ≤ 300) (sumc : SumsTo 13 len E u0 u1 u2 u3 o) (rsumc : SumsTo 14 len E u0 u1 u2 u3 o) (eu : EqIs u0 u1 u2 u3 u0 u1 u2 u3 true)
    (wk1 : ∀ w : World, Calls Try.prog 16 #[.agg #[.int .u64 (t0 : Nat), .int .u64 (t1 : Nat), .int .u64 (t2 : Nat), .int .u64 (t3 : Nat)]] w fun e w' => e = .returned (.agg #[.int .u64 (k0 : Nat), .int .u64 (k1 : Nat), .int .u64 (k2 : Nat), .int .u64 (k3 : Nat)]) ∧ Below w.heap.size w w') (wk2 : ∀ w : World, Calls Try.prog 17 #[.agg #[.int .u64 (t0 : Nat), .int .u64 (t1 : Nat), .int .u64 (t2 : Nat), .int .u64 (t3 : Nat)]] w fun e w' => e = .returned (.agg #[.int .u64 (k0 : Nat), .int .u64 (k1 : Nat), .int .u64 (k2 : Nat), .int .u64 (k3 : Nat)]) ∧ Below w.heap.size w w') (me1 : ∀ w : World, Calls Try.prog 18 #[.agg hr, .agg #[.int .u64 (t0 : Nat), .int .u64 (t1 : Nat), .int .u64 (t2 : Nat), .int .u64 (t3 : Nat)]] w fun e w' => e = .returned (.bool r) ∧ Below w.heap.size w w') (me2 : ∀ w : World, Calls Try.prog 19 #[.agg hr, .agg #[.int .u64 (t0 : Nat), .int .u64 (t1 : Nat), .int .u64 (t2 : Nat), .int .u64 (t3 : Nat)]] w fun e w' => e = .returned (.bool r) ∧ Below w.heap.size w w') (me3 : ∀ w : World, Calls Try.prog 18 #[.agg y, .agg #[.int .u64 (t0 : Nat), .int .u64 (t1 : Nat), .int .u64 (t2 : Nat), .int .u64 (t3 : Nat)]] w fun e w' => e = .returned (.bool (!z)) ∧ Below w.heap.size w w') (th : ∀ w : World, Calls Try.prog 15 #[.agg #[.int .u64 (t0 : Nat), .int .u64 (t1 : Nat), .int .u64 (t2 : Nat), .int .u64 (t3 : Nat)]] w fun e w' => e = .returned (.agg y) ∧ Below w.heap.size w w')
    (ez : EqZ t0 t1 t2 t3 z) (ek : EqIs k0 k1 k2 k3 k0 k1 k2 k3 true) :
    Calls Try.prog 4 #[.agg #[.int .u64 (t0 : Nat), .int .u64 (t1 : Nat), .int .u64 (t2 : Nat), .int .u64 (t3 : Nat)], .agg hr, .slice (some a) len cap] w fun e w' => e = .returned (.bool true) ∧ Below w.heap.size w w' := by
  obtain ⟨ib, hib, hzb⟩ := Option.map_eq_some_iff.1 Try.infoBig
  obtain ⟨hz0, hz1, hz2⟩ : ib.zero = some (.agg #[.int .u64 0, .int .u64 0, .int .u64 0, .int .u64 0]) ∧ ib.size = 4 ∧ ib.bytes = 32 := by
    injection hzb with h1 h2
    injection h2 with h2 h3
    exact ⟨h1, h2, h3⟩
  have WK1 := Lib.hid wk1
  have WK2 := Lib.hid wk2
  have ME1 := Lib.hid me1
  have ME2 := Lib.hid me2
  have ME3 := Lib.hid me3
  have TH := Lib.hid th
  have WKH := Lib.hid works_any
  have EK := Lib.hid ek
  have EZH := Lib.hid ez
  have SUMC := Lib.hid sumc
  have RSUMC := Lib.hid rsumc
  have EU := Lib.hid eu
  have hi : (Try.prog.info? 32).map (·.size) = some hr.size := by rw [hs]; exact Try.infoHash
  have yi : (Try.prog.info? 32).map (·.size) = some y.size := by rw [ys]; exact Try.infoHash
  clear wk1 wk2 me1 me2 me3 th ek ez sumc rsumc eu hzb
  have far : decide ((300 : Int) < (len : Int)) = false := decide_eq_false (by omega)
  go_enter Try.func4, Try.ntmps4
  have HT0 : Holds ((w.alloc (.cells #[.int .u64 (t0 : Nat), .int .u64 (t1 : Nat), .int .u64 (t2 : Nat), .int .u64 (t3 : Nat)] 25)).alloc (.cells hr 32)) w.heap.size #[.int .u64 (t0 : Nat), .int .u64 (t1 : Nat), .int .u64 (t2 : Nat), .int .u64 (t3 : Nat)] 25 := (Holds.new _ _ _).later ((Below.refl _ _).alloc (Nat.le_refl _) _)
  have HH0 : Holds ((w.alloc (.cells #[.int .u64 (t0 : Nat), .int .u64 (t1 : Nat), .int .u64 (t2 : Nat), .int .u64 (t3 : Nat)] 25)).alloc (.cells hr 32)) (w.heap.size + 1) hr 32 := by
    have := Holds.new (w.alloc (.cells #[.int .u64 (t0 : Nat), .int .u64 (t1 : Nat), .int .u64 (t2 : Nat), .int .u64 (t3 : Nat)] 25)) hr 32
    simpa using this
  have PB0 : Below w.heap.size w ((w.alloc (.cells #[.int .u64 (t0 : Nat), .int .u64 (t1 : Nat), .int .u64 (t2 : Nat), .int .u64 (t3 : Nat)] 25)).alloc (.cells hr 32)) := ((Below.refl _ _).alloc (Nat.le_refl _) _).alloc (by simp) _
  have LI0 : Lies ((w.alloc (.cells #[.int .u64 (t0 : Nat), .int .u64 (t1 : Nat), .int .u64 (t2 : Nat), .int .u64 (t3 : Nat)] 25)).alloc (.cells hr 32)) (some a) len E := hl.later PB0
  have HT := Lib.hid HT0
  have HH := Lib.hid HH0
  have PB := Lib.hid PB0
  have LI := Lib.hid LI0
  have s0 : Hid (((w.alloc (.cells #[.int .u64 (t0 : Nat), .int .u64 (t1 : Nat), .int .u64 (t2 : Nat), .int .u64 (t3 : Nat)] 25)).alloc (.cells hr 32)).heap.size = w.heap.size + 2) := by show _ = _; simp
  clear HT0 HH0 PB0 LI0 hl
  have OWN0 : Hid ((((w.alloc (.cells #[.int .u64 (t0 : Nat), .int .u64 (t1 : Nat), .int .u64 (t2 : Nat), .int .u64 (t3 : Nat)] 25)).alloc (.cells hr 32)).alloc (.cells #[] 25)).ownsRow (w.heap.size + 2) 25 4 (.slice (some ⟨w.heap.size + 1 + 1, 0, none⟩) 0 0) 0 []) := by
    have h := World.ownsRow_lit (e := 25) (size := 4) ((w.alloc (.cells #[.int .u64 (t0 : Nat), .int .u64 (t1 : Nat), .int .u64 (t2 : Nat), .int .u64 (t3 : Nat)] 25)).alloc (.cells hr 32)) #[] 0 (Nat.le_of_eq s0.out.symm) (Nat.zero_le _) rfl
    rw [s0.out] at h
    exact h
  go_wp2_with (at_builtin; refine wpList_append_own _ rfl _ _ 33 rfl (w.heap.size + 2) 25 ib (.agg #[.int .u64 0, .int .u64 0, .int .u64 0, .int .u64 0]) 4 32 Try.underlying33 hib hz0 hz1 hz2 rfl (by decide) _ 0 [] rfl OWN0.out a len cap (newsOf E len) rfl (by simp [newsOf]) ?c2 (news_one' E len) ?c4 ?c5 ?c6 ?_)
  case c2 => exact news_lies (LI.out.later ((Below.refl _ _).alloc (Nat.le_refl _) _))
  case c4 => simp only [maxLen]; omega
  case c5 => omega
  case c6 => simp
  intro v' w1 hown' hgrow _
  have h1 : Below ((w.alloc (.cells #[.int .u64 (t0 : Nat), .int .u64 (t1 : Nat), .int .u64 (t2 : Nat), .int .u64 (t3 : Nat)] 25)).alloc (.cells hr 32)).heap.size ((w.alloc (.cells #[.int .u64 (t0 : Nat), .int .u64 (t1 : Nat), .int .u64 (t2 : Nat), .int .u64 (t3 : Nat)] 25)).alloc (.cells hr 32)) w1 := ((Below.refl _ _).alloc (Nat.le_refl _) _).grown hgrow (by simp) (fun q hq => by simp [Value.ownBlock] at hq; simp; omega)
  obtain ⟨p', cap', rfl, lies'⟩ := owned_lies hown'
  clear hown' hgrow
  go_wp2_with fail
  refine (SUMC.out p' cap' w1 lies').mono ?_
  rintro e w2 ⟨rfl, h2⟩
  have h12 := h1.trans (h2.mono h1.size)
  replace HT := Lib.hid (HT.out.later h12)
  replace HH := Lib.hid (HH.out.later h12)
  replace LI := Lib.hid (LI.out.later h12)
  replace PB := Lib.hid (PB.out.trans (h12.mono PB.out.size))
  clear h1 h2 h12 lies' s0 OWN0 
  have g1 : Hid (Below w2.heap.size w2 (w2.alloc (.cells #[.int .u64 (u0 : Nat), .int .u64 (u1 : Nat), .int .u64 (u2 : Nat), .int .u64 (u3 : Nat)] 25))) := (Below.refl _ _).alloc (Nat.le_refl _) _
  go_wp2_with fail
  refine (RSUMC.out (some a) cap _ (LI.out.later g1.out)).mono ?_
  rintro e w3 ⟨rfl, h3⟩
  have HS : Hid (Holds w3 w2.heap.size #[.int .u64 (u0 : Nat), .int .u64 (u1 : Nat), .int .u64 (u2 : Nat), .int .u64 (u3 : Nat)] 25) := (Holds.new w2 #[.int .u64 (u0 : Nat), .int .u64 (u1 : Nat), .int .u64 (u2 : Nat), .int .u64 (u3 : Nat)] 25).later h3
  replace HT := Lib.hid (HT.out.later g1.out)
  replace HH := Lib.hid (HH.out.later g1.out)
  replace HT := Lib.hid (HT.out.later h3)
  replace HH := Lib.hid (HH.out.later h3)
  replace PB := Lib.hid ((PB.out.trans (g1.out.mono PB.out.size)).trans (h3.mono (by have := PB.out.size; simp; omega)))
  clear h3 g1 LI
  have ct0 : w3.cell? ⟨w.heap.size, 0, none⟩ = some (.int .u64 (t0 : Nat)) := HT.out.cell 0
  have ct1 : w3.cell? ⟨w.heap.size, 1, none⟩ = some (.int .u64 (t1 : Nat)) := HT.out.cell 1
  have ct2 : w3.cell? ⟨w.heap.size, 2, none⟩ = some (.int .u64 (t2 : Nat)) := HT.out.cell 2
  have ct3 : w3.cell? ⟨w.heap.size, 3, none⟩ = some (.int .u64 (t3 : Nat)) := HT.out.cell 3
  have lt : w.heap.size < w3.heap.size := HT.out.lt
  have g3 : Hid (Below w3.heap.size w3 (w3.alloc (.cells #[.int .u64 (u0 : Nat), .int .u64 (u1 : Nat), .int .u64 (u2 : Nat), .int .u64 (u3 : Nat)] 25))) := (Below.refl _ _).alloc (Nat.le_refl _) _
  go_wp2_with fail
  clear ct0 ct1 ct2 ct3 lt
  refine (TH.out _).mono ?_
  rintro e w4 ⟨rfl, h4⟩
  have HU : Hid (Holds w4 w3.heap.size #[.int .u64 (u0 : Nat), .int .u64 (u1 : Nat), .int .u64 (u2 : Nat), .int .u64 (u3 : Nat)] 25) := (Holds.new w3 #[.int .u64 (u0 : Nat), .int .u64 (u1 : Nat), .int .u64 (u2 : Nat), .int .u64 (u3 : Nat)] 25).later h4
  replace HT := Lib.hid (HT.out.later g3.out)
  replace HH := Lib.hid (HH.out.later g3.out)
  replace HS := Lib.hid (HS.out.later g3.out)
  replace HT := Lib.hid (HT.out.later h4)
  replace HH := Lib.hid (HH.out.later h4)
  replace HS := Lib.hid (HS.out.later h4)
  replace PB := Lib.hid ((PB.out.trans (g3.out.mono PB.out.size)).trans (h4.mono (by have := PB.out.size; simp; omega)))
  clear h4 g3
  have g4 : Hid (Below w4.heap.size w4 (w4.alloc (.cells y 32))) := (Below.refl _ _).alloc (Nat.le_refl _) _
  have SC : (storeCells ⟨w4.heap.size, 0, none⟩ y.toList 0).run Try.prog (w4.alloc (.cells #[.int .u8 0, .int .u8 0, .int .u8 0, .int .u8 0, .int .u8 0, .int .u8 0, .int .u8 0, .int .u8 0, .int .u8 0, .int .u8 0, .int .u8 0, .int .u8 0, .int .u8 0, .int .u8 0, .int .u8 0, .int .u8 0, .int .u8 0, .int .u8 0, .int .u8 0, .int .u8 0, .int .u8 0, .int .u8 0, .int .u8 0, .int .u8 0, .int .u8 0, .int .u8 0, .int .u8 0, .int .u8 0, .int .u8 0, .int .u8 0, .int .u8 0, .int .u8 0] 32)) = .ok () (w4.alloc (.cells y 32)) := run_storeCells_new w4 32 zeros y yi (by rw [ys]; rfl) yc
  go_wp2_with fail
  clear SC
  replace HT := Lib.hid (HT.out.later g4.out)
  replace HH := Lib.hid (HH.out.later g4.out)
  replace HS := Lib.hid (HS.out.later g4.out)
  replace HU := Lib.hid (HU.out.later g4.out)
  replace PB := Lib.hid (PB.out.trans (g4.out.mono PB.out.size))
  have HY : Hid (Holds (w4.alloc (.cells y 32)) w4.heap.size y 32) := Holds.new _ _ _
  clear g4
  generalize w4.alloc (.cells y 32) = W5 at *
  generalize w4.heap.size = By at *
  generalize w3.heap.size = Bu at *
  generalize w2.heap.size = Bs at *
  have ut0 : ∀ u : After W5, u.w.cell? ⟨w.heap.size, 0, none⟩ = some (.int .u64 (t0 : Nat)) := fun u => (HT.out.later u.below).cell 0
  have us0 : ∀ u : After W5, u.w.cell? ⟨Bs, 0, none⟩ = some (.int .u64 (u0 : Nat)) := fun u => (HS.out.later u.below).cell 0
  have uu0 : ∀ u : After W5, u.w.cell? ⟨Bu, 0, none⟩ = some (.int .u64 (u0 : Nat)) := fun u => (HU.out.later u.below).cell 0
  have ut1 : ∀ u : After W5, u.w.cell? ⟨w.heap.size, 1, none⟩ = some (.int .u64 (t1 : Nat)) := fun u => (HT.out.later u.below).cell 1
  have us1 : ∀ u : After W5, u.w.cell? ⟨Bs, 1, none⟩ = some (.int .u64 (u1 : Nat)) := fun u => (HS.out.later u.below).cell 1
  have uu1 : ∀ u : After W5, u.w.cell? ⟨Bu, 1, none⟩ = some (.int .u64 (u1 : Nat)) := fun u => (HU.out.later u.below).cell 1
  have ut2 : ∀ u : After W5, u.w.cell? ⟨w.heap.size, 2, none⟩ = some (.int .u64 (t2 : Nat)) := fun u => (HT.out.later u.below).cell 2
  have us2 : ∀ u : After W5, u.w.cell? ⟨Bs, 2, none⟩ = some (.int .u64 (u2 : Nat)) := fun u => (HS.out.later u.below).cell 2
  have uu2 : ∀ u : After W5, u.w.cell? ⟨Bu, 2, none⟩ = some (.int .u64 (u2 : Nat)) := fun u => (HU.out.later u.below).cell 2
  have ut3 : ∀ u : After W5, u.w.cell? ⟨w.heap.size, 3, none⟩ = some (.int .u64 (t3 : Nat)) := fun u => (HT.out.later u.below).cell 3
  have us3 : ∀ u : After W5, u.w.cell? ⟨Bs, 3, none⟩ = some (.int .u64 (u3 : Nat)) := fun u => (HS.out.later u.below).cell 3
  have uu3 : ∀ u : After W5, u.w.cell? ⟨Bu, 3, none⟩ = some (.int .u64 (u3 : Nat)) := fun u => (HU.out.later u.below).cell 3
  have en := EU.out
  have ek := EK.out
  have ez := EZH.out
  unfold EqIs at en ek
  unfold EqZ at ez
  clear EK EZH EU
  rcases z with _ | _
  · refine wp_region_after (by kernel_rfl) (by kernel_rfl) ?_
    repeat (go_big_quiet_step ((first | (go_at_call 16; exact after_call (WK1.out _)) | (go_at_call 17; exact after_call (WK2.out _)) | (go_at_call_of 18 hr; exact after_call (ME1.out _)) | (go_at_call_of 18 y; exact after_call (ME3.out _)) | (go_at_call 19; exact after_call (ME2.out _)) | (go_at_call 12; exact after_call (WKH.out _)))))
    go_big_quiet_want
    refine quiet_load_row 32 (.tmp 4) rfl (w.heap.size + 1) rfl 32 hr _ (fun w hw => by obtain ⟨u, rfl⟩ := hw; exact HH.out.later u.below) Try.underlying32 rfl hi ?_
    go_big_quiet_on
    simp only [Act.put, List.setIfInBounds_toArray, List.set_cons_succ, List.set_cons_zero]
    repeat (go_big_quiet_step ((first | (go_at_call 16; exact after_call (WK1.out _)) | (go_at_call 17; exact after_call (WK2.out _)) | (go_at_call_of 18 hr; exact after_call (ME1.out _)) | (go_at_call_of 18 y; exact after_call (ME3.out _)) | (go_at_call 19; exact after_call (ME2.out _)) | (go_at_call 12; exact after_call (WKH.out _)))))
    go_big_quiet_want
    refine quiet_load_row 32 (.tmp 4) rfl (w.heap.size + 1) rfl 32 hr _ (fun w hw => by obtain ⟨u, rfl⟩ := hw; exact HH.out.later u.below) Try.underlying32 rfl hi ?_
    go_big_quiet_on
    simp only [Act.put, List.setIfInBounds_toArray, List.set_cons_succ, List.set_cons_zero]
    repeat (go_big_quiet_step ((first | (go_at_call 16; exact after_call (WK1.out _)) | (go_at_call 17; exact after_call (WK2.out _)) | (go_at_call_of 18 hr; exact after_call (ME1.out _)) | (go_at_call_of 18 y; exact after_call (ME3.out _)) | (go_at_call 19; exact after_call (ME2.out _)) | (go_at_call 12; exact after_call (WKH.out _)))))
    go_big_quiet_want
    refine quiet_load_row 32 (.tmp 11) rfl By rfl 32 y _ (fun w hw => by obtain ⟨u, rfl⟩ := hw; exact HY.out.later u.below) Try.underlying32 rfl yi ?_
    go_big_quiet_on
    simp only [Act.put, List.setIfInBounds_toArray, List.set_cons_succ, List.set_cons_zero]
    repeat (go_big_quiet_step ((first | (go_at_call 16; exact after_call (WK1.out _)) | (go_at_call 17; exact after_call (WK2.out _)) | (go_at_call_of 18 hr; exact after_call (ME1.out _)) | (go_at_call_of 18 y; exact after_call (ME3.out _)) | (go_at_call 19; exact after_call (ME2.out _)) | (go_at_call 12; exact after_call (WKH.out _)))))
    refine wpQuiet_nil ?_
    rintro _ ⟨u, rfl⟩
    have PC := Lib.hid (below_step PB.out u.below)
    clear PB HT HH HS HU HY ut0 ut1 ut2 ut3 us0 us1 us2 us3 uu0 uu1 uu2 uu3
    generalize u.w = W6 at *
    go_wp2_with fail
    go_ret
    exact ⟨rfl, PC.out⟩
  · refine wp_region_after (by kernel_rfl) (by kernel_rfl) ?_
    repeat (go_big_quiet_step ((first | (go_at_call 16; exact after_call (WK1.out _)) | (go_at_call 17; exact after_call (WK2.out _)) | (go_at_call_of 18 hr; exact after_call (ME1.out _)) | (go_at_call_of 18 y; exact after_call (ME3.out _)) | (go_at_call 19; exact after_call (ME2.out _)) | (go_at_call 12; exact after_call (WKH.out _)))))
    go_big_quiet_want
    refine quiet_load_row 32 (.tmp 4) rfl (w.heap.size + 1) rfl 32 hr _ (fun w hw => by obtain ⟨u, rfl⟩ := hw; exact HH.out.later u.below) Try.underlying32 rfl hi ?_
    go_big_quiet_on
    simp only [Act.put, List.setIfInBounds_toArray, List.set_cons_succ, List.set_cons_zero]
    repeat (go_big_quiet_step ((first | (go_at_call 16; exact after_call (WK1.out _)) | (go_at_call 17; exact after_call (WK2.out _)) | (go_at_call_of 18 hr; exact after_call (ME1.out _)) | (go_at_call_of 18 y; exact after_call (ME3.out _)) | (go_at_call 19; exact after_call (ME2.out _)) | (go_at_call 12; exact after_call (WKH.out _)))))
    go_big_quiet_want
    refine quiet_load_row 32 (.tmp 4) rfl (w.heap.size + 1) rfl 32 hr _ (fun w hw => by obtain ⟨u, rfl⟩ := hw; exact HH.out.later u.below) Try.underlying32 rfl hi ?_
    go_big_quiet_on
    simp only [Act.put, List.setIfInBounds_toArray, List.set_cons_succ, List.set_cons_zero]
    repeat (go_big_quiet_step ((first | (go_at_call 16; exact after_call (WK1.out _)) | (go_at_call 17; exact after_call (WK2.out _)) | (go_at_call_of 18 hr; exact after_call (ME1.out _)) | (go_at_call_of 18 y; exact after_call (ME3.out _)) | (go_at_call 19; exact after_call (ME2.out _)) | (go_at_call 12; exact after_call (WKH.out _)))))
    go_big_quiet_want
    refine quiet_load_row 32 (.tmp 11) rfl By rfl 32 y _ (fun w hw => by obtain ⟨u, rfl⟩ := hw; exact HY.out.later u.below) Try.underlying32 rfl yi ?_
    go_big_quiet_on
    simp only [Act.put, List.setIfInBounds_toArray, List.set_cons_succ, List.set_cons_zero]
    repeat (go_big_quiet_step ((first | (go_at_call 16; exact after_call (WK1.out _)) | (go_at_call 17; exact after_call (WK2.out _)) | (go_at_call_of 18 hr; exact after_call (ME1.out _)) | (go_at_call_of 18 y; exact after_call (ME3.out _)) | (go_at_call 19; exact after_call (ME2.out _)) | (go_at_call 12; exact after_call (WKH.out _)))))
    refine wpQuiet_nil ?_
    rintro _ ⟨u, rfl⟩
    have PC := Lib.hid (below_step PB.out u.below)
    clear PB HT HH HS HU HY ut0 ut1 ut2 ut3 us0 us1 us2 us3 uu0 uu1 uu2 uu3
    generalize u.w = W6 at *
    go_wp2_with fail
    go_ret
    exact ⟨rfl, PC.out⟩

set_option maxRecDepth 100000 in
set_option maxHeartbeats 8000000 in
theorem tworks_none (E : Nat → Nat → Nat) (hr y : Array Value) (t0 t1 t2 t3 k0 k1 k2 k3 u0 u1 u2 u3 : Nat) (r z o : Bool) (w : World) (hs : hr.size = 32) (ys : y.size = 32) (yc : y.all (·.oneCell') = true)
    (hl : Lies w none 0 E) (sumc : SumsTo 13 0 E u0 u1 u2 u3 o) (rsumc : SumsTo 14 0 E u0 u1 u2 u3 o) (eu : EqIs u0 u1 u2 u3 u0 u1 u2 u3 true)
    (wk1 : ∀ w : World, Calls Try.prog 16 #[.agg #[.int .u64 (t0 : Nat), .int .u64 (t1 : Nat), .int .u64 (t2 : Nat), .int .u64 (t3 : Nat)]] w fun e w' => e = .returned (.agg #[.int .u64 (k0 : Nat), .int .u64 (k1 : Nat), .int .u64 (k2 : Nat), .int .u64 (k3 : Nat)]) ∧ Below w.heap.size w w') (wk2 : ∀ w : World, Calls Try.prog 17 #[.agg #[.int .u64 (t0 : Nat), .int .u64 (t1 : Nat), .int .u64 (t2 : Nat), .int .u64 (t3 : Nat)]] w fun e w' => e = .returned (.agg #[.int .u64 (k0 : Nat), .int .u64 (k1 : Nat), .int .u64 (k2 : Nat), .int .u64 (k3 : Nat)]) ∧ Below w.heap.size w w') (me1 : ∀ w : World, Calls Try.prog 18 #[.agg hr, .agg #[.int .u64 (t0 : Nat), .int .u64 (t1 : Nat), .int .u64 (t2 : Nat), .int .u64 (t3 : Nat)]] w fun e w' => e = .returned (.bool r) ∧ Below w.heap.size w w') (me2 : ∀ w : World, Calls Try.prog 19 #[.agg hr, .agg #[.int .u64 (t0 : Nat), .int .u64 (t1 : Nat), .int .u64 (t2 : Nat), .int .u64 (t3 : Nat)]] w fun e w' => e = .returned (.bool r) ∧ Below w.heap.size w w') (me3 : ∀ w : World, Calls Try.prog 18 #[.agg y, .agg #[.int .u64 (t0 : Nat), .int .u64 (t1 : Nat), .int .u64 (t2 : Nat), .int .u64 (t3 : Nat)]] w fun e w' => e = .returned (.bool (!z)) ∧ Below w.heap.size w w') (th : ∀ w : World, Calls Try.prog 15 #[.agg #[.int .u64 (t0 : Nat), .int .u64 (t1 : Nat), .int .u64 (t2 : Nat), .int .u64 (t3 : Nat)]] w fun e w' => e = .returned (.agg y) ∧ Below w.heap.size w w')
    (ez : EqZ t0 t1 t2 t3 z) (ek : EqIs k0 k1 k2 k3 k0 k1 k2 k3 true) :
    Calls Try.prog 4 #[.agg #[.int .u64 (t0 : Nat), .int .u64 (t1 : Nat), .int .u64 (t2 : Nat), .int .u64 (t3 : Nat)], .agg hr, .slice none 0 0] w fun e w' => e = .returned (.bool true) ∧ Below w.heap.size w w' := by
  obtain ⟨ib, hib, hzb⟩ := Option.map_eq_some_iff.1 Try.infoBig
  obtain ⟨hz0, hz1, hz2⟩ : ib.zero = some (.agg #[.int .u64 0, .int .u64 0, .int .u64 0, .int .u64 0]) ∧ ib.size = 4 ∧ ib.bytes = 32 := by
    injection hzb with h1 h2
    injection h2 with h2 h3
    exact ⟨h1, h2, h3⟩
  have WK1 := Lib.hid wk1
  have WK2 := Lib.hid wk2
  have ME1 := Lib.hid me1
  have ME2 := Lib.hid me2
  have ME3 := Lib.hid me3
  have TH := Lib.hid th
  have WKH := Lib.hid works_any
  have EK := Lib.hid ek
  have EZH := Lib.hid ez
  have SUMC := Lib.hid sumc
  have RSUMC := Lib.hid rsumc
  have EU := Lib.hid eu
  have hi : (Try.prog.info? 32).map (·.size) = some hr.size := by rw [hs]; exact Try.infoHash
  have yi : (Try.prog.info? 32).map (·.size) = some y.size := by rw [ys]; exact Try.infoHash
  clear wk1 wk2 me1 me2 me3 th ek ez sumc rsumc eu hzb
  go_enter Try.func4, Try.ntmps4
  have HT0 : Holds ((w.alloc (.cells #[.int .u64 (t0 : Nat), .int .u64 (t1 : Nat), .int .u64 (t2 : Nat), .int .u64 (t3 : Nat)] 25)).alloc (.cells hr 32)) w.heap.size #[.int .u64 (t0 : Nat), .int .u64 (t1 : Nat), .int .u64 (t2 : Nat), .int .u64 (t3 : Nat)] 25 := (Holds.new _ _ _).later ((Below.refl _ _).alloc (Nat.le_refl _) _)
  have HH0 : Holds ((w.alloc (.cells #[.int .u64 (t0 : Nat), .int .u64 (t1 : Nat), .int .u64 (t2 : Nat), .int .u64 (t3 : Nat)] 25)).alloc (.cells hr 32)) (w.heap.size + 1) hr 32 := by
    have := Holds.new (w.alloc (.cells #[.int .u64 (t0 : Nat), .int .u64 (t1 : Nat), .int .u64 (t2 : Nat), .int .u64 (t3 : Nat)] 25)) hr 32
    simpa using this
  have PB0 : Below w.heap.size w ((w.alloc (.cells #[.int .u64 (t0 : Nat), .int .u64 (t1 : Nat), .int .u64 (t2 : Nat), .int .u64 (t3 : Nat)] 25)).alloc (.cells hr 32)) := ((Below.refl _ _).alloc (Nat.le_refl _) _).alloc (by simp) _
  have LI0 : Lies ((w.alloc (.cells #[.int .u64 (t0 : Nat), .int .u64 (t1 : Nat), .int .u64 (t2 : Nat), .int .u64 (t3 : Nat)] 25)).alloc (.cells hr 32)) none 0 E := hl.later PB0
  have HT := Lib.hid HT0
  have HH := Lib.hid HH0
  have PB := Lib.hid PB0
  have LI := Lib.hid LI0
  have s0 : Hid (((w.alloc (.cells #[.int .u64 (t0 : Nat), .int .u64 (t1 : Nat), .int .u64 (t2 : Nat), .int .u64 (t3 : Nat)] 25)).alloc (.cells hr 32)).heap.size = w.heap.size + 2) := by show _ = _; simp
  clear HT0 HH0 PB0 LI0 hl
  have OWN0 : Hid ((((w.alloc (.cells #[.int .u64 (t0 : Nat), .int .u64 (t1 : Nat), .int .u64 (t2 : Nat), .int .u64 (t3 : Nat)] 25)).alloc (.cells hr 32)).alloc (.cells #[] 25)).ownsRow (w.heap.size + 2) 25 4 (.slice (some ⟨w.heap.size + 1 + 1, 0, none⟩) 0 0) 0 []) := by
    have h := World.ownsRow_lit (e := 25) (size := 4) ((w.alloc (.cells #[.int .u64 (t0 : Nat), .int .u64 (t1 : Nat), .int .u64 (t2 : Nat), .int .u64 (t3 : Nat)] 25)).alloc (.cells hr 32)) #[] 0 (Nat.le_of_eq s0.out.symm) (Nat.zero_le _) rfl
    rw [s0.out] at h
    exact h
  have AP : (Builtin.append_ #[33, 33] 33 #[.slice (some ⟨w.heap.size + 1 + 1, 0, none⟩) 0 0, .slice none 0 0]).run Try.prog (((w.alloc (.cells #[.int .u64 (t0 : Nat), .int .u64 (t1 : Nat), .int .u64 (t2 : Nat), .int .u64 (t3 : Nat)] 25)).alloc (.cells hr 32)).alloc (.cells #[] 25)) = .ok (.slice (some ⟨w.heap.size + 1 + 1, 0, none⟩) 0 0) (((w.alloc (.cells #[.int .u64 (t0 : Nat), .int .u64 (t1 : Nat), .int .u64 (t2 : Nat), .int .u64 (t3 : Nat)] 25)).alloc (.cells hr 32)).alloc (.cells #[] 25)) := run_append_owned_none _ (w.heap.size + 2) 33 33 25 ib 4 Try.underlying33 hib _ 0 [] OWN0.out
  have h1 : Below ((w.alloc (.cells #[.int .u64 (t0 : Nat), .int .u64 (t1 : Nat), .int .u64 (t2 : Nat), .int .u64 (t3 : Nat)] 25)).alloc (.cells hr 32)).heap.size ((w.alloc (.cells #[.int .u64 (t0 : Nat), .int .u64 (t1 : Nat), .int .u64 (t2 : Nat), .int .u64 (t3 : Nat)] 25)).alloc (.cells hr 32)) (((w.alloc (.cells #[.int .u64 (t0 : Nat), .int .u64 (t1 : Nat), .int .u64 (t2 : Nat), .int .u64 (t3 : Nat)] 25)).alloc (.cells hr 32)).alloc (.cells #[] 25)) := (Below.refl _ _).alloc (Nat.le_refl _) _
  have lies' : Lies (((w.alloc (.cells #[.int .u64 (t0 : Nat), .int .u64 (t1 : Nat), .int .u64 (t2 : Nat), .int .u64 (t3 : Nat)] 25)).alloc (.cells hr 32)).alloc (.cells #[] 25)) (some ⟨w.heap.size + 1 + 1, 0, none⟩) 0 E := fun i hi => absurd hi (by omega)
  go_wp2_with fail
  refine (SUMC.out (some ⟨w.heap.size + 1 + 1, 0, none⟩) 0 _ lies').mono ?_
  rintro e w2 ⟨rfl, h2⟩
  have h12 := h1.trans (h2.mono h1.size)
  replace HT := Lib.hid (HT.out.later h12)
  replace HH := Lib.hid (HH.out.later h12)
  replace LI := Lib.hid (LI.out.later h12)
  replace PB := Lib.hid (PB.out.trans (h12.mono PB.out.size))
  clear h1 h2 h12 lies' s0 OWN0 AP
  have g1 : Hid (Below w2.heap.size w2 (w2.alloc (.cells #[.int .u64 (u0 : Nat), .int .u64 (u1 : Nat), .int .u64 (u2 : Nat), .int .u64 (u3 : Nat)] 25))) := (Below.refl _ _).alloc (Nat.le_refl _) _
  go_wp2_with fail
  refine (RSUMC.out none 0 _ (LI.out.later g1.out)).mono ?_
  rintro e w3 ⟨rfl, h3⟩
  have HS : Hid (Holds w3 w2.heap.size #[.int .u64 (u0 : Nat), .int .u64 (u1 : Nat), .int .u64 (u2 : Nat), .int .u64 (u3 : Nat)] 25) := (Holds.new w2 #[.int .u64 (u0 : Nat), .int .u64 (u1 : Nat), .int .u64 (u2 : Nat), .int .u64 (u3 : Nat)] 25).later h3
  replace HT := Lib.hid (HT.out.later g1.out)
  replace HH := Lib.hid (HH.out.later g1.out)
  replace HT := Lib.hid (HT.out.later h3)
  replace HH := Lib.hid (HH.out.later h3)
  replace PB := Lib.hid ((PB.out.trans (g1.out.mono PB.out.size)).trans (h3.mono (by have := PB.out.size; simp; omega)))
  clear h3 g1 LI
  have ct0 : w3.cell? ⟨w.heap.size, 0, none⟩ = some (.int .u64 (t0 : Nat)) := HT.out.cell 0
  have ct1 : w3.cell? ⟨w.heap.size, 1, none⟩ = some (.int .u64 (t1 : Nat)) := HT.out.cell 1
  have ct2 : w3.cell? ⟨w.heap.size, 2, none⟩ = some (.int .u64 (t2 : Nat)) := HT.out.cell 2
  have ct3 : w3.cell? ⟨w.heap.size, 3, none⟩ = some (.int .u64 (t3 : Nat)) := HT.out.cell 3
  have lt : w.heap.size < w3.heap.size := HT.out.lt
  have g3 : Hid (Below w3.heap.size w3 (w3.alloc (.cells #[.int .u64 (u0 : Nat), .int .u64 (u1 : Nat), .int .u64 (u2 : Nat), .int .u64 (u3 : Nat)] 25))) := (Below.refl _ _).alloc (Nat.le_refl _) _
  go_wp2_with fail
  clear ct0 ct1 ct2 ct3 lt
  refine (TH.out _).mono ?_
  rintro e w4 ⟨rfl, h4⟩
  have HU : Hid (Holds w4 w3.heap.size #[.int .u64 (u0 : Nat), .int .u64 (u1 : Nat), .int .u64 (u2 : Nat), .int .u64 (u3 : Nat)] 25) := (Holds.new w3 #[.int .u64 (u0 : Nat), .int .u64 (u1 : Nat), .int .u64 (u2 : Nat), .int .u64 (u3 : Nat)] 25).later h4
  replace HT := Lib.hid (HT.out.later g3.out)
  replace HH := Lib.hid (HH.out.later g3.out)
  replace HS := Lib.hid (HS.out.later g3.out)
  replace HT := Lib.hid (HT.out.later h4)
  replace HH := Lib.hid (HH.out.later h4)
  replace HS := Lib.hid (HS.out.later h4)
  replace PB := Lib.hid ((PB.out.trans (g3.out.mono PB.out.size)).trans (h4.mono (by have := PB.out.size; simp; omega)))
  clear h4 g3
  have g4 : Hid (Below w4.heap.size w4 (w4.alloc (.cells y 32))) := (Below.refl _ _).alloc (Nat.le_refl _) _
  have SC : (storeCells ⟨w4.heap.size, 0, none⟩ y.toList 0).run Try.prog (w4.alloc (.cells #[.int .u8 0, .int .u8 0, .int .u8 0, .int .u8 0, .int .u8 0, .int .u8 0, .int .u8 0, .int .u8 0, .int .u8 0, .int .u8 0, .int .u8 0, .int .u8 0, .int .u8 0, .int .u8 0, .int .u8 0, .int .u8 0, .int .u8 0, .int .u8 0, .int .u8 0, .int .u8 0, .int .u8 0, .int .u8 0, .int .u8 0, .int .u8 0, .int .u8 0, .int .u8 0, .int .u8 0, .int .u8 0, .int .u8 0, .int .u8 0, .int .u8 0, .int .u8 0] 32)) = .ok () (w4.alloc (.cells y 32)) := run_storeCells_new w4 32 zeros y yi (by rw [ys]; rfl) yc
  go_wp2_with fail
  clear SC
  replace HT := Lib.hid (HT.out.later g4.out)
  replace HH := Lib.hid (HH.out.later g4.out)
  replace HS := Lib.hid (HS.out.later g4.out)
  replace HU := Lib.hid (HU.out.later g4.out)
  replace PB := Lib.hid (PB.out.trans (g4.out.mono PB.out.size))
  have HY : Hid (Holds (w4.alloc (.cells y 32)) w4.heap.size y 32) := Holds.new _ _ _
  clear g4
  generalize w4.alloc (.cells y 32) = W5 at *
  generalize w4.heap.size = By at *
  generalize w3.heap.size = Bu at *
  generalize w2.heap.size = Bs at *
  have ut0 : ∀ u : After W5, u.w.cell? ⟨w.heap.size, 0, none⟩ = some (.int .u64 (t0 : Nat)) := fun u => (HT.out.later u.below).cell 0
  have us0 : ∀ u : After W5, u.w.cell? ⟨Bs, 0, none⟩ = some (.int .u64 (u0 : Nat)) := fun u => (HS.out.later u.below).cell 0
  have uu0 : ∀ u : After W5, u.w.cell? ⟨Bu, 0, none⟩ = some (.int .u64 (u0 : Nat)) := fun u => (HU.out.later u.below).cell 0
  have ut1 : ∀ u : After W5, u.w.cell? ⟨w.heap.size, 1, none⟩ = some (.int .u64 (t1 : Nat)) := fun u => (HT.out.later u.below).cell 1
  have us1 : ∀ u : After W5, u.w.cell? ⟨Bs, 1, none⟩ = some (.int .u64 (u1 : Nat)) := fun u => (HS.out.later u.below).cell 1
  have uu1 : ∀ u : After W5, u.w.cell? ⟨Bu, 1, none⟩ = some (.int .u64 (u1 : Nat)) := fun u => (HU.out.later u.below).cell 1
  have ut2 : ∀ u : After W5, u.w.cell? ⟨w.heap.size, 2, none⟩ = some (.int .u64 (t2 : Nat)) := fun u => (HT.out.later u.below).cell 2
  have us2 : ∀ u : After W5, u.w.cell? ⟨Bs, 2, none⟩ = some (.int .u64 (u2 : Nat)) := fun u => (HS.out.later u.below).cell 2
  have uu2 : ∀ u : After W5, u.w.cell? ⟨Bu, 2, none⟩ = some (.int .u64 (u2 : Nat)) := fun u => (HU.out.later u.below).cell 2
  have ut3 : ∀ u : After W5, u.w.cell? ⟨w.heap.size, 3, none⟩ = some (.int .u64 (t3 : Nat)) := fun u => (HT.out.later u.below).cell 3
  have us3 : ∀ u : After W5, u.w.cell? ⟨Bs, 3, none⟩ = some (.int .u64 (u3 : Nat)) := fun u => (HS.out.later u.below).cell 3
  have uu3 : ∀ u : After W5, u.w.cell? ⟨Bu, 3, none⟩ = some (.int .u64 (u3 : Nat)) := fun u => (HU.out.later u.below).cell 3
  have en := EU.out
  have ek := EK.out
  have ez := EZH.out
  unfold EqIs at en ek
  unfold EqZ at ez
  clear EK EZH EU
  rcases z with _ | _
  · refine wp_region_after (by kernel_rfl) (by kernel_rfl) ?_
    repeat (go_big_quiet_step ((first | (go_at_call 16; exact after_call (WK1.out _)) | (go_at_call 17; exact after_call (WK2.out _)) | (go_at_call_of 18 hr; exact after_call (ME1.out _)) | (go_at_call_of 18 y; exact after_call (ME3.out _)) | (go_at_call 19; exact after_call (ME2.out _)) | (go_at_call 12; exact after_call (WKH.out _)))))
    go_big_quiet_want
    refine quiet_load_row 32 (.tmp 4) rfl (w.heap.size + 1) rfl 32 hr _ (fun w hw => by obtain ⟨u, rfl⟩ := hw; exact HH.out.later u.below) Try.underlying32 rfl hi ?_
    go_big_quiet_on
    simp only [Act.put, List.setIfInBounds_toArray, List.set_cons_succ, List.set_cons_zero]
    repeat (go_big_quiet_step ((first | (go_at_call 16; exact after_call (WK1.out _)) | (go_at_call 17; exact after_call (WK2.out _)) | (go_at_call_of 18 hr; exact after_call (ME1.out _)) | (go_at_call_of 18 y; exact after_call (ME3.out _)) | (go_at_call 19; exact after_call (ME2.out _)) | (go_at_call 12; exact after_call (WKH.out _)))))
    go_big_quiet_want
    refine quiet_load_row 32 (.tmp 4) rfl (w.heap.size + 1) rfl 32 hr _ (fun w hw => by obtain ⟨u, rfl⟩ := hw; exact HH.out.later u.below) Try.underlying32 rfl hi ?_
    go_big_quiet_on
    simp only [Act.put, List.setIfInBounds_toArray, List.set_cons_succ, List.set_cons_zero]
    repeat (go_big_quiet_step ((first | (go_at_call 16; exact after_call (WK1.out _)) | (go_at_call 17; exact after_call (WK2.out _)) | (go_at_call_of 18 hr; exact after_call (ME1.out _)) | (go_at_call_of 18 y; exact after_call (ME3.out _)) | (go_at_call 19; exact after_call (ME2.out _)) | (go_at_call 12; exact after_call (WKH.out _)))))
    go_big_quiet_want
    refine quiet_load_row 32 (.tmp 11) rfl By rfl 32 y _ (fun w hw => by obtain ⟨u, rfl⟩ := hw; exact HY.out.later u.below) Try.underlying32 rfl yi ?_
    go_big_quiet_on
    simp only [Act.put, List.setIfInBounds_toArray, List.set_cons_succ, List.set_cons_zero]
    repeat (go_big_quiet_step ((first | (go_at_call 16; exact after_call (WK1.out _)) | (go_at_call 17; exact after_call (WK2.out _)) | (go_at_call_of 18 hr; exact after_call (ME1.out _)) | (go_at_call_of 18 y; exact after_call (ME3.out _)) | (go_at_call 19; exact after_call (ME2.out _)) | (go_at_call 12; exact after_call (WKH.out _)))))
    refine wpQuiet_nil ?_
    rintro _ ⟨u, rfl⟩
    have PC := Lib.hid (below_step PB.out u.below)
    clear PB HT HH HS HU HY ut0 ut1 ut2 ut3 us0 us1 us2 us3 uu0 uu1 uu2 uu3
    generalize u.w = W6 at *
    go_wp2_with fail
    go_ret
    exact ⟨rfl, PC.out⟩
  · refine wp_region_after (by kernel_rfl) (by kernel_rfl) ?_
    repeat (go_big_quiet_step ((first | (go_at_call 16; exact after_call (WK1.out _)) | (go_at_call 17; exact after_call (WK2.out _)) | (go_at_call_of 18 hr; exact after_call (ME1.out _)) | (go_at_call_of 18 y; exact after_call (ME3.out _)) | (go_at_call 19; exact after_call (ME2.out _)) | (go_at_call 12; exact after_call (WKH.out _)))))
    go_big_quiet_want
    refine quiet_load_row 32 (.tmp 4) rfl (w.heap.size + 1) rfl 32 hr _ (fun w hw => by obtain ⟨u, rfl⟩ := hw; exact HH.out.later u.below) Try.underlying32 rfl hi ?_
    go_big_quiet_on
    simp only [Act.put, List.setIfInBounds_toArray, List.set_cons_succ, List.set_cons_zero]
    repeat (go_big_quiet_step ((first | (go_at_call 16; exact after_call (WK1.out _)) | (go_at_call 17; exact after_call (WK2.out _)) | (go_at_call_of 18 hr; exact after_call (ME1.out _)) | (go_at_call_of 18 y; exact after_call (ME3.out _)) | (go_at_call 19; exact after_call (ME2.out _)) | (go_at_call 12; exact after_call (WKH.out _)))))
    go_big_quiet_want
    refine quiet_load_row 32 (.tmp 4) rfl (w.heap.size + 1) rfl 32 hr _ (fun w hw => by obtain ⟨u, rfl⟩ := hw; exact HH.out.later u.below) Try.underlying32 rfl hi ?_
    go_big_quiet_on
    simp only [Act.put, List.setIfInBounds_toArray, List.set_cons_succ, List.set_cons_zero]
    repeat (go_big_quiet_step ((first | (go_at_call 16; exact after_call (WK1.out _)) | (go_at_call 17; exact after_call (WK2.out _)) | (go_at_call_of 18 hr; exact after_call (ME1.out _)) | (go_at_call_of 18 y; exact after_call (ME3.out _)) | (go_at_call 19; exact after_call (ME2.out _)) | (go_at_call 12; exact after_call (WKH.out _)))))
    go_big_quiet_want
    refine quiet_load_row 32 (.tmp 11) rfl By rfl 32 y _ (fun w hw => by obtain ⟨u, rfl⟩ := hw; exact HY.out.later u.below) Try.underlying32 rfl yi ?_
    go_big_quiet_on
    simp only [Act.put, List.setIfInBounds_toArray, List.set_cons_succ, List.set_cons_zero]
    repeat (go_big_quiet_step ((first | (go_at_call 16; exact after_call (WK1.out _)) | (go_at_call 17; exact after_call (WK2.out _)) | (go_at_call_of 18 hr; exact after_call (ME1.out _)) | (go_at_call_of 18 y; exact after_call (ME3.out _)) | (go_at_call 19; exact after_call (ME2.out _)) | (go_at_call 12; exact after_call (WKH.out _)))))
    refine wpQuiet_nil ?_
    rintro _ ⟨u, rfl⟩
    have PC := Lib.hid (below_step PB.out u.below)
    clear PB HT HH HS HU HY ut0 ut1 ut2 ut3 us0 us1 us2 us3 uu0 uu1 uu2 uu3
    generalize u.w = W6 at *
    go_wp2_with fail
    go_ret
    exact ⟨rfl, PC.out⟩

theorem tworks_any (t0 t1 t2 t3 : Nat) (hb : Nat → Nat) (p : Option Addr) (len cap : Nat) (E : Nat → Nat → Nat) (ht : Words t0 t1 t2 t3) (hh : Bytes hb) (w : World) (hc : Lies w p len E ∧ WordsAll len E ∧ len ≤ maxLen ∧ (p = none → len = 0 ∧ cap = 0)) :
    Calls Try.prog 4 #[.agg #[.int .u64 (t0 : Nat), .int .u64 (t1 : Nat), .int .u64 (t2 : Nat), .int .u64 (t3 : Nat)], .agg #[.int .u8 (hb 0 : Nat), .int .u8 (hb 1 : Nat), .int .u8 (hb 2 : Nat), .int .u8 (hb 3 : Nat), .int .u8 (hb 4 : Nat), .int .u8 (hb 5 : Nat), .int .u8 (hb 6 : Nat), .int .u8 (hb 7 : Nat), .int .u8 (hb 8 : Nat), .int .u8 (hb 9 : Nat), .int .u8 (hb 10 : Nat), .int .u8 (hb 11 : Nat), .int .u8 (hb 12 : Nat), .int .u8 (hb 13 : Nat), .int .u8 (hb 14 : Nat), .int .u8 (hb 15 : Nat), .int .u8 (hb 16 : Nat), .int .u8 (hb 17 : Nat), .int .u8 (hb 18 : Nat), .int .u8 (hb 19 : Nat), .int .u8 (hb 20 : Nat), .int .u8 (hb 21 : Nat), .int .u8 (hb 22 : Nat), .int .u8 (hb 23 : Nat), .int .u8 (hb 24 : Nat), .int .u8 (hb 25 : Nat), .int .u8 (hb 26 : Nat), .int .u8 (hb 27 : Nat), .int .u8 (hb 28 : Nat), .int .u8 (hb 29 : Nat), .int .u8 (hb 30 : Nat), .int .u8 (hb 31 : Nat)], .slice p len cap] w fun e w' => e = .returned (.bool true) ∧ Below w.heap.size w w' := by
  obtain ⟨hl, hw, _, hnone⟩ := hc
  by_cases big : 300 < len
  · exact tworks_far p len cap _ t0 t1 t2 t3 w big
  · have same : ∀ {x0 x1 x2 x3 : Nat}, Words x0 x1 x2 x3 → EqIs x0 x1 x2 x3 x0 x1 x2 x3 true := fun h => eqIs h h true (by symm; rw [decide_eq_true_iff])
    have lt := val_lt ht
    obtain ⟨u0, u1, u2, u3, wu, eu⟩ := words_of (x := total E len % 115792089237316195423570985008687907853269984665640564039457584007913129639936) (Nat.mod_lt _ (by decide))
    have wl : workOf (val t0 t1 t2 t3) < 115792089237316195423570985008687907853269984665640564039457584007913129639936 := by
      unfold workOf
      split
      · omega
      · have h1 : (115792089237316195423570985008687907853269984665640564039457584007913129639936 - 1 - val t0 t1 t2 t3) / (val t0 t1 t2 t3 + 1) ≤ (115792089237316195423570985008687907853269984665640564039457584007913129639936 - 1 - val t0 t1 t2 t3) / 1 := Nat.div_le_div_left (by omega) (by omega)
        rw [Nat.div_one] at h1
        omega
    obtain ⟨k0, k1, k2, k3, wk, ek⟩ := words_of wl
    have sums : SumsTo 13 len E u0 u1 u2 u3 (decide (115792089237316195423570985008687907853269984665640564039457584007913129639936 ≤ total E len)) := fun p cap w h => (sum_any p len cap E w h hw (by omega)).mono fun e w' ⟨p0, p1, p2, p3, he, wp, vp, hbl⟩ => by
      obtain ⟨rfl, rfl, rfl, rfl⟩ := val_inj wp wu (vp.trans eu.symm)
      exact ⟨he, hbl⟩
    have rsums : SumsTo 14 len E u0 u1 u2 u3 (decide (115792089237316195423570985008687907853269984665640564039457584007913129639936 ≤ total E len)) := fun p cap w h => (rsum_any p len cap E w h hw (by omega)).mono fun e w' ⟨p0, p1, p2, p3, he, wp, vp, hbl⟩ => by
      obtain ⟨rfl, rfl, rfl, rfl⟩ := val_inj wp wu (vp.trans eu.symm)
      exact ⟨he, hbl⟩
    have by' : Bytes (fun j => val t0 t1 t2 t3 / 2 ^ (8 * j) % 256) := fun k _ => Nat.mod_lt _ (by decide)
    have num : hashNum (fun j => val t0 t1 t2 t3 / 2 ^ (8 * j) % 256) 32 = val t0 t1 t2 t3 := by
      rw [num_bytes, show (2 : Nat) ^ (8 * 32) = 115792089237316195423570985008687907853269984665640564039457584007913129639936 by decide]
      exact Nat.mod_eq_of_lt lt
    obtain ⟨z, hz⟩ : ∃ z, z = decide (val t0 t1 t2 t3 = 0) := ⟨_, rfl⟩
    have near : ∀ w : World, Calls Try.prog 18 #[.agg (rowOf fun j => val t0 t1 t2 t3 / 2 ^ (8 * j) % 256), .agg #[.int .u64 (t0 : Nat), .int .u64 (t1 : Nat), .int .u64 (t2 : Nat), .int .u64 (t3 : Nat)]] w fun e w' => e = .returned (.bool (!z)) ∧ Below w.heap.size w w' := fun w => by
      rw [rowOf_lit]
      exact meetsIs by' ht (!z) (by rw [num, hz, Bool.eq_iff_iff, Bool.not_eq_true', decide_eq_false_iff_not, decide_eq_true_iff]; exact ⟨fun h => ⟨h, Nat.le_refl _⟩, fun h => h.1⟩) w
    have m1 : ∀ w : World, Calls Try.prog 18 #[.agg (rowOf hb), .agg #[.int .u64 (t0 : Nat), .int .u64 (t1 : Nat), .int .u64 (t2 : Nat), .int .u64 (t3 : Nat)]] w fun e w' => e = .returned (.bool (decide (val t0 t1 t2 t3 ≠ 0 ∧ hashNum hb 32 ≤ val t0 t1 t2 t3))) ∧ Below w.heap.size w w' := fun w => by
      rw [rowOf_lit]; exact meetsIs hh ht _ rfl w
    have m2 : ∀ w : World, Calls Try.prog 19 #[.agg (rowOf hb), .agg #[.int .u64 (t0 : Nat), .int .u64 (t1 : Nat), .int .u64 (t2 : Nat), .int .u64 (t3 : Nat)]] w fun e w' => e = .returned (.bool (decide (val t0 t1 t2 t3 ≠ 0 ∧ hashNum hb 32 ≤ val t0 t1 t2 t3))) ∧ Below w.heap.size w w' := fun w => by
      rw [rowOf_lit]; exact rmeetsIs hh ht _ rfl w
    rw [← rowOf_lit]
    rcases p with _ | a
    · obtain ⟨rfl, rfl⟩ := hnone rfl
      exact tworks_none E (rowOf hb) (rowOf fun j => val t0 t1 t2 t3 / 2 ^ (8 * j) % 256) t0 t1 t2 t3 k0 k1 k2 k3 u0 u1 u2 u3 _ z _ w (rowOf_size _) (rowOf_size _) (rowOf_cells _) hl sums rsums (same wu) (workIs ht wk ek) (rworkIs ht wk ek) m1 m2 near (fun w => refToHash_any ht w) (eqZ ht z hz) (same wk)
    · exact tworks_some a len cap E (rowOf hb) (rowOf fun j => val t0 t1 t2 t3 / 2 ^ (8 * j) % 256) t0 t1 t2 t3 k0 k1 k2 k3 u0 u1 u2 u3 _ z _ w (rowOf_size _) (rowOf_size _) (rowOf_cells _) hl (by omega) sums rsums (same wu) (workIs ht wk ek) (rworkIs ht wk ek) m1 m2 near (fun w => refToHash_any ht w) (eqZ ht z hz) (same wk)

set_option maxRecDepth 100000 in
theorem targetWorks_lifted (os : Os) (started : os.Started) (H : Type) (enc : TypeId × Value → H) :
    ReturnsInHanded {} Try.checked os 4 .any (Rows.targetWorksSpec.pre6 enc Try.prog Try.f4 Rows.targetWorksRow.domain false) (Rows.targetWorksSpec.post enc Try.prog Try.f4 false true false false) := by
  refine returnsInHanded_of_change (C := Try.checked) Try.own started (by kernel_rfl) Try.func4
    (ChangeSpec.witness6 (enc := enc) (C := Try.checked) false ⟨#[], #[.agg #[.int .u64 0, .int .u64 0, .int .u64 0, .int .u64 0], .agg #[.int .u8 0, .int .u8 0, .int .u8 0, .int .u8 0, .int .u8 0, .int .u8 0, .int .u8 0, .int .u8 0, .int .u8 0, .int .u8 0, .int .u8 0, .int .u8 0, .int .u8 0, .int .u8 0, .int .u8 0, .int .u8 0, .int .u8 0, .int .u8 0, .int .u8 0, .int .u8 0, .int .u8 0, .int .u8 0, .int .u8 0, .int .u8 0, .int .u8 0, .int .u8 0, .int .u8 0, .int .u8 0, .int .u8 0, .int .u8 0, .int .u8 0, .int .u8 0], .slice none 0 0], []⟩ 8 (by kernel_rfl) (by kernel_rfl) (by kernel_rfl) (by kernel_rfl)) ?_
  intro W base args ds gs before hval0 hW hcnd _
  have hval : ∀ (j : Nat) t v, Try.f4.params[j]? = some t → args[j]? = some v → Value.okWide Try.prog W .any base t v := hval0
  have hW' := hW
  obtain ⟨p, q, hA0, hV, rfl, hfz, hnd⟩ := hW
  have hA : DataW.TrodAll enc Try.prog W 0 (fun _ => true) true Try.f4.params.toList args.toList ds p := hA0
  rw [Try.params4] at hA hval
  obtain ⟨v0, vs0, d0, ds0, p0, q0, hargs, rfl, rfl, h0, r0⟩ := trodAll_cons hA
  obtain ⟨v1, vs1, d1, ds1, p1, q1, rfl, rfl, rfl, h1, r1⟩ := trodAll_cons r0
  obtain ⟨v2, vs2, d2, ds2, p2, q2, rfl, rfl, rfl, h2, r2⟩ := trodAll_cons r1
  obtain ⟨rfl, rfl, rfl⟩ := trodAll_nil r2
  obtain rfl : args = #[v0, v1, v2] := by cases args; simp_all
  obtain ⟨rfl, rfl⟩ := trodVars_none hV
  have lt0 : ∀ x ∈ p0, x.block < W.heap.size := by obtain ⟨m, hm⟩ := h0; exact DataW.trod_lt m _ _ _ hm
  have lt1 : ∀ x ∈ p1, x.block < W.heap.size := by obtain ⟨m, hm⟩ := h1; exact DataW.trod_lt m _ _ _ hm
  have lt2 : ∀ x ∈ p2, x.block < W.heap.size := by obtain ⟨m, hm⟩ := h2; exact DataW.trod_lt m _ _ _ hm
  obtain ⟨a0, a1, a2, a3, wa, rfl⟩ := open_big (hval 0 25 v0 rfl rfl) h0
  obtain ⟨b, wb, rfl⟩ := open_hash (hval 1 32 v1 rfl rfl) h1
  obtain ⟨c, cl, cc, cE, wc, rfl⟩ := open_slice_big (hval 2 33 v2 rfl rfl) h2
  clear hA0 hval0
  refine (tworks_any a0 a1 a2 a3 b c cl cc cE wa wb W wc).mono fun e W' ⟨he, bel⟩ => ?_
  subst he
  exact ⟨_, rfl, _, _, _, [], _, [], hW', trodAll_mk1 (shut_bool Try.underlying4 _), (trodAll_cons_mk (Below.trod Try.laidOut (by kernel_rfl) (of_decide_eq_true (by kernel_rfl)) h0 bel lt0) (trodAll_cons_mk (Below.trod Try.laidOut (by kernel_rfl) (of_decide_eq_true (by kernel_rfl)) h1 bel lt1) (trodAll_cons_mk (Below.trod Try.laidOut (by kernel_rfl) (of_decide_eq_true (by kernel_rfl)) h2 bel lt2) trodAll_mk0))), rfl, bel.frame _, fun h => by cases h⟩

theorem targetWorks_holds : Rows.TargetWorksSaid :=
  OpenClaim.holds_of_wide 4 Try.f4 rfl rfl rfl rfl rfl rfl rfl ⟨rfl, rfl, rfl, rfl, rfl⟩ rfl rfl rfl rfl rfl (by kernel_rfl) Try.func4 (by kernel_rfl)
    (of_decide_eq_true (by kernel_rfl)) (by unfold Func.isWrapper; rw [if_neg (of_decide_eq_false (by kernel_rfl))]; exact ⟨rfl, rfl⟩)
    (fun os started H enc _ => targetWorks_lifted os started H enc)

end Go.Proofs.Ytnipajfglmahiaa
