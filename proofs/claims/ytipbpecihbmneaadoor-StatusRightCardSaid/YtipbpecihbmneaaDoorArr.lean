/- Blocks known whole: arrays of words, of bytes, and a state. No condition. -/
import Derived.Test.YtipbpecihbmneaaDoorSpec
import Derived.Laws.Tables
import Derived.RegionTactic
import Derived.LoopTactic
namespace Go.Proofs.YtipbpecihbmneaaDoor
open Go.RowKit

def u32v (n : Nat) : Value := .int .u32 (n : Int)
def u32s (L : List Nat) : List Value := L.map u32v
theorem u32s_len (L : List Nat) : (u32s L).length = L.length := by simp [u32s]
theorem u32s_get (L : List Nat) (k : Nat) (h : k < L.length) : (u32s L)[k]? = some (.int .u32 (nth L k : Nat)) := by simp [u32s, nth, List.getD, h, u32v]
theorem u32s_one (L : List Nat) : ∀ u ∈ u32s L, u.oneCell' = true := by
  intro u hu
  simp only [u32s, List.mem_map] at hu
  obtain ⟨_, _, rfl⟩ := hu
  rfl
theorem u32s_set (L : List Nat) (k x : Nat) : (u32s L).set k (.int .u32 (x : Int)) = u32s (L.set k x) := by
  simp [u32s, List.map_set, u32v]
theorem vals_set (L : List Nat) (k x : Nat) : (vals L).set k (.int .u8 (x : Int)) = vals (L.set k x) := by
  simp [vals, List.map_set, byteV]
theorem nth_set_same {L : List Nat} {k x : Nat} (h : k < L.length) : nth (L.set k x) k = x := by simp [nth, List.getD, h]
theorem nth_set_ne {L : List Nat} {k j x : Nat} (h : k ≠ j) : nth (L.set k x) j = nth L j := by simp [nth, List.getD, h]

/-- A block whose cells are these. -/
def Ro (w : World) (b : Nat) (T : TypeId) (vs : List Value) : Prop := w.heap[b]? = some (.cells vs.toArray T (0, 0))
section
variable {w w1 : World} {b c k : Nat} {T : TypeId} {vs : List Value}
theorem Ro.lt (h : Ro w b T vs) : b < w.heap.size := (Array.getElem?_eq_some_iff.1 h).1
theorem Ro.cell (h : Ro w b T vs) {v : Value} (hk : vs[k]? = some v) : w.cell? ⟨b, k, none⟩ = some v := by
  unfold Ro at h
  unfold World.cell?
  simp only [h]
  simpa using hk
theorem Ro.free (h : Ro w b T vs) (k : Nat) : w.frozen? ⟨b, k, none⟩ = false := by
  unfold Ro at h
  simp [World.frozen?, h]
theorem Ro.same (h : Ro w b T vs) (e : w1.heap[b]? = w.heap[b]?) : Ro w1 b T vs := e.trans h
theorem Ro.later (h : Ro w b T vs) (g : Below w.heap.size w w1) : Ro w1 b T vs := h.same (g.block b h.lt)
theorem Ro.set (h : Ro w b T vs) (k : Nat) (v : Value) : Ro (w.setCell ⟨b, k, none⟩ v) b T (vs.set k v) := by
  unfold Ro at *
  show (w.heap.modify b _)[b]? = _
  rw [Array.getElem?_modify, if_pos rfl, h]
  simp
theorem Ro.other (h : Ro w b T vs) (hc : b ≠ c) (u : Value) : Ro (w.setCell ⟨c, k, none⟩ u) b T vs := h.same (Below.heap_setCell _ _ _ _ hc)
theorem Ro.new (w : World) (T : TypeId) (vs : List Value) : Ro (w.alloc (.cells vs.toArray T)) w.heap.size T vs := heap_alloc_new w _
theorem Ro.alloc (h : Ro w b T vs) (o : Obj) : Ro (w.alloc o) b T vs := h.later ((Below.refl _ _).alloc (Nat.le_refl _) o)
theorem Ro.far {row : Option Nat} (h : Ro w b T vs) (g : w.grownBy w1 row) (hr : some b ≠ row) : Ro w1 b T vs := h.same (g.block b h.lt hr)
end
theorem Ro.u32 {w : World} {b k : Nat} {T : TypeId} {L : List Nat} (h : Ro w b T (u32s L)) (hk : k < L.length) : w.cell? ⟨b, k, none⟩ = some (.int .u32 (nth L k : Nat)) := h.cell (u32s_get L k hk)
theorem Ro.u8 {w : World} {b k : Nat} {T : TypeId} {L : List Nat} (h : Ro w b T (vals L)) (hk : k < L.length) : w.cell? ⟨b, k, none⟩ = some (.int .u8 (nth L k : Nat)) := h.cell (vals_get L k hk)
theorem Ro.set32 {w : World} {b : Nat} {T : TypeId} {L : List Nat} (h : Ro w b T (u32s L)) (k x : Nat) : Ro (w.setCell ⟨b, k, none⟩ (.int .u32 (x : Int))) b T (u32s (L.set k x)) := by
  rw [← u32s_set]; exact h.set _ _
theorem Ro.set8 {w : World} {b : Nat} {T : TypeId} {L : List Nat} (h : Ro w b T (vals L)) (k x : Nat) : Ro (w.setCell ⟨b, k, none⟩ (.int .u8 (x : Int))) b T (vals (L.set k x)) := by
  rw [← vals_set]; exact h.set _ _
theorem all_one {vs : List Value} (h : ∀ u ∈ vs, u.oneCell' = true) : vs.toArray.all (·.oneCell') = true := by
  rw [Array.all_eq_true_iff_forall_mem]
  intro x hx
  exact h x (by simpa using hx)
theorem grownBy_setRow (w : World) (g : Nat) (cs : Array Value) : w.grownBy (w.setRow g cs) (some g) :=
  ⟨rfl, rfl, rfl, by simp, fun k _ hne => by
    simp only [World.setRow, Array.getElem?_modify]
    rw [if_neg (by intro e; exact hne (by rw [e]))]⟩

theorem Tryd.info34 : (Tryd.prog.info? 61).map (·.size) = some 8 := by kernel_rfl
theorem Tryd.info35 : (Tryd.prog.info? 62).map (·.size) = some 64 := by kernel_rfl
theorem Tryd.info54 : (Tryd.prog.info? 80).map (·.size) = some 64 := by kernel_rfl
theorem Tryd.info26 : (Tryd.prog.info? 27).map (·.size) = some 32 := by kernel_rfl
theorem Tryd.info38 : (Tryd.prog.info? 65).map (·.size) = some 73 := by kernel_rfl
/-- A type of an array or a struct of n cells. -/
structure IsRow (T : TypeId) (n : Nat) : Prop where
  und : (∃ f, Tryd.prog.underlying T = some (.struct f)) ∨ ∃ k e, Tryd.prog.underlying T = some (.array k e)
  info : (Tryd.prog.info? T).map (·.size) = some n
theorem row34 : IsRow 61 8 := ⟨.inr ⟨_, _, Tryd.underlying61⟩, Tryd.info34⟩
theorem row35 : IsRow 62 64 := ⟨.inr ⟨_, _, Tryd.underlying62⟩, Tryd.info35⟩
theorem row54 : IsRow 80 64 := ⟨.inr ⟨_, _, Tryd.underlying80⟩, Tryd.info54⟩
theorem row26 : IsRow 27 32 := ⟨.inr ⟨_, _, Tryd.underlying27⟩, Tryd.info26⟩
theorem row38 : IsRow 65 73 := ⟨.inl ⟨_, Tryd.underlying65⟩, Tryd.info38⟩
section
variable {w : World} {ops : Array Oper} {rest : List Oper} {o : Oper} {a : Act} {Q : Exit → Act → World → Prop} {K : Act → World → Prop} {T S : TypeId} {n b : Nat} {vs zs : List Value}
theorem wp_load_ro (x : Operand) (ho : o.op = .load T x) (hx : a.eval x = .pointer (some ⟨b, 0, none⟩)) (hT : IsRow T n) (hr : Ro w b S vs) (hl : vs.length = n) (h : K (a.put o.dst (.agg vs.toArray)) w) : o.wp Tryd.prog a w K Q := by
  obtain ⟨⟨f, h1⟩ | ⟨k, e, h1⟩, h3⟩ := hT
  · exact wp_load_row T x ho b hx S vs.toArray (0, 0) _ hr h1 rfl (by rw [h3]; simp [hl]) h
  · exact wp_load_row T x ho b hx S vs.toArray (0, 0) _ hr h1 rfl (by rw [h3]; simp [hl]) h
theorem wpList_load_ro (hgd : o.guard = none) (x : Operand) (ho : o.op = .load T x) (hx : a.eval x = .pointer (some ⟨b, 0, none⟩)) (hT : IsRow T n) (hr : Ro w b S vs) (hl : vs.length = n)
    (h : wpList Tryd.prog ops Q rest (a.put o.dst (.agg vs.toArray)) w) : wpList Tryd.prog ops Q (o :: rest) a w :=
  wpList_plain hgd fun _ hK => wp_load_ro x ho hx hT hr hl (hK _ _ h)
theorem wpList_store_ro (hgd : o.guard = none) (x y : Operand) (ho : o.op = .store T x y) (hx : a.eval x = .pointer (some ⟨b, 0, none⟩)) (hy : a.eval y = .agg vs.toArray) (hT : IsRow T n) (hr : Ro w b S zs) (hz : zs.length = n) (hl : vs.length = n) (h1 : ∀ u ∈ vs, u.oneCell' = true)
    (h : ∀ w', Ro w' b S vs → w.grownBy w' (some b) → wpList Tryd.prog ops Q rest (a.put o.dst undef) w') : wpList Tryd.prog ops Q (o :: rest) a w :=
  wpList_store_row hgd T x y ho b vs.toArray hx hy S zs.toArray hr (by rw [hT.info]; simp [hl]) (by simp [hz, hl]) (all_one h1) (h _ (setRow_heap w b _ _ _ _ hr) (grownBy_setRow w b _))
end
theorem results_ro {fn : Func} {p : Tmp} {T S : TypeId} {n : Nat} (h : fn.results = #[.cell p T]) (tmps : Array Value) {w : World} {b : Nat} {vs : List Value} (hp : tmps.getD p undef = .pointer (some ⟨b, 0, none⟩)) (hT : IsRow T n) (hr : Ro w b S vs) (hl : vs.length = n) :
    (results fn tmps).run Tryd.prog w = .ok (.agg vs.toArray) w := by
  obtain ⟨⟨f, h1⟩ | ⟨k, e, h1⟩, h3⟩ := hT
  · exact results_cell_row h tmps w b S vs.toArray (0, 0) _ hp hr h1 rfl (by rw [h3]; simp [hl])
  · exact results_cell_row h tmps w b S vs.toArray (0, 0) _ hp hr h1 rfl (by rw [h3]; simp [hl])

theorem right_any (x : Nat) (n : Nat) (h1 : 1 ≤ n) (h2 : n ≤ 31) (w : World) : Calls Tryd.prog 23 #[.int .u32 (x : Nat), .int .u64 (n : Nat)] w fun e w' => e = .returned (.int .u32 (rr x n : Nat)) ∧ w = w' := by
  have H : Hid (bits .or .u32 ((x : Int) / 2 ^ n) ((x : Int) * 2 ^ (32 - n) % 4294967296) = ((rr x n : Nat) : Int)) := Lib.hid (by
    have h := bits_og (x / 2 ^ n) (x * 2 ^ (32 - n) % 4294967296)
    rw [show ((x : Int) / 2 ^ n) = ((x / 2 ^ n : Nat) : Int) by rw [Int.natCast_ediv, Int.natCast_pow]; rfl, show ((x : Int) * 2 ^ (32 - n) % 4294967296) = ((x * 2 ^ (32 - n) % 4294967296 : Nat) : Int) by rw [Int.natCast_emod, Int.natCast_mul, Int.natCast_pow]; rfl]
    exact h)
  go_enter Tryd.func23, Tryd.ntmps23
  go_wp2_with fail
  go_ret
  exact ⟨ret_int H.out, rfl⟩
set_option maxRecDepth 100000 in
theorem rot_any (x : Nat) (k : Int) (n : Nat) (h1 : 1 ≤ n) (h2 : n ≤ 31) (hk : bits .and .u64 (IntKind.u64.wrap k) 31 = ((32 - n : Nat) : Int)) (w : World) : Calls Tryd.prog 45 #[.int .u32 (x : Nat), .int .i64 k] w fun e w' => e = .returned (.int .u32 (rr x n : Nat)) ∧ w = w' := by
  obtain ⟨m, hm⟩ : ∃ m, 32 - n = m := ⟨_, rfl⟩
  rw [hm] at hk
  have m1 : 1 ≤ m := by omega
  have m2 : m ≤ 31 := by omega
  obtain rfl : n = 32 - m := by omega
  have H : Hid (bits .or .u32 ((x : Int) * 2 ^ m % 4294967296) ((x : Int) / 2 ^ (32 - m)) = ((rr x (32 - m) : Nat) : Int)) := Lib.hid (by
    have h := bits_og (x * 2 ^ m % 4294967296) (x / 2 ^ (32 - m))
    rw [show ((x : Int) / 2 ^ (32 - m)) = ((x / 2 ^ (32 - m) : Nat) : Int) by rw [Int.natCast_ediv, Int.natCast_pow]; rfl, show ((x : Int) * 2 ^ m % 4294967296) = ((x * 2 ^ m % 4294967296 : Nat) : Int) by rw [Int.natCast_emod, Int.natCast_mul, Int.natCast_pow]; rfl, h, og_comm]
    unfold rr
    rw [show 32 - (32 - m) = m by omega])
  clear hm h1 h2
  go_enter Tryd.func45, Tryd.ntmps45
  go_wp2_with fail
  go_ret
  exact ⟨ret_int H.out, rfl⟩
end Go.Proofs.YtipbpecihbmneaaDoor
