/- What the texts behind this one import. -/
import Derived.Test.YtimjmmiajgfblaaGreatDoorGaa
import Derived.WalkSmall
import Derived.WalkSpells
import Derived.Laws.BitsAllLaws
import Derived.Laws.Tables
import Derived.RegionTactic
import Derived.LoopTactic

namespace Go.Proofs.YtimjmmiajgfblaaGreatDoor
end Go.Proofs.YtimjmmiajgfblaaGreatDoor

/- SHA-256 over lists of numbers: the definition, and that a step of the machine is a step of the definition. No condition. -/
namespace Go.Proofs.YtimjmmiajgfblaaGreatDoor
open Go.RowKit

/-! Words of 32 bits as numbers. -/
def xo (a b : Nat) : Nat := (a ^^^ b) % 4294967296
def an (a b : Nat) : Nat := (a &&& b) % 4294967296
def og (a b : Nat) : Nat := (a ||| b) % 4294967296
def ad (a b : Nat) : Nat := (a + b) % 4294967296
def no (a : Nat) : Nat := xo 4294967295 a
def rr (x n : Nat) : Nat := og (x / 2 ^ n) (x * 2 ^ (32 - n) % 4294967296)
def sh (x n : Nat) : Nat := x / 2 ^ n
def sl (x n : Nat) : Nat := x * 2 ^ n % 4294967296

theorem ofInt_nat (a : Nat) : (BitVec.ofInt 32 (a : Int)).toNat = a % 4294967296 := by
  rw [BitVec.ofInt_natCast]; rfl
theorem wrap_nat (a : Nat) : IntKind.u32.wrap (a : Int) = ((a % 4294967296 : Nat) : Int) := by
  rw [IntKind.wrap_u32']; omega
theorem bits_xo (a b : Nat) : bits .xor .u32 (a : Int) (b : Int) = ((xo a b : Nat) : Int) := by
  show IntKind.u32.wrap ((BitVec.ofInt 32 (a : Int) ^^^ BitVec.ofInt 32 (b : Int)).toNat : Int) = _
  rw [BitVec.toNat_xor, ofInt_nat, ofInt_nat, wrap_nat]
  congr 1
  unfold xo
  rw [show (4294967296 : Nat) = 2 ^ 32 from rfl, Nat.xor_mod_two_pow, Nat.xor_mod_two_pow]
  simp
theorem bits_an (a b : Nat) : bits .and .u32 (a : Int) (b : Int) = ((an a b : Nat) : Int) := by
  show IntKind.u32.wrap ((BitVec.ofInt 32 (a : Int) &&& BitVec.ofInt 32 (b : Int)).toNat : Int) = _
  rw [BitVec.toNat_and, ofInt_nat, ofInt_nat, wrap_nat]
  congr 1
  unfold an
  rw [show (4294967296 : Nat) = 2 ^ 32 from rfl, Nat.and_mod_two_pow, Nat.and_mod_two_pow]
  simp
theorem bits_og (a b : Nat) : bits .or .u32 (a : Int) (b : Int) = ((og a b : Nat) : Int) := by
  show IntKind.u32.wrap ((BitVec.ofInt 32 (a : Int) ||| BitVec.ofInt 32 (b : Int)).toNat : Int) = _
  rw [BitVec.toNat_or, ofInt_nat, ofInt_nat, wrap_nat]
  congr 1
  unfold og
  rw [show (4294967296 : Nat) = 2 ^ 32 from rfl, Nat.or_mod_two_pow, Nat.or_mod_two_pow]
  simp
theorem og_comm (a b : Nat) : og a b = og b a := by unfold og; rw [Nat.or_comm]

/-! The schedule of a piece. -/
def sg0 (x : Nat) : Nat := xo (xo (rr x 7) (rr x 18)) (sh x 3)
def sg1 (x : Nat) : Nat := xo (xo (rr x 17) (rr x 19)) (sh x 10)
def word (p : List Nat) (t : Nat) : Nat := og (og (og (sl (nth p (4 * t)) 24) (sl (nth p (4 * t + 1)) 16)) (sl (nth p (4 * t + 2)) 8)) (nth p (4 * t + 3))
def wnext (w : List Nat) (t : Nat) : Nat := ad (ad (ad (sg1 (nth w (t - 2))) (nth w (t - 7))) (sg0 (nth w (t - 15)))) (nth w (t - 16))
def sched (p : List Nat) : Nat → List Nat
  | 0 => []
  | t + 1 => sched p t ++ [if t < 16 then word p t else wnext (sched p t) t]
theorem sched_len (p : List Nat) : ∀ t, (sched p t).length = t
  | 0 => rfl
  | t + 1 => by rw [sched, List.length_append, sched_len p t]; rfl

/-! A round. -/
structure S8 where
  (a b c d e f g h : Nat)
def bs1 (e : Nat) : Nat := xo (xo (rr e 6) (rr e 11)) (rr e 25)
def bs0 (a : Nat) : Nat := xo (xo (rr a 2) (rr a 13)) (rr a 22)
def rnd (k w : Nat) (s : S8) : S8 :=
  let one := ad (ad (ad (ad s.h (bs1 s.e)) (xo (an s.e s.f) (an (no s.e) s.g))) k) w
  let two := ad (bs0 s.a) (xo (xo (an s.a s.b) (an s.a s.c)) (an s.b s.c))
  ⟨ad one two, s.a, s.b, s.c, ad s.d one, s.e, s.f, s.g⟩
def kTab : List Nat := [0x428a2f98, 0x71374491, 0xb5c0fbcf, 0xe9b5dba5, 0x3956c25b, 0x59f111f1, 0x923f82a4, 0xab1c5ed5,
  0xd807aa98, 0x12835b01, 0x243185be, 0x550c7dc3, 0x72be5d74, 0x80deb1fe, 0x9bdc06a7, 0xc19bf174,
  0xe49b69c1, 0xefbe4786, 0x0fc19dc6, 0x240ca1cc, 0x2de92c6f, 0x4a7484aa, 0x5cb0a9dc, 0x76f988da,
  0x983e5152, 0xa831c66d, 0xb00327c8, 0xbf597fc7, 0xc6e00bf3, 0xd5a79147, 0x06ca6351, 0x14292967,
  0x27b70a85, 0x2e1b2138, 0x4d2c6dfc, 0x53380d13, 0x650a7354, 0x766a0abb, 0x81c2c92e, 0x92722c85,
  0xa2bfe8a1, 0xa81a664b, 0xc24b8b70, 0xc76c51a3, 0xd192e819, 0xd6990624, 0xf40e3585, 0x106aa070,
  0x19a4c116, 0x1e376c08, 0x2748774c, 0x34b0bcb5, 0x391c0cb3, 0x4ed8aa4a, 0x5b9cca4f, 0x682e6ff3,
  0x748f82ee, 0x78a5636f, 0x84c87814, 0x8cc70208, 0x90befffa, 0xa4506ceb, 0xbef9a3f7, 0xc67178f2]
def rnds (w : List Nat) (s : S8) : Nat → S8
  | 0 => s
  | t + 1 => rnd (nth kTab t) (nth w t) (rnds w s t)
def s8 (h : List Nat) : S8 := ⟨nth h 0, nth h 1, nth h 2, nth h 3, nth h 4, nth h 5, nth h 6, nth h 7⟩
def comp (h p : List Nat) : List Nat :=
  let r := rnds (sched p 64) (s8 h) 64
  [ad (nth h 0) r.a, ad (nth h 1) r.b, ad (nth h 2) r.c, ad (nth h 3) r.d, ad (nth h 4) r.e, ad (nth h 5) r.f, ad (nth h 6) r.g, ad (nth h 7) r.h]
def h0 : List Nat := [0x6a09e667, 0xbb67ae85, 0x3c6ef372, 0xa54ff53a, 0x510e527f, 0x9b05688c, 0x1f83d9ab, 0x5be0cd19]
/-- The first n pieces of a text. -/
def pieces (L : List Nat) : Nat → List Nat
  | 0 => h0
  | n + 1 => comp (pieces L n) ((L.drop (64 * n)).take 64)
def byteAt (h : List Nat) (i : Nat) : Nat := (nth h (i / 4) / 2 ^ (24 - 8 * (i % 4))) % 256
def bytesS (h : List Nat) : List Nat := (List.range 32).map (byteAt h)
/-- The text of bytes: a mark, noughts, and how many bits. -/
def gapN (n : Nat) : Nat := (119 - n % 64) % 64
def bits8 (n : Nat) : List Nat := (List.range 8).map fun i => n * 8 % 18446744073709551616 / 2 ^ (56 - 8 * i) % 256
def text (L : List Nat) : List Nat := L ++ 128 :: List.replicate (gapN L.length) 0 ++ bits8 L.length
def shaS (L : List Nat) : List Nat := bytesS (pieces (text L) ((text L).length / 64))
theorem gap_full (n : Nat) : (n + 1 + gapN n + 8) % 64 = 0 := by unfold gapN; omega
end Go.Proofs.YtimjmmiajgfblaaGreatDoor

/- Blocks known whole: arrays of words, of bytes, and a state. No condition. -/
namespace Go.Proofs.YtimjmmiajgfblaaGreatDoor
open Go.RowKit

def u32v (n : Nat) : Value := .int .u32 (n : Int)
def u32s (L : List Nat) : List Value := L.map u32v
theorem u32s_len (L : List Nat) : (u32s L).length = L.length := by simp [u32s]
theorem u32s_get (L : List Nat) (k : Nat) (h : k < L.length) : (u32s L)[k]? = some (.int .u32 (nth L k : Nat)) := by simp [u32s, nth, List.getD, h, u32v]
theorem u32s_one (L : List Nat) : ∀ u ∈ u32s L, u.oneCell' = true := by
  intro u hu
  simp only [u32s, List.mem_map] at hu
  obtain ⟨_, _, rfl⟩ := hu
  rfl
theorem u32s_set (L : List Nat) (k x : Nat) : (u32s L).set k (.int .u32 (x : Int)) = u32s (L.set k x) := by
  simp [u32s, List.map_set, u32v]
theorem vals_set (L : List Nat) (k x : Nat) : (vals L).set k (.int .u8 (x : Int)) = vals (L.set k x) := by
  simp [vals, List.map_set, byteV]
theorem nth_set_same {L : List Nat} {k x : Nat} (h : k < L.length) : nth (L.set k x) k = x := by simp [nth, List.getD, h]
theorem nth_set_ne {L : List Nat} {k j x : Nat} (h : k ≠ j) : nth (L.set k x) j = nth L j := by simp [nth, List.getD, h]

/-- A block whose cells are these. -/
def Ro (w : World) (b : Nat) (T : TypeId) (vs : List Value) : Prop := w.heap[b]? = some (.cells vs.toArray T (0, 0))
section
variable {w w1 : World} {b c k : Nat} {T : TypeId} {vs : List Value}
theorem Ro.lt (h : Ro w b T vs) : b < w.heap.size := (Array.getElem?_eq_some_iff.1 h).1
theorem Ro.cell (h : Ro w b T vs) {v : Value} (hk : vs[k]? = some v) : w.cell? ⟨b, k, none⟩ = some v := by
  unfold Ro at h
  unfold World.cell?
  simp only [h]
  simpa using hk
theorem Ro.free (h : Ro w b T vs) (k : Nat) : w.frozen? ⟨b, k, none⟩ = false := by
  unfold Ro at h
  simp [World.frozen?, h]
theorem Ro.same (h : Ro w b T vs) (e : w1.heap[b]? = w.heap[b]?) : Ro w1 b T vs := e.trans h
theorem Ro.later (h : Ro w b T vs) (g : Below w.heap.size w w1) : Ro w1 b T vs := h.same (g.block b h.lt)
theorem Ro.set (h : Ro w b T vs) (k : Nat) (v : Value) : Ro (w.setCell ⟨b, k, none⟩ v) b T (vs.set k v) := by
  unfold Ro at *
  show (w.heap.modify b _)[b]? = _
  rw [Array.getElem?_modify, if_pos rfl, h]
  simp
theorem Ro.other (h : Ro w b T vs) (hc : b ≠ c) (u : Value) : Ro (w.setCell ⟨c, k, none⟩ u) b T vs := h.same (Below.heap_setCell _ _ _ _ hc)
theorem Ro.new (w : World) (T : TypeId) (vs : List Value) : Ro (w.alloc (.cells vs.toArray T)) w.heap.size T vs := heap_alloc_new w _
theorem Ro.alloc (h : Ro w b T vs) (o : Obj) : Ro (w.alloc o) b T vs := h.later ((Below.refl _ _).alloc (Nat.le_refl _) o)
theorem Ro.far {row : Option Nat} (h : Ro w b T vs) (g : w.grownBy w1 row) (hr : some b ≠ row) : Ro w1 b T vs := h.same (g.block b h.lt hr)
end
theorem Ro.u32 {w : World} {b k : Nat} {T : TypeId} {L : List Nat} (h : Ro w b T (u32s L)) (hk : k < L.length) : w.cell? ⟨b, k, none⟩ = some (.int .u32 (nth L k : Nat)) := h.cell (u32s_get L k hk)
theorem Ro.u8 {w : World} {b k : Nat} {T : TypeId} {L : List Nat} (h : Ro w b T (vals L)) (hk : k < L.length) : w.cell? ⟨b, k, none⟩ = some (.int .u8 (nth L k : Nat)) := h.cell (vals_get L k hk)
theorem Ro.set32 {w : World} {b : Nat} {T : TypeId} {L : List Nat} (h : Ro w b T (u32s L)) (k x : Nat) : Ro (w.setCell ⟨b, k, none⟩ (.int .u32 (x : Int))) b T (u32s (L.set k x)) := by
  rw [← u32s_set]; exact h.set _ _
theorem Ro.set8 {w : World} {b : Nat} {T : TypeId} {L : List Nat} (h : Ro w b T (vals L)) (k x : Nat) : Ro (w.setCell ⟨b, k, none⟩ (.int .u8 (x : Int))) b T (vals (L.set k x)) := by
  rw [← vals_set]; exact h.set _ _
theorem all_one {vs : List Value} (h : ∀ u ∈ vs, u.oneCell' = true) : vs.toArray.all (·.oneCell') = true := by
  rw [Array.all_eq_true_iff_forall_mem]
  intro x hx
  exact h x (by simpa using hx)
theorem grownBy_setRow (w : World) (g : Nat) (cs : Array Value) : w.grownBy (w.setRow g cs) (some g) :=
  ⟨rfl, rfl, rfl, by simp, fun k _ hne => by
    simp only [World.setRow, Array.getElem?_modify]
    rw [if_neg (by intro e; exact hne (by rw [e]))]⟩

theorem Tryz.info34 : (Tryz.prog.info? 125).map (·.size) = some 8 := by kernel_rfl
theorem Tryz.info35 : (Tryz.prog.info? 126).map (·.size) = some 64 := by kernel_rfl
theorem Tryz.info54 : (Tryz.prog.info? 140).map (·.size) = some 64 := by kernel_rfl
theorem Tryz.info26 : (Tryz.prog.info? 25).map (·.size) = some 32 := by kernel_rfl
theorem Tryz.info38 : (Tryz.prog.info? 128).map (·.size) = some 73 := by kernel_rfl
/-- A type of an array or a struct of n cells. -/
structure IsRow (T : TypeId) (n : Nat) : Prop where
  und : (∃ f, Tryz.prog.underlying T = some (.struct f)) ∨ ∃ k e, Tryz.prog.underlying T = some (.array k e)
  info : (Tryz.prog.info? T).map (·.size) = some n
theorem row34 : IsRow 125 8 := ⟨.inr ⟨_, _, Tryz.underlying125⟩, Tryz.info34⟩
theorem row35 : IsRow 126 64 := ⟨.inr ⟨_, _, Tryz.underlying126⟩, Tryz.info35⟩
theorem row54 : IsRow 140 64 := ⟨.inr ⟨_, _, Tryz.underlying140⟩, Tryz.info54⟩
theorem row26 : IsRow 25 32 := ⟨.inr ⟨_, _, Tryz.underlying25⟩, Tryz.info26⟩
theorem row38 : IsRow 128 73 := ⟨.inl ⟨_, Tryz.underlying128⟩, Tryz.info38⟩
section
variable {w : World} {ops : Array Oper} {rest : List Oper} {o : Oper} {a : Act} {Q : Exit → Act → World → Prop} {K : Act → World → Prop} {T S : TypeId} {n b : Nat} {vs zs : List Value}
theorem wp_load_ro (x : Operand) (ho : o.op = .load T x) (hx : a.eval x = .pointer (some ⟨b, 0, none⟩)) (hT : IsRow T n) (hr : Ro w b S vs) (hl : vs.length = n) (h : K (a.put o.dst (.agg vs.toArray)) w) : o.wp Tryz.prog a w K Q := by
  obtain ⟨⟨f, h1⟩ | ⟨k, e, h1⟩, h3⟩ := hT
  · exact wp_load_row T x ho b hx S vs.toArray (0, 0) _ hr h1 rfl (by rw [h3]; simp [hl]) h
  · exact wp_load_row T x ho b hx S vs.toArray (0, 0) _ hr h1 rfl (by rw [h3]; simp [hl]) h
theorem wpList_load_ro (hgd : o.guard = none) (x : Operand) (ho : o.op = .load T x) (hx : a.eval x = .pointer (some ⟨b, 0, none⟩)) (hT : IsRow T n) (hr : Ro w b S vs) (hl : vs.length = n)
    (h : wpList Tryz.prog ops Q rest (a.put o.dst (.agg vs.toArray)) w) : wpList Tryz.prog ops Q (o :: rest) a w :=
  wpList_plain hgd fun _ hK => wp_load_ro x ho hx hT hr hl (hK _ _ h)
theorem wpList_store_ro (hgd : o.guard = none) (x y : Operand) (ho : o.op = .store T x y) (hx : a.eval x = .pointer (some ⟨b, 0, none⟩)) (hy : a.eval y = .agg vs.toArray) (hT : IsRow T n) (hr : Ro w b S zs) (hz : zs.length = n) (hl : vs.length = n) (h1 : ∀ u ∈ vs, u.oneCell' = true)
    (h : ∀ w', Ro w' b S vs → w.grownBy w' (some b) → wpList Tryz.prog ops Q rest (a.put o.dst undef) w') : wpList Tryz.prog ops Q (o :: rest) a w :=
  wpList_store_row hgd T x y ho b vs.toArray hx hy S zs.toArray hr (by rw [hT.info]; simp [hl]) (by simp [hz, hl]) (all_one h1) (h _ (setRow_heap w b _ _ _ _ hr) (grownBy_setRow w b _))
end
theorem results_ro {fn : Func} {p : Tmp} {T S : TypeId} {n : Nat} (h : fn.results = #[.cell p T]) (tmps : Array Value) {w : World} {b : Nat} {vs : List Value} (hp : tmps.getD p undef = .pointer (some ⟨b, 0, none⟩)) (hT : IsRow T n) (hr : Ro w b S vs) (hl : vs.length = n) :
    (results fn tmps).run Tryz.prog w = .ok (.agg vs.toArray) w := by
  obtain ⟨⟨f, h1⟩ | ⟨k, e, h1⟩, h3⟩ := hT
  · exact results_cell_row h tmps w b S vs.toArray (0, 0) _ hp hr h1 rfl (by rw [h3]; simp [hl])
  · exact results_cell_row h tmps w b S vs.toArray (0, 0) _ hp hr h1 rfl (by rw [h3]; simp [hl])

theorem right_any (x : Nat) (n : Nat) (h1 : 1 ≤ n) (h2 : n ≤ 31) (w : World) : Calls Tryz.prog 97 #[.int .u32 (x : Nat), .int .u64 (n : Nat)] w fun e w' => e = .returned (.int .u32 (rr x n : Nat)) ∧ w = w' := by
  have H : Hid (bits .or .u32 ((x : Int) / 2 ^ n) ((x : Int) * 2 ^ (32 - n) % 4294967296) = ((rr x n : Nat) : Int)) := Lib.hid (by
    have h := bits_og (x / 2 ^ n) (x * 2 ^ (32 - n) % 4294967296)
    rw [show ((x : Int) / 2 ^ n) = ((x / 2 ^ n : Nat) : Int) by rw [Int.natCast_ediv, Int.natCast_pow]; rfl, show ((x : Int) * 2 ^ (32 - n) % 4294967296) = ((x * 2 ^ (32 - n) % 4294967296 : Nat) : Int) by rw [Int.natCast_emod, Int.natCast_mul, Int.natCast_pow]; rfl]
    exact h)
  go_enter Tryz.func97, Tryz.ntmps97
  go_wp2_with fail
  go_ret
  exact ⟨ret_int H.out, rfl⟩
set_option maxRecDepth 100000 in
theorem rot_any (x : Nat) (k : Int) (n : Nat) (h1 : 1 ≤ n) (h2 : n ≤ 31) (hk : bits .and .u64 (IntKind.u64.wrap k) 31 = ((32 - n : Nat) : Int)) (w : World) : Calls Tryz.prog 115 #[.int .u32 (x : Nat), .int .i64 k] w fun e w' => e = .returned (.int .u32 (rr x n : Nat)) ∧ w = w' := by
  obtain ⟨m, hm⟩ : ∃ m, 32 - n = m := ⟨_, rfl⟩
  rw [hm] at hk
  have m1 : 1 ≤ m := by omega
  have m2 : m ≤ 31 := by omega
  obtain rfl : n = 32 - m := by omega
  have H : Hid (bits .or .u32 ((x : Int) * 2 ^ m % 4294967296) ((x : Int) / 2 ^ (32 - m)) = ((rr x (32 - m) : Nat) : Int)) := Lib.hid (by
    have h := bits_og (x * 2 ^ m % 4294967296) (x / 2 ^ (32 - m))
    rw [show ((x : Int) / 2 ^ (32 - m)) = ((x / 2 ^ (32 - m) : Nat) : Int) by rw [Int.natCast_ediv, Int.natCast_pow]; rfl, show ((x : Int) * 2 ^ m % 4294967296) = ((x * 2 ^ m % 4294967296 : Nat) : Int) by rw [Int.natCast_emod, Int.natCast_mul, Int.natCast_pow]; rfl, h, og_comm]
    unfold rr
    rw [show 32 - (32 - m) = m by omega])
  clear hm h1 h2
  go_enter Tryz.func115, Tryz.ntmps115
  go_wp2_with fail
  go_ret
  exact ⟨ret_int H.out, rfl⟩
end Go.Proofs.YtimjmmiajgfblaaGreatDoor

/- Headers as numbers, cells and bytes. No condition. -/
namespace Go.Proofs.YtimjmmiajgfblaaGreatDoor
open Go.RowKit

structure Hd where
  v : Nat
  p : List Nat
  r : List Nat
  t : Nat
  b : Nat
  n : Nat
structure Hd.Ok (h : Hd) : Prop where
  v : h.v < 4294967296
  p : h.p.length = 32
  r : h.r.length = 32
  t : h.t < 4294967296
  b : h.b < 4294967296
  n : h.n < 4294967296
  pb : AllB h.p
  rb : AllB h.r
theorem Hd.ext' {a b : Hd} (h1 : a.v = b.v) (h2 : a.p = b.p) (h3 : a.r = b.r) (h4 : a.t = b.t) (h5 : a.b = b.b) (h6 : a.n = b.n) : a = b := by
  cases a; cases b; simp_all
instance : DecidableEq Hd := fun a b =>
  if h : a.v = b.v ∧ a.p = b.p ∧ a.r = b.r ∧ a.t = b.t ∧ a.b = b.b ∧ a.n = b.n then isTrue (Hd.ext' h.1 h.2.1 h.2.2.1 h.2.2.2.1 h.2.2.2.2.1 h.2.2.2.2.2)
  else isFalse (fun e => h (by subst e; exact ⟨rfl, rfl, rfl, rfl, rfl, rfl⟩))
def hdV (h : Hd) : List Value := u32v h.v :: (vals h.p ++ (vals h.r ++ [u32v h.t, u32v h.b, u32v h.n]))
theorem hdV_len {h : Hd} (k : h.Ok) : (hdV h).length = 68 := by simp [hdV, vals_length, k.p, k.r]
theorem hdV_one (h : Hd) : ∀ u ∈ hdV h, u.oneCell' = true := by
  intro u hu
  unfold hdV at hu
  rcases List.mem_cons.1 hu with rfl | hu
  · rfl
  rcases List.mem_append.1 hu with hu | hu
  · exact vals_one _ _ hu
  rcases List.mem_append.1 hu with hu | hu
  · exact vals_one _ _ hu
  · simp at hu
    rcases hu with rfl | rfl | rfl <;> rfl
def le4 (x : Nat) : List Nat := [x % 256, x / 256 % 256, x / 65536 % 256, x / 16777216 % 256]
theorem le4_len (x : Nat) : (le4 x).length = 4 := rfl
theorem le4_byt (x : Nat) : AllB (le4 x) := fun y hy => by
  simp [le4] at hy
  omega
theorem le4_nth (x : Nat) : ∀ j, j < 4 → nth (le4 x) j = x / 256 ^ j % 256
  | 0, _ => by simp [le4, nth]
  | 1, _ => by simp [le4, nth]
  | 2, _ => by simp [le4, nth]
  | 3, _ => by simp [le4, nth]
  | n + 4, h => by omega
def hdB (h : Hd) : List Nat := le4 h.v ++ (h.p ++ (h.r ++ (le4 h.t ++ (le4 h.b ++ le4 h.n))))
theorem hdB_len {h : Hd} (k : h.Ok) : (hdB h).length = 80 := by simp [hdB, le4_len, k.p, k.r]
theorem hdB_byt {h : Hd} (k : h.Ok) : AllB (hdB h) := (le4_byt _).app (k.pb.app (k.rb.app ((le4_byt _).app ((le4_byt _).app (le4_byt _)))))
def num4 (L : List Nat) (k : Nat) : Nat := nth L k + nth L (k + 1) * 256 + nth L (k + 2) * 65536 + nth L (k + 3) * 16777216
theorem num4_lt {L : List Nat} (h : AllB L) (k : Nat) : num4 L k < 4294967296 := by
  have h0 := nth_lt h k
  have h1 := nth_lt h (k + 1)
  have h2 := nth_lt h (k + 2)
  have h3 := nth_lt h (k + 3)
  unfold num4
  omega
def cut32 (L : List Nat) (k : Nat) : List Nat := (L.drop k).take 32
def getH (L : List Nat) : Hd := ⟨num4 L 0, cut32 L 4, cut32 L 36, num4 L 68, num4 L 72, num4 L 76⟩
theorem cut32_byt {L : List Nat} (h : AllB L) (k : Nat) : AllB (cut32 L k) := fun x hx => h x (List.mem_of_mem_drop (List.mem_of_mem_take hx))
theorem getH_ok {L : List Nat} (h : AllB L) (hl : L.length = 80) : (getH L).Ok :=
  ⟨num4_lt h _, by simp [getH, cut32, hl], by simp [getH, cut32, hl], num4_lt h _, num4_lt h _, num4_lt h _, cut32_byt h _, cut32_byt h _⟩
def zeroH : Hd := ⟨0, List.replicate 32 0, List.replicate 32 0, 0, 0, 0⟩
theorem zeroH_ok : zeroH.Ok := ⟨by decide, by decide, by decide, by decide, by decide, by decide, fun x hx => by rw [List.eq_of_mem_replicate hx]; decide, fun x hx => by rw [List.eq_of_mem_replicate hx]; decide⟩
theorem num4_at {A B : List Nat} {k x : Nat} (hk : A.length = k) (hx : x < 4294967296) : num4 (A ++ (le4 x ++ B)) k = x := by
  subst hk
  unfold num4
  have e : ∀ j, j < 4 → nth (A ++ (le4 x ++ B)) (A.length + j) = nth (le4 x) j := fun j hj => by rw [nth_right, nth_left (by rw [le4_len]; exact hj)]
  have e0 := e 0 (by omega)
  rw [Nat.add_zero] at e0
  rw [e0, e 1 (by omega), e 2 (by omega), e 3 (by omega)]
  simp [le4, nth]
  omega
theorem cut32_at {A B C : List Nat} {k : Nat} (hk : A.length = k) (hB : B.length = 32) : cut32 (A ++ (B ++ C)) k = B := by
  subst hk
  unfold cut32
  rw [List.drop_left, ← hB, List.take_left]
/-- What was put is got. -/
theorem getH_hdB {h : Hd} (k : h.Ok) : getH (hdB h) = h := by
  have kp := k.p
  have kr := k.r
  refine Hd.ext' ?_ ?_ ?_ ?_ ?_ ?_
  · exact num4_at (A := []) rfl k.v
  · exact cut32_at (A := le4 h.v) rfl k.p
  · show cut32 (le4 h.v ++ (h.p ++ (h.r ++ _))) 36 = _
    rw [← List.append_assoc]
    exact cut32_at (by simp [le4_len, kp]) k.r
  · show num4 (le4 h.v ++ (h.p ++ (h.r ++ (le4 h.t ++ _)))) 68 = _
    rw [← List.append_assoc, ← List.append_assoc]
    exact num4_at (by simp [le4_len, kp, kr]) k.t
  · show num4 (le4 h.v ++ (h.p ++ (h.r ++ (le4 h.t ++ (le4 h.b ++ _))))) 72 = _
    rw [← List.append_assoc, ← List.append_assoc, ← List.append_assoc]
    exact num4_at (by simp [le4_len, kp, kr]) k.b
  · show num4 (le4 h.v ++ (h.p ++ (h.r ++ (le4 h.t ++ (le4 h.b ++ le4 h.n))))) 76 = _
    rw [← List.append_assoc, ← List.append_assoc, ← List.append_assoc, ← List.append_assoc]
    have := num4_at (A := le4 h.v ++ h.p ++ h.r ++ le4 h.t ++ le4 h.b) (B := []) (k := 76) (by simp [le4_len, kp, kr]) k.n
    rwa [List.append_nil] at this
theorem le4_num4 {L : List Nat} (h : AllB L) (k : Nat) : le4 (num4 L k) = [nth L k, nth L (k + 1), nth L (k + 2), nth L (k + 3)] := by
  have h0 := nth_lt h k
  have h1 := nth_lt h (k + 1)
  have h2 := nth_lt h (k + 2)
  have h3 := nth_lt h (k + 3)
  unfold le4 num4
  congr 1
  · omega
  congr 1
  · omega
  congr 1
  · omega
  congr 1
  omega
theorem nth_drop (L : List Nat) (k j : Nat) : nth (L.drop k) j = nth L (k + j) := by simp [nth, List.getD]
theorem nth_take {L : List Nat} {k j : Nat} (h : j < k) : nth (L.take k) j = nth L j := by simp [nth, List.getD, h]
theorem le4_take {L : List Nat} (h : AllB L) (k : Nat) (hk : k + 4 ≤ L.length) : le4 (num4 L k) = (L.drop k).take 4 := by
  rw [le4_num4 h]
  refine nth_ext (by simp; omega) ?_
  intro j hj
  simp at hj
  rw [nth_take (by omega), nth_drop]
  rcases (by omega : j = 0 ∨ j = 1 ∨ j = 2 ∨ j = 3) with rfl | rfl | rfl | rfl <;> simp [nth]
theorem take_drop_app {α : Type} (L : List α) (i a b : Nat) : (L.drop i).take a ++ (L.drop (i + a)).take b = (L.drop i).take (a + b) := by
  rw [← List.drop_drop, List.take_add]
/-- What is got is put as it stood. -/
theorem hdB_getH {L : List Nat} (h : AllB L) (hl : L.length = 80) : hdB (getH L) = L := by
  unfold hdB getH
  simp only
  rw [le4_take h 0 (by omega), le4_take h 68 (by omega), le4_take h 72 (by omega), le4_take h 76 (by omega)]
  unfold cut32
  rw [take_drop_app L 72 4 4, take_drop_app L 68 4 8, take_drop_app L 36 32 12, take_drop_app L 4 32 44, take_drop_app L 0 4 76]
  simp [List.take_of_length_le, hl]
theorem hdB_inj {h g : Hd} (k : h.Ok) (l : g.Ok) (e : hdB h = hdB g) : h = g := by rw [← getH_hdB k, e, getH_hdB l]
theorem hdV_inj {h g : Hd} (k : h.Ok) (l : g.Ok) (e : hdV h = hdV g) : h = g := by
  have inj : ∀ {a b : List Nat}, vals a = vals b → a = b := fun {a b} e => by
    unfold vals at e
    refine List.map_inj_right (f := byteV) ?_ |>.1 e
    intro x y hxy
    simp [byteV] at hxy
    omega
  unfold hdV at e
  simp only [List.cons.injEq] at e
  obtain ⟨e0, e1⟩ := e
  have e2 := List.append_inj e1 (by simp [vals_length, k.p, l.p])
  have e3 := List.append_inj e2.2 (by simp [vals_length, k.r, l.r])
  have e4 := e3.2
  simp [u32v] at e0 e4
  exact Hd.ext' (by omega) (inj e2.1) (inj e3.1) (by omega) (by omega) (by omega)
end Go.Proofs.YtimjmmiajgfblaaGreatDoor

/- The schedule of a piece, as the code builds it. No condition but that the piece is 64 bytes. -/
namespace Go.Proofs.YtimjmmiajgfblaaGreatDoor
open Go.RowKit

/-- The words so far, the rest noughts. -/
def upW (W : List Nat) (n : Nat) : List Nat := W ++ List.replicate (n - W.length) 0
theorem upW_len {W : List Nat} {n : Nat} (h : W.length ≤ n) : (upW W n).length = n := by simp [upW]; omega
theorem upW_get {W : List Nat} {n k : Nat} (h : k < W.length) : nth (upW W n) k = nth W k := nth_left h
theorem upW_set {W : List Nat} {n : Nat} (x : Nat) (h : W.length < n) : (upW W n).set W.length x = upW (W ++ [x]) n := by
  unfold upW
  rw [List.set_append_right _ _ (Nat.le_refl _), Nat.sub_self, List.length_append, List.length_singleton, List.append_assoc]
  congr 1
  rw [show n - W.length = (n - (W.length + 1)) + 1 by omega, List.replicate_succ]
  rfl
theorem upW_full {W : List Nat} {n : Nat} (h : W.length = n) : upW W n = W := by unfold upW; rw [h]; simp

structure SpA (w : World) (p : List Nat) (t : Nat) (wr : World) : Prop where
  src : Ro wr w.heap.size 126 (vals p)
  res : Ro wr (w.heap.size + 1) 140 (u32s (List.replicate 64 0))
  out : Ro wr (w.heap.size + 2) 140 (u32s (upW (sched p t) 64))
  bel : Below w.heap.size w wr
theorem SpA.step {w : World} {p : List Nat} {t x : Nat} {wr : World} (h : SpA w p t wr) (ht : t < 64) (hx : x = if t < 16 then word p t else wnext (sched p t) t) : SpA w p (t + 1) (wr.setCell ⟨w.heap.size + 2, t, none⟩ (.int .u32 (x : Int))) := by
  refine ⟨h.src.other (by omega) _, h.res.other (by omega) _, ?_, h.bel.setCell (by simp) _⟩
  have h1 := h.out.set32 t x
  have h2 := upW_set (W := sched p t) (n := 64) x (by rw [sched_len]; exact ht)
  rw [sched_len] at h2
  rw [h2, hx] at h1
  rw [hx]
  exact h1
theorem SpA.drew {w : World} {p : List Nat} {t : Nat} {wr : World} (h : SpA w p t wr) : SpA w p t wr.drew := ⟨h.src.later (Below.refl _ _).drew, h.res.later (Below.refl _ _).drew, h.out.later (Below.refl _ _).drew, h.bel.drew⟩

theorem word_bits {x0 x1 x2 x3 : Nat} (b0 : x0 < 256) (b1 : x1 < 256) (b2 : x2 < 256) :
    bits .or .u32 (bits .or .u32 (bits .or .u32 ((x0 : Int) * 16777216) ((x1 : Int) * 65536)) ((x2 : Int) * 256)) (x3 : Int) = ((og (og (og (sl x0 24) (sl x1 16)) (sl x2 8)) x3 : Nat) : Int) := by
  rw [show (x0 : Int) * 16777216 = ((sl x0 24 : Nat) : Int) by unfold sl; omega, show (x1 : Int) * 65536 = ((sl x1 16 : Nat) : Int) by unfold sl; omega, show (x2 : Int) * 256 = ((sl x2 8 : Nat) : Int) by unfold sl; omega, bits_og, bits_og, bits_og]
theorem next_bits (x2 x7 x15 x16 : Nat) : (bits .xor .u32 (bits .xor .u32 ((rr x2 17 : Nat) : Int) ((rr x2 19 : Nat) : Int)) ((x2 : Int) / 1024) + (x7 : Int) + bits .xor .u32 (bits .xor .u32 ((rr x15 7 : Nat) : Int) ((rr x15 18 : Nat) : Int)) ((x15 : Int) / 8) + (x16 : Int)) % 4294967296
    = ((ad (ad (ad (sg1 x2) x7) (sg0 x15)) x16 : Nat) : Int) := by
  rw [show (x2 : Int) / 1024 = ((sh x2 10 : Nat) : Int) by unfold sh; omega, show (x15 : Int) / 8 = ((sh x15 3 : Nat) : Int) by unfold sh; omega, bits_xo, bits_xo, bits_xo, bits_xo]
  unfold ad sg1 sg0
  omega
theorem SpA.get {w : World} {p : List Nat} {t k : Nat} {wr : World} (h : SpA w p t wr) (ht : t ≤ 64) (hk : k < t) : wr.cell? ⟨w.heap.size + 2, k, none⟩ = some (.int .u32 (nth (sched p t) k : Nat)) := by
  have := h.out.u32 (k := k) (by rw [upW_len (by rw [sched_len]; omega)]; omega)
  rwa [upW_get (by rw [sched_len]; omega)] at this
theorem SpA.start (w : World) (p : List Nat) : SpA w p 0 (((w.alloc (.cells (vals p).toArray 126)).alloc (.cells (u32s (List.replicate 64 0)).toArray 140)).alloc (.cells (u32s (List.replicate 64 0)).toArray 140)) := by
  refine ⟨((Ro.new w _ _).alloc _).alloc _, ?_, ?_, (((Below.refl _ _).alloc (Nat.le_refl _) _).alloc (by simp) _).alloc (by simp; omega) _⟩
  · have := (Ro.new (w.alloc (.cells (vals p).toArray 126)) 140 (u32s (List.replicate 64 0))).alloc (.cells (u32s (List.replicate 64 0)).toArray 140)
    rwa [World.size_alloc] at this
  · have := Ro.new ((w.alloc (.cells (vals p).toArray 126)).alloc (.cells (u32s (List.replicate 64 0)).toArray 140)) 140 (u32s (List.replicate 64 0))
    rw [World.size_alloc, World.size_alloc] at this
    exact this

set_option maxRecDepth 100000 in
set_option maxHeartbeats 4000000 in
theorem spread_any {p : List Nat} (hp : p.length = 64) (hb : AllB p) (w : World) : Calls Tryz.prog 114 #[.agg (vals p).toArray] w fun e w' => e = .returned (.agg (u32s (sched p 64)).toArray) ∧ Below w.heap.size w w' := by
  have HP := Lib.hid hp
  have HB := Lib.hid hb
  clear hp hb
  go_enter Tryz.func114, Tryz.ntmps114
  go_wp2_with fail
  go_loopw [10] (fun i wr => ∃ t : Nat, t ≤ 16 ∧ i = .int .i64 (t : Nat) ∧ SpA w p t wr) (fun i _ => 16 - (intOf i).toNat)
  case atStart => exact ⟨0, by omega, rfl, SpA.start w p⟩
  case round =>
    obtain ⟨t, ht, rfl, S⟩ := hrel
    by_cases hlt : t < 16
    · have t1 : decide ((t : Int) < 16) = true := decide_eq_true (by omega)
      have l0 := S.src.u8 (k := 4 * t) (by rw [HP.out]; omega)
      have l1 := S.src.u8 (k := 4 * t + 1) (by rw [HP.out]; omega)
      have l2 := S.src.u8 (k := 4 * t + 2) (by rw [HP.out]; omega)
      have l3 := S.src.u8 (k := 4 * t + 3) (by rw [HP.out]; omega)
      have b0 := nth_lt HB.out (4 * t)
      have b1 := nth_lt HB.out (4 * t + 1)
      have b2 := nth_lt HB.out (4 * t + 2)
      have b3 := nth_lt HB.out (4 * t + 3)
      obtain ⟨x0, hx0⟩ : ∃ x, nth p (4 * t) = x := ⟨_, rfl⟩
      obtain ⟨x1, hx1⟩ : ∃ x, nth p (4 * t + 1) = x := ⟨_, rfl⟩
      obtain ⟨x2, hx2⟩ : ∃ x, nth p (4 * t + 2) = x := ⟨_, rfl⟩
      obtain ⟨x3, hx3⟩ : ∃ x, nth p (4 * t + 3) = x := ⟨_, rfl⟩
      rw [hx0] at l0 b0
      rw [hx1] at l1 b1
      rw [hx2] at l2 b2
      rw [hx3] at l3 b3
      have hc := S.out.u32 (k := t) (by rw [upW_len (by rw [sched_len]; omega)]; omega)
      have hf := S.out.free t
      have hw : word p t = og (og (og (sl x0 24) (sl x1 16)) (sl x2 8)) x3 := by unfold word; rw [hx0, hx1, hx2, hx3]
      have HW := Lib.hid hw
      have HS := Lib.hid S
      clear hw hx0 hx1 hx2 hx3 S
      go_wp2_with fail
      go_region
      go_wp2_with fail
      have E := word_bits (x3 := x3) b0 b1 b2
      rw [E, ← HW.out]
      refine ⟨⟨t + 1, by omega, by go_num, (HS.out.step (by omega) (by rw [if_pos hlt])).drew⟩, by simp [intOf]; omega⟩
    · obtain rfl : t = 16 := by omega
      rw [show ((16 : Nat) : Int) = 16 from rfl]
      have HS := Lib.hid S
      clear S
      go_wp2_with fail
      go_loopw [5] (fun i wr => ∃ t : Nat, 16 ≤ t ∧ t ≤ 64 ∧ i = .int .i64 (t : Nat) ∧ SpA w p t wr) (fun i _ => 64 - (intOf i).toNat)
      case atStart => exact ⟨16, by omega, by omega, rfl, HS.out⟩
      case round =>
        obtain ⟨t, h16, ht, rfl, S⟩ := hrel
        by_cases hlt : t < 64
        · have t1 : decide ((t : Int) < 64) = true := decide_eq_true (by omega)
          have l15 := S.get ht (k := t - 15) (by omega)
          have l2 := S.get ht (k := t - 2) (by omega)
          have l7 := S.get ht (k := t - 7) (by omega)
          have l16 := S.get ht (k := t - 16) (by omega)
          have hc := S.out.u32 (k := t) (by rw [upW_len (by rw [sched_len]; omega)]; omega)
          have hf := S.out.free t
          have e15 : (t : Int) - 15 = ((t - 15 : Nat) : Int) := by omega
          have e2 : (t : Int) - 2 = ((t - 2 : Nat) : Int) := by omega
          have e7 : (t : Int) - 7 = ((t - 7 : Nat) : Int) := by omega
          have e16 : (t : Int) - 16 = ((t - 16 : Nat) : Int) := by omega
          obtain ⟨x15, hx15⟩ : ∃ x, nth (sched p t) (t - 15) = x := ⟨_, rfl⟩
          obtain ⟨x2, hx2⟩ : ∃ x, nth (sched p t) (t - 2) = x := ⟨_, rfl⟩
          obtain ⟨x7, hx7⟩ : ∃ x, nth (sched p t) (t - 7) = x := ⟨_, rfl⟩
          obtain ⟨x16, hx16⟩ : ∃ x, nth (sched p t) (t - 16) = x := ⟨_, rfl⟩
          rw [hx15] at l15
          rw [hx2] at l2
          rw [hx7] at l7
          rw [hx16] at l16
          have hw : wnext (sched p t) t = ad (ad (ad (sg1 x2) x7) (sg0 x15)) x16 := by unfold wnext; rw [hx15, hx2, hx7, hx16]
          obtain ⟨j15, hj15⟩ : ∃ j, t - 15 = j := ⟨_, rfl⟩
          obtain ⟨j2, hj2⟩ : ∃ j, t - 2 = j := ⟨_, rfl⟩
          obtain ⟨j7, hj7⟩ : ∃ j, t - 7 = j := ⟨_, rfl⟩
          obtain ⟨j16, hj16⟩ : ∃ j, t - 16 = j := ⟨_, rfl⟩
          rw [hj15] at l15 e15
          rw [hj2] at l2 e2
          rw [hj7] at l7 e7
          rw [hj16] at l16 e16
          have n15 : j15 < t := by omega
          have n2 : j2 < t := by omega
          have n7 : j7 < t := by omega
          have n16 : j16 < t := by omega
          have HW := Lib.hid hw
          have HS2 := Lib.hid S
          clear hw hx15 hx2 hx7 hx16 hj15 hj2 hj7 hj16 S
          go_wp2_with fail
          go_region
          go_wp2_with fail
          refine (rot_any _ _ 7 (by decide) (by decide) (by kernel_rfl) _).mono ?_
          rintro e wa ⟨rfl, rfl⟩
          go_wp2_with fail
          refine (rot_any _ _ 18 (by decide) (by decide) (by kernel_rfl) _).mono ?_
          rintro e wa ⟨rfl, rfl⟩
          go_wp2_with fail
          refine (rot_any _ _ 17 (by decide) (by decide) (by kernel_rfl) _).mono ?_
          rintro e wa ⟨rfl, rfl⟩
          go_wp2_with fail
          refine (rot_any _ _ 19 (by decide) (by decide) (by kernel_rfl) _).mono ?_
          rintro e wa ⟨rfl, rfl⟩
          go_wp2_with fail
          go_region
          go_wp2_with fail
          rw [next_bits x2 x7 x15 x16, ← HW.out]
          refine ⟨⟨t + 1, by omega, by omega, by go_num, ((HS2.out.drew).step hlt (by rw [if_neg (by omega)])).drew⟩, by simp [intOf]; omega⟩
        · obtain rfl : t = 64 := by omega
          have o1 := S.out
          rw [upW_full (sched_len p 64)] at o1
          have O1 := Lib.hid o1
          have HS2 := Lib.hid S
          clear o1 S
          go_wp2_with (first | (refine wpList_load_ro rfl (.tmp 3) rfl rfl row54 O1.out (by rw [u32s_len, sched_len]) ?_) | (refine wpList_store_ro rfl (.tmp 2) (.tmp 88) rfl rfl rfl row54 HS2.out.res (by simp [u32s]) (by rw [u32s_len, sched_len]) (u32s_one _) ?_; intro w' h1 h2; have H1 := Lib.hid h1; have H2 := Lib.hid h2; clear h1 h2))
          exact bodyPost_ret (results_ro Tryz.results114 _ rfl row54 H1.out (by rw [u32s_len, sched_len])) rfl ⟨rfl, HS2.out.bel.grown H2.out HS2.out.bel.size (fun q e => by cases e; omega)⟩
end Go.Proofs.YtimjmmiajgfblaaGreatDoor

/- Lists of words of 32 bits in memory, as XB has them for bytes. No condition. -/
namespace Go.Proofs.YtimjmmiajgfblaaGreatDoor
open Go.RowKit

theorem Tryz.infoWord : (Tryz.prog.info? 22).map (fun i => (i.zero, i.size, i.bytes)) = some (some (.int .u32 0), 1, 4) := by kernel_rfl
def AllW (_ : List Nat) : Prop := True
theorem AllW.app {L M : List Nat} (_ : AllW L) (_ : AllW M) : AllW (L ++ M) := trivial
theorem AllW.left {L M : List Nat} (_ : AllW (L ++ M)) : AllW L := trivial
theorem allW_nil : AllW [] := trivial
theorem allW_one {x : Nat} (_ : x < 4294967296) : AllW [x] := trivial
theorem u32s_append (L M : List Nat) : u32s (L ++ M) = u32s L ++ u32s M := by simp [u32s]
theorem u32s_get? {L : List Nat} {k : Nat} {u : Value} (h : (u32s L)[k]? = some u) : k < L.length ∧ u = .int .u32 (nth L k : Nat) := by
  have hk : k < L.length := by have := (List.getElem?_eq_some_iff.1 h).1; rwa [u32s_len] at this
  rw [u32s_get L k hk] at h
  exact ⟨hk, (Option.some.inj h).symm⟩

/-- A slice at A of n elements reads as the bytes L. -/
structure Ws (w : World) (A : Option Addr) (n : Nat) (L : List Nat) : Prop where
  len : L.length = n
  byt : AllW L
  cel : 0 < n → ∃ a, A = some a ∧ a.block < w.heap.size ∧ ∀ k, k < n → w.cell? (a.add k) = some (.int .u32 (nth L k : Nat))
theorem Ws.nil (w : World) (A : Option Addr) : Ws w A 0 [] := ⟨rfl, allW_nil, fun h => absurd h (by omega)⟩
theorem Ws.later {w w1 : World} {A : Option Addr} {n : Nat} {L : List Nat} (h : Ws w A n L) (g : Below w.heap.size w w1) : Ws w1 A n L :=
  ⟨h.len, h.byt, fun hn => by
    obtain ⟨a, e, hb, hc⟩ := h.cel hn
    exact ⟨a, e, Nat.lt_of_lt_of_le hb g.size, fun k hk => by rw [← hc k hk]; exact g.cell (by rw [add_block]; exact hb)⟩⟩
theorem Ws.far {w w1 : World} {A : Option Addr} {n : Nat} {L : List Nat} {row : Option Nat} (h : Ws w A n L) (g : w.grownBy w1 row) (hr : ∀ a, A = some a → some a.block ≠ row) : Ws w1 A n L :=
  ⟨h.len, h.byt, fun hn => by
    obtain ⟨a, e, hb, hc⟩ := h.cel hn
    exact ⟨a, e, Nat.lt_of_lt_of_le hb g.size, fun k hk => g.cell (hc k hk) (by rw [add_block]; exact hr a e)⟩⟩
theorem Ws.cells {w : World} {a : Addr} {n : Nat} {L : List Nat} (h : Ws w (some a) n L) : ∀ j u, (u32s L)[j]? = some u → w.cell? (a.add j) = some u := by
  intro j u hu
  obtain ⟨hj, rfl⟩ := u32s_get? hu
  have hl := h.len
  obtain ⟨b, e, _, hc⟩ := h.cel (by omega)
  injection e with e
  subst e
  exact hc j (by omega)
/-- A part of a slice, from k on, m long, as the walk spells its address. -/
theorem Ws.cut {w : World} {A : Option Addr} {n c : Nat} {L : List Nat} (h : Ws w A n L) {k m : Nat} (hk : k + m ≤ n) (hc : n ≤ c) :
    Ws w (if c = k then A else A.map (·.add k)) m ((L.drop k).take m) := by
  have hl := h.len
  refine ⟨by simp; omega, trivial, fun hm => ?_⟩
  obtain ⟨a, rfl, hb, hcel⟩ := h.cel (by omega)
  rw [if_neg (by omega)]
  refine ⟨a.add k, rfl, by rw [add_block]; exact hb, fun j hj => ?_⟩
  rw [add_add', hcel (k + j) (by omega)]
  have : nth ((L.drop k).take m) j = nth L (k + j) := by
    simp [nth, List.getD, hj]
  rw [this]
theorem Ws.head {w : World} {A : Option Addr} {n : Nat} {L M : List Nat} (h : Ws w A n (L ++ M)) {m : Nat} (hm : L.length = m) : Ws w A m L := by
  have hl := h.len
  rw [List.length_append] at hl
  refine ⟨hm, h.byt.left, fun hp => ?_⟩
  obtain ⟨a, e, hb, hc⟩ := h.cel (by omega)
  exact ⟨a, e, hb, fun k hk => by rw [hc k (by omega), nth_left (by omega)]⟩

/-- v is a row of the call's own that reads as L; of what lay in w0 nothing has turned. -/
structure Wn (w0 : World) (v : Value) (n : Nat) (L : List Nat) (wr : World) : Prop where
  row : wr.ownsRow w0.heap.size 22 1 v n (u32s L)
  byt : AllW L
  bel : Below w0.heap.size w0 wr
theorem Wn.len {w0 wr : World} {v : Value} {n : Nat} {L : List Nat} (h : Wn w0 v n L wr) : L.length = n := by
  have := h.row.1
  rw [u32s_len] at this; omega
theorem Wn.later {w0 wr w1 : World} {v : Value} {n : Nat} {L : List Nat} (h : Wn w0 v n L wr) (g : Below wr.heap.size wr w1) : Wn w0 v n L w1 :=
  ⟨ownsRow_later h.row g, h.byt, h.bel.trans (g.mono h.bel.size)⟩
theorem Wn.size {w0 wr : World} {v : Value} {n : Nat} {L : List Nat} (h : Wn w0 v n L wr) : w0.heap.size ≤ wr.heap.size := h.bel.size
theorem Wn.reads {w0 wr : World} {A : Option Addr} {n c : Nat} {L : List Nat} (h : Wn w0 (.slice A n c) n L wr) : Ws wr A n L := by
  have hl := h.len
  refine ⟨hl, h.byt, fun hn => ?_⟩
  obtain ⟨g, cap, hv, _, hlt⟩ := h.row.form hn
  have hA : A = some ⟨g, 0, none⟩ := by injection hv
  subst hA
  exact ⟨_, rfl, hlt, fun k hk => h.row.cells (g := g) rfl k _ (u32s_get L k (by omega))⟩
theorem Wn.shape {w0 wr : World} {v : Value} {n : Nat} {L : List Nat} (h : Wn w0 v n L wr) : ∃ A c, v = .slice A n c ∧ n ≤ c := by
  rcases h.row.2 with ⟨rfl, rfl⟩ | ⟨g, cap, cur, rfl, _, _, hc, _⟩
  · exact ⟨none, 0, rfl, Nat.le_refl _⟩
  · exact ⟨_, _, rfl, hc⟩
/-- The row's block is none of what lay in w0. -/
theorem Wn.new {w0 wr : World} {v : Value} {n : Nat} {L : List Nat} (h : Wn w0 v n L wr) : ∀ k, v.ownBlock = some k → w0.heap.size ≤ k ∧ k < wr.heap.size := h.row.lt
theorem Wn.grown {w0 wr w1 : World} {v v' : Value} {n m : Nat} {L M : List Nat} (h : Wn w0 v n L wr) (hM : AllW M) (hown : w1.ownsRow w0.heap.size 22 1 v' (n + m) (u32s L ++ u32s M)) (hg : wr.grownBy w1 v.ownBlock) : Wn w0 v' (n + m) (L ++ M) w1 :=
  ⟨by rw [u32s_append]; exact hown, h.byt.app hM, h.bel.grown hg h.bel.size (fun k hk => (h.new k hk).1)⟩
theorem Wn.weaken {w0 w2 wr : World} {v : Value} {n : Nat} {L : List Nat} (h : Wn w2 v n L wr) (b : Below w0.heap.size w0 w2) : Wn w0 v n L wr :=
  ⟨by
    obtain ⟨h1, h2⟩ := h.row
    refine ⟨h1, ?_⟩
    rcases h2 with h2 | ⟨g, cap, cur, hv, hb, hh, r⟩
    · exact Or.inl h2
    · exact Or.inr ⟨g, cap, cur, hv, Nat.le_trans b.size hb, hh, r⟩, h.byt, b.trans (h.bel.mono b.size)⟩

/-- A list of a literal. -/
theorem Ws.lit (w : World) (L : List Nat) (h : AllW L) : Ws (w.alloc (.cells (u32s L).toArray 22)) (some ⟨w.heap.size, 0, none⟩) L.length L := by
  refine ⟨rfl, h, fun _ => ⟨_, rfl, by simp, fun k hk => ?_⟩⟩
  have e : (⟨w.heap.size, 0, none⟩ : Addr).add k = ⟨w.heap.size, k, none⟩ := by unfold Addr.add; split <;> simp_all
  rw [e]
  have hh := heap_alloc_new w (.cells (u32s L).toArray 22)
  unfold World.cell?
  simp only [hh]
  simpa using u32s_get L k hk
theorem Ws.lit1 (w : World) {x : Nat} (h : x < 4294967296) : Ws (w.alloc (.cells #[.int .u32 (x : Int)] 22)) (some ⟨w.heap.size, 0, none⟩) 1 [x] := Ws.lit w [x] (allW_one h)
/-- A new row, empty, of whatever capacity. -/
theorem Wn.made {w0 w : World} (b : Below w0.heap.size w0 w) (cur : Array Value) (cap : Nat) (hm : cap ≤ maxLen) (hs : cur.size = cap) :
    Wn w0 (.slice (some ⟨w.heap.size, 0, none⟩) 0 cap) 0 [] (w.alloc (.cells cur 22)) :=
  ⟨World.ownsRow_made w cur cap b.size hm (by omega), allW_nil, b.alloc b.size _⟩
theorem Wn.full {w0 w : World} (b : Below w0.heap.size w0 w) (L : List Nat) (hL : AllW L) (cap : Nat) (hm : cap ≤ maxLen) (cur : Array Value) (hs : cur.size = cap) (hn : L.length ≤ cap) (ht : cur.toList.take L.length = u32s L)
    {g : Nat} (hg : w0.heap.size ≤ g) (hw : w.heap[g]? = some (.cells cur 22 (0, 0))) :
    Wn w0 (.slice (some ⟨g, 0, none⟩) L.length cap) L.length L w :=
  ⟨⟨by rw [u32s_len]; omega, .inr ⟨g, cap, cur, rfl, hg, hw, hn, hm, by omega, by simpa using ht⟩⟩, hL, b⟩

section
variable {w0 w : World} {ops : Array Oper} {rest : List Oper} {o : Oper} {a : Act} {Q : Exit → Act → World → Prop}
/-- append onto a row of the call's own. -/
theorem wp_appw {K : Act → World → Prop} (s x : Operand) (ho : o.op = .call { callee := .builtin .append, args := #[s, x], argTypes := #[48, 48] })
    {v : Value} {n : Nat} {L : List Nat} (hs : a.eval s = v) (hown : Wn w0 v n L w) {A : Option Addr} {m c : Nat} {M : List Nat} (hx : a.eval x = .slice A m c) (hr : Ws w A m M) (hlen : n + m ≤ 1099511627776)
    (h : ∀ A' c' w', n + m ≤ c' → Wn w0 (.slice A' (n + m) c') (n + m) (L ++ M) w' → w.grownBy w' v.ownBlock → K (a.put o.dst (.slice A' (n + m) c')) w') : o.wp Tryz.prog a w K Q := by
  obtain ⟨i0, hi, hz0, hz1, hz2⟩ := info_parts Tryz.infoWord
  have key : ∀ v' w', Wn w0 v' (n + m) (L ++ M) w' → w.grownBy w' v.ownBlock → K (a.put o.dst v') w' := fun v' w' h1 h2 => by
    obtain ⟨A', c', rfl, hc⟩ := h1.shape
    exact h A' c' w' hc h1 h2
  have hsz := hown.size
  rcases A with _ | ad
  · obtain rfl : m = 0 := by
      rcases Nat.eq_zero_or_pos m with h0 | h0
      · exact h0
      · obtain ⟨_, e, _⟩ := hr.cel h0
        cases e
    obtain rfl : M = [] := List.eq_nil_of_length_eq_zero hr.len
    have hrun : (Builtin.append_ #[48, 48] o.type #[v, .slice none 0 c]).run Tryz.prog w = .ok v w := by
      rcases hown.row.2 with ⟨rfl, rfl⟩ | ⟨g, cap, cur, rfl, _, _, hnc, _⟩
      · simp [Builtin.append_, run_underlying Tryz.underlying48, sizeOf, typeInfo, hi, Builtin.lenOf, Builtin.firstCells]
      · simp [Builtin.append_, run_underlying Tryz.underlying48, sizeOf, typeInfo, hi, Builtin.lenOf, Builtin.firstCells, hnc, storeCells]
    unfold Oper.wp
    simp [execOp, ho, resolve, invoke, builtin, hs, hx, hrun, Result.andThen]
    exact key v w (by simpa using hown) (World.grownBy.refl _ _)
  · refine wp_append_own w s x 48 ho w0.heap.size 22 i0 (.int .u32 0) 1 4 Tryz.underlying48 hi hz0 hz1 hz2 rfl (by decide) v n (u32s L) hs hown.row ad m c (u32s M) hx (by rw [u32s_len, hr.len]; omega) hr.cells (u32s_one M) (by unfold maxLen; omega) (by omega) hsz ?_
    intro v' w' h1 h2 _
    exact key v' w' (hown.grown hr.byt h1 h2) h2
theorem wpList_appw (hgd : o.guard = none) (s x : Operand) (ho : o.op = .call { callee := .builtin .append, args := #[s, x], argTypes := #[48, 48] })
    {v : Value} {n : Nat} {L : List Nat} (hs : a.eval s = v) (hown : Wn w0 v n L w) {A : Option Addr} {m c : Nat} {M : List Nat} (hx : a.eval x = .slice A m c) (hr : Ws w A m M) (hlen : n + m ≤ 1099511627776)
    (h : ∀ A' c' w', n + m ≤ c' → Wn w0 (.slice A' (n + m) c') (n + m) (L ++ M) w' → w.grownBy w' v.ownBlock → wpList Tryz.prog ops Q rest (a.put o.dst (.slice A' (n + m) c')) w') : wpList Tryz.prog ops Q (o :: rest) a w :=
  wpList_plain hgd fun _ hK => wp_appw s x ho hs hown hx hr hlen fun A' c' w' h1 h2 h3 => hK _ _ (h A' c' w' h1 h2 h3)
theorem step_appw {K : Act → World → Prop} {E : Prop} (hgd : o.guard = none) (s x : Operand) (ho : o.op = .call { callee := .builtin .append, args := #[s, x], argTypes := #[48, 48] })
    {v : Value} {n : Nat} {L : List Nat} (hs : a.eval s = v) (hown : Wn w0 v n L w) {A : Option Addr} {m c : Nat} {M : List Nat} (hx : a.eval x = .slice A m c) (hr : Ws w A m M) (hlen : n + m ≤ 1099511627776)
    (h : ∀ A' c' w', n + m ≤ c' → Wn w0 (.slice A' (n + m) c') (n + m) (L ++ M) w' → w.grownBy w' v.ownBlock → K (a.put o.dst (.slice A' (n + m) c')) w') :
    if Region.wanted o (yielded ops a.tmps) = true then Oper.wp Tryz.prog o a w K Q else E := by
  have hw : Region.wanted o (yielded ops a.tmps) = true := by simp [Region.wanted, hgd]
  rw [if_pos hw]
  exact wp_appw s x ho hs hown hx hr hlen h
theorem wpList_appw_eq (hgd : o.guard = none) (s x : Operand) (ho : o.op = .call { callee := .builtin .append, args := #[s, x], argTypes := #[48, 48] })
    {v : Value} {n : Nat} {L : List Nat} (hs : a.eval s = v) (hown : Wn w0 v n L w) {A : Option Addr} {m m' c : Nat} {M : List Nat} (hx : a.eval x = .slice A m' c) (e : m' = m) (hr : Ws w A m M) (hlen : n + m ≤ 1099511627776)
    (h : ∀ A' c' w', n + m ≤ c' → Wn w0 (.slice A' (n + m) c') (n + m) (L ++ M) w' → w.grownBy w' v.ownBlock → wpList Tryz.prog ops Q rest (a.put o.dst (.slice A' (n + m) c')) w') : wpList Tryz.prog ops Q (o :: rest) a w := by
  subst e; exact wpList_appw hgd s x ho hs hown hx hr hlen h
end

end Go.Proofs.YtimjmmiajgfblaaGreatDoor
