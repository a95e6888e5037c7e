/- BigBack of the statements of layer 2, walked: what it asks of the package big, given what each call returns. -/
import Derived.Test.YtcjggdoopehkpaaCon
import Derived.Test.YtcjggdoopehkpaaGrow
namespace Go.Proofs.Ytcjggdoopehkpaa
open Go.RowKit

/-- '==' between a number and 0, decided. -/
def EqZ (x0 x1 x2 x3 : Nat) (r : Bool) : Prop := ∀ w : World, (Op.equalIn 10000 24 (.agg #[.int .u64 (x0 : Nat), .int .u64 (x1 : Nat), .int .u64 (x2 : Nat), .int .u64 (x3 : Nat)]) (.agg #[.int .u64 0, .int .u64 0, .int .u64 0, .int .u64 0])).run Try.prog w = .ok r w
theorem DivIs.word {x0 x1 x2 x3 n q0 q1 q2 q3 r0 r1 r2 r3 : Nat} (h : DivIs x0 x1 x2 x3 n 0 0 0 q0 q1 q2 q3 r0 r1 r2 r3) (w : World) : Calls Try.prog 22 #[.agg #[.int .u64 (x0 : Nat), .int .u64 (x1 : Nat), .int .u64 (x2 : Nat), .int .u64 (x3 : Nat)], .agg #[.int .u64 (n : Nat), .int .u64 0, .int .u64 0, .int .u64 0]] w fun e w' => e = .returned (.tuple #[.agg #[.int .u64 (q0 : Nat), .int .u64 (q1 : Nat), .int .u64 (q2 : Nat), .int .u64 (q3 : Nat)], .agg #[.int .u64 (r0 : Nat), .int .u64 (r1 : Nat), .int .u64 (r2 : Nat), .int .u64 (r3 : Nat)], .int .i64 0]) ∧ Below w.heap.size w w' := h w
theorem LessIs.word {x0 x1 x2 x3 n : Nat} {r : Bool} (h : LessIs x0 x1 x2 x3 n 0 0 0 r) (w : World) : Calls Try.prog 15 #[.agg #[.int .u64 (x0 : Nat), .int .u64 (x1 : Nat), .int .u64 (x2 : Nat), .int .u64 (x3 : Nat)], .agg #[.int .u64 (n : Nat), .int .u64 0, .int .u64 0, .int .u64 0]] w fun e w' => e = .returned (.bool r) ∧ Below w.heap.size w w' := h w
theorem MulIs.zero {x0 x1 x2 x3 n s0 s1 s2 s3 : Nat} (h : MulIs x0 x1 x2 x3 n s0 s1 s2 s3 0) (w : World) : Calls Try.prog 13 #[.agg #[.int .u64 (x0 : Nat), .int .u64 (x1 : Nat), .int .u64 (x2 : Nat), .int .u64 (x3 : Nat)], .int .u64 (n : Nat)] w fun e w' => e = .returned (.tuple #[.agg #[.int .u64 (s0 : Nat), .int .u64 (s1 : Nat), .int .u64 (s2 : Nat), .int .u64 (s3 : Nat)], .int .u64 0]) ∧ Below w.heap.size w w' := h w

set_option maxRecDepth 100000 in
set_option maxHeartbeats 8000000 in
theorem back_n0 (a0 a1 a2 a3 b0 b1 b2 b3 s0 s1 s2 s3 t0 t1 t2 t3 n : Nat) (o c : Bool) (w : World)
    (add1 : AddIs a0 a1 a2 a3 b0 b1 b2 b3 s0 s1 s2 s3 o) (sub1 : SubIs s0 s1 s2 s3 b0 b1 b2 b3 a0 a1 a2 a3 o) (ea : EqIs a0 a1 a2 a3 a0 a1 a2 a3 true) (less1 : LessIs s0 s1 s2 s3 a0 a1 a2 a3 o) (sub2 : SubIs a0 a1 a2 a3 b0 b1 b2 b3 t0 t1 t2 t3 c) (add2 : AddIs t0 t1 t2 t3 b0 b1 b2 b3 a0 a1 a2 a3 c) (less2 : LessIs a0 a1 a2 a3 b0 b1 b2 b3 c) (hn : ((n : Int) == 0) = true) :
    Calls Try.prog 6 #[.agg #[.int .u64 (a0 : Nat), .int .u64 (a1 : Nat), .int .u64 (a2 : Nat), .int .u64 (a3 : Nat)], .agg #[.int .u64 (b0 : Nat), .int .u64 (b1 : Nat), .int .u64 (b2 : Nat), .int .u64 (b3 : Nat)], .int .u64 (n : Nat)] w fun e w' => e = .returned (.bool true) ∧ Below w.heap.size w w' := by
  have ADD1 := Lib.hid add1
  have SUB1 := Lib.hid sub1
  have LESS1 := Lib.hid less1
  have SUB2 := Lib.hid sub2
  have ADD2 := Lib.hid add2
  have LESS2 := Lib.hid less2
  clear add1 sub1 less1 sub2 add2 less2
  unfold EqIs at ea
  go_enter Try.func6, Try.ntmps6
  go_wp2_with fail
  refine (ADD1.out _).mono ?_
  rintro e w1 ⟨rfl, h1⟩
  have PB : Below w.heap.size w w1 := by
    refine Below.trans ?_ (h1.mono (by simp; omega))
    go_grown
  have xa : Box w1 w.heap.size a0 a1 a2 a3 := ⟨cell_later h1 (by go_cell), cell_later h1 (by go_cell), cell_later h1 (by go_cell), cell_later h1 (by go_cell)⟩
  have xb : Box w1 (w.heap.size + 1) b0 b1 b2 b3 := ⟨cell_later h1 (by go_cell), cell_later h1 (by go_cell), cell_later h1 (by go_cell), cell_later h1 (by go_cell)⟩
  clear h1
  generalize w.heap.size + 1 = Bb at *
  have ca := xa
  obtain ⟨ca0, ca1, ca2, ca3⟩ := ca
  have la := World.block_lt_of_cell? _ _ ca0
  simp only [] at la
  have cb := xb
  obtain ⟨cb0, cb1, cb2, cb3⟩ := cb
  have lb := World.block_lt_of_cell? _ _ cb0
  simp only [] at lb
  have HPB := Lib.hid PB
  clear PB
  go_wp2_with fail
  have PB := HPB.out
  clear HPB
  clear ca0 ca1 ca2 ca3 cb0 cb1 cb2 cb3 la lb
  replace xa := xa.alloc (.cells #[.int .u64 (s0 : Nat), .int .u64 (s1 : Nat), .int .u64 (s2 : Nat), .int .u64 (s3 : Nat)] 24)
  replace xb := xb.alloc (.cells #[.int .u64 (s0 : Nat), .int .u64 (s1 : Nat), .int .u64 (s2 : Nat), .int .u64 (s3 : Nat)] 24)
  have xs := Box.new (w1) (s0 : Nat) (s1 : Nat) (s2 : Nat) (s3 : Nat) 24
  have PC := below_alloc PB (.cells #[.int .u64 (s0 : Nat), .int .u64 (s1 : Nat), .int .u64 (s2 : Nat), .int .u64 (s3 : Nat)] 24)
  clear PB
  have PB := PC
  clear PC
  generalize (w1).alloc (.cells #[.int .u64 (s0 : Nat), .int .u64 (s1 : Nat), .int .u64 (s2 : Nat), .int .u64 (s3 : Nat)] 24) = W1 at *
  generalize w1.heap.size = Bs at *
  refine (SUB1.out _).mono ?_
  rintro e w2 ⟨rfl, hc⟩
  replace xa := xa.later hc
  replace xb := xb.later hc
  replace xs := xs.later hc
  have PC := below_step PB hc
  clear PB hc
  have PB := PC
  clear PC
  have ca := xa
  obtain ⟨ca0, ca1, ca2, ca3⟩ := ca
  have la := World.block_lt_of_cell? _ _ ca0
  simp only [] at la
  have cs := xs
  obtain ⟨cs0, cs1, cs2, cs3⟩ := cs
  have ls := World.block_lt_of_cell? _ _ cs0
  simp only [] at ls
  have HPB := Lib.hid PB
  clear PB
  go_wp2_with fail
  have PB := HPB.out
  clear HPB
  clear ca0 ca1 ca2 ca3 cs0 cs1 cs2 cs3 la ls
  replace xa := xa.alloc (.cells #[.int .u64 (a0 : Nat), .int .u64 (a1 : Nat), .int .u64 (a2 : Nat), .int .u64 (a3 : Nat)] 24)
  replace xb := xb.alloc (.cells #[.int .u64 (a0 : Nat), .int .u64 (a1 : Nat), .int .u64 (a2 : Nat), .int .u64 (a3 : Nat)] 24)
  replace xs := xs.alloc (.cells #[.int .u64 (a0 : Nat), .int .u64 (a1 : Nat), .int .u64 (a2 : Nat), .int .u64 (a3 : Nat)] 24)
  have xd := Box.new (w2) (a0 : Nat) (a1 : Nat) (a2 : Nat) (a3 : Nat) 24
  have PC := below_alloc PB (.cells #[.int .u64 (a0 : Nat), .int .u64 (a1 : Nat), .int .u64 (a2 : Nat), .int .u64 (a3 : Nat)] 24)
  clear PB
  have PB := PC
  clear PC
  generalize (w2).alloc (.cells #[.int .u64 (a0 : Nat), .int .u64 (a1 : Nat), .int .u64 (a2 : Nat), .int .u64 (a3 : Nat)] 24) = W3 at *
  generalize w2.heap.size = Bd at *
  refine (LESS1.out _).mono ?_
  rintro e w4 ⟨rfl, hc⟩
  replace xa := xa.later hc
  replace xb := xb.later hc
  replace xs := xs.later hc
  replace xd := xd.later hc
  have PC := below_step PB hc
  clear PB hc
  have PB := PC
  clear PC
  have ca := xa
  obtain ⟨ca0, ca1, ca2, ca3⟩ := ca
  have la := World.block_lt_of_cell? _ _ ca0
  simp only [] at la
  have cb := xb
  obtain ⟨cb0, cb1, cb2, cb3⟩ := cb
  have lb := World.block_lt_of_cell? _ _ cb0
  simp only [] at lb
  have HPB := Lib.hid PB
  clear PB
  go_wp2_with fail
  have PB := HPB.out
  clear HPB
  clear ca0 ca1 ca2 ca3 cb0 cb1 cb2 cb3 la lb
  refine (SUB2.out _).mono ?_
  rintro e w5 ⟨rfl, hc⟩
  replace xa := xa.later hc
  replace xb := xb.later hc
  replace xs := xs.later hc
  replace xd := xd.later hc
  have PC := below_step PB hc
  clear PB hc
  have PB := PC
  clear PC
  have cb := xb
  obtain ⟨cb0, cb1, cb2, cb3⟩ := cb
  have lb := World.block_lt_of_cell? _ _ cb0
  simp only [] at lb
  have HPB := Lib.hid PB
  clear PB
  go_wp2_with fail
  have PB := HPB.out
  clear HPB
  clear cb0 cb1 cb2 cb3 lb
  replace xa := xa.alloc (.cells #[.int .u64 (t0 : Nat), .int .u64 (t1 : Nat), .int .u64 (t2 : Nat), .int .u64 (t3 : Nat)] 24)
  replace xb := xb.alloc (.cells #[.int .u64 (t0 : Nat), .int .u64 (t1 : Nat), .int .u64 (t2 : Nat), .int .u64 (t3 : Nat)] 24)
  replace xs := xs.alloc (.cells #[.int .u64 (t0 : Nat), .int .u64 (t1 : Nat), .int .u64 (t2 : Nat), .int .u64 (t3 : Nat)] 24)
  replace xd := xd.alloc (.cells #[.int .u64 (t0 : Nat), .int .u64 (t1 : Nat), .int .u64 (t2 : Nat), .int .u64 (t3 : Nat)] 24)
  have xt := Box.new (w5) (t0 : Nat) (t1 : Nat) (t2 : Nat) (t3 : Nat) 24
  have PC := below_alloc PB (.cells #[.int .u64 (t0 : Nat), .int .u64 (t1 : Nat), .int .u64 (t2 : Nat), .int .u64 (t3 : Nat)] 24)
  clear PB
  have PB := PC
  clear PC
  generalize (w5).alloc (.cells #[.int .u64 (t0 : Nat), .int .u64 (t1 : Nat), .int .u64 (t2 : Nat), .int .u64 (t3 : Nat)] 24) = W6 at *
  generalize w5.heap.size = Bt at *
  refine (ADD2.out _).mono ?_
  rintro e w7 ⟨rfl, hc⟩
  replace xa := xa.later hc
  replace xb := xb.later hc
  replace xs := xs.later hc
  replace xd := xd.later hc
  replace xt := xt.later hc
  have PC := below_step PB hc
  clear PB hc
  have PB := PC
  clear PC
  have ca := xa
  obtain ⟨ca0, ca1, ca2, ca3⟩ := ca
  have la := World.block_lt_of_cell? _ _ ca0
  simp only [] at la
  have cb := xb
  obtain ⟨cb0, cb1, cb2, cb3⟩ := cb
  have lb := World.block_lt_of_cell? _ _ cb0
  simp only [] at lb
  have HPB := Lib.hid PB
  clear PB
  go_wp2_with fail
  have PB := HPB.out
  clear HPB
  clear ca0 ca1 ca2 ca3 cb0 cb1 cb2 cb3 la lb
  replace xa := xa.alloc (.cells #[.int .u64 (a0 : Nat), .int .u64 (a1 : Nat), .int .u64 (a2 : Nat), .int .u64 (a3 : Nat)] 24)
  replace xb := xb.alloc (.cells #[.int .u64 (a0 : Nat), .int .u64 (a1 : Nat), .int .u64 (a2 : Nat), .int .u64 (a3 : Nat)] 24)
  replace xs := xs.alloc (.cells #[.int .u64 (a0 : Nat), .int .u64 (a1 : Nat), .int .u64 (a2 : Nat), .int .u64 (a3 : Nat)] 24)
  replace xd := xd.alloc (.cells #[.int .u64 (a0 : Nat), .int .u64 (a1 : Nat), .int .u64 (a2 : Nat), .int .u64 (a3 : Nat)] 24)
  replace xt := xt.alloc (.cells #[.int .u64 (a0 : Nat), .int .u64 (a1 : Nat), .int .u64 (a2 : Nat), .int .u64 (a3 : Nat)] 24)
  have xu := Box.new (w7) (a0 : Nat) (a1 : Nat) (a2 : Nat) (a3 : Nat) 24
  have PC := below_alloc PB (.cells #[.int .u64 (a0 : Nat), .int .u64 (a1 : Nat), .int .u64 (a2 : Nat), .int .u64 (a3 : Nat)] 24)
  clear PB
  have PB := PC
  clear PC
  generalize (w7).alloc (.cells #[.int .u64 (a0 : Nat), .int .u64 (a1 : Nat), .int .u64 (a2 : Nat), .int .u64 (a3 : Nat)] 24) = W8 at *
  generalize w7.heap.size = Bu at *
  refine (LESS2.out _).mono ?_
  rintro e w9 ⟨rfl, hc⟩
  replace xa := xa.later hc
  replace xb := xb.later hc
  replace xs := xs.later hc
  replace xd := xd.later hc
  replace xt := xt.later hc
  replace xu := xu.later hc
  have PC := below_step PB hc
  clear PB hc
  have PB := PC
  clear PC
  have HPB := Lib.hid PB
  clear PB
  go_wp2_with fail
  have PB := HPB.out
  clear HPB
  refine (works_any _).mono ?_
  rintro e w10 ⟨rfl, hc⟩
  replace xa := xa.later hc
  replace xb := xb.later hc
  replace xs := xs.later hc
  replace xd := xd.later hc
  replace xt := xt.later hc
  replace xu := xu.later hc
  have PC := below_step PB hc
  clear PB hc
  have PB := PC
  clear PC
  have HPB := Lib.hid PB
  clear PB
  go_wp2_with fail
  have PB := HPB.out
  clear HPB
  go_returns
  exact ⟨rfl, PB⟩

end Go.Proofs.Ytcjggdoopehkpaa
