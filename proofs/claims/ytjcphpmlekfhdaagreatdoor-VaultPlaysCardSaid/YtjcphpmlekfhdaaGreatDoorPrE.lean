/- The pair: a step of both disks; alike. Condition: the tables lie as laid. -/
import Derived.Test.YtjcphpmlekfhdaaGreatDoorPrB
import Derived.Test.YtjcphpmlekfhdaaGreatDoorHvq
import Derived.Test.YtjcphpmlekfhdaaGreatDoorGb
import Derived.Deep.MidRow
import Derived.BigRegion
namespace Go.Proofs.YtjcphpmlekfhdaaGreatDoor
open Go.RowKit
attribute [local go_sem] Oper.semAt_some

theorem rowStep : IsRow 43 5 := ⟨.inl ⟨_, Tryz.underlying43⟩, by kernel_rfl⟩
section
variable {w : World} {ops : Array Oper} {o : Oper} {a : Act} {Q : Exit → Act → World → Prop} {K : Act → World → Prop} {T : TypeId} {n b k : Nat} {vs : List Value} {d : Option Tmp}
theorem wp_load_part (hd : o.dst = d) (x : Operand) (ho : o.op = .load T x) (hx : a.eval x = .pointer (some ⟨b, k, none⟩)) (hT : IsRow T n) (hr : w.rangeAt b k vs) (hl : vs.length = n) (h : K (a.put d (.agg vs.toArray)) w) : o.wp Tryz.prog a w K Q := by
  subst hd
  unfold Oper.wp execOp
  obtain ⟨⟨f, h1⟩ | ⟨j, e, h1⟩, h3⟩ := hT
  · simp only [ho, hx, Instr.loadAt, Instr.sureAddr, Sem.run_bind, Sem.run_pure, Result.andThen_ok, run_loadVar_mid w b k T vs _ hr h1 rfl (by rw [h3]; simp [hl])]
    exact h
  · simp only [ho, hx, Instr.loadAt, Instr.sureAddr, Sem.run_bind, Sem.run_pure, Result.andThen_ok, run_loadVar_mid w b k T vs _ hr h1 rfl (by rw [h3]; simp [hl])]
    exact h
end
section
variable {w wr : World} {d r p f g n : Nat} {b : Bool} {S : Dk} {a y : Value} {X : Nat → Prop}
set_option maxRecDepth 100000 in
set_option maxHeartbeats 8000000 in
theorem pdo_five (hLd : Laid w) (J : PrJ w d r p S a y f g n b X wr) (h1 : S.cnt ≤ 900000000) (h2 : S.uses ≤ 800000000) (h3 : S.most ≤ 65535) (h4 : n ≤ 1000000000) {x : CallD} {A5 B6 Q7 : Option Addr} {c5 c6 c7 : Nat} (hk : x.k < 256) (g4 : Rows wr (fun b => b < w.heap.size) 1 ByR A5 x.l.length x.l) (g5 : x.s.Ok) (g6 : x.s.b.length ≤ c6) (g7 : c6 ≤ 9223372036854775807) (g8 : BsP wr (fun b => b < w.heap.size) B6 x.s.b.length x.s.b) (g9 : x.s.p.length ≤ c7) (g10 : c7 ≤ 9223372036854775807) (g11 : ZsP wr (fun b => b < w.heap.size) Q7 x.s.p.length x.s.p) (hw : kwt x ≤ 16384) (h5 : (x.k : Int) % 6 = 5) :
    Calls Tryz.prog 10 #[.pointer (some ⟨p, 0, none⟩), .agg #[.int .u8 (x.k : Int), .slice A5 x.l.length c5, .int .u8 (x.s.k : Int), .int .i64 x.s.f, .int .i64 x.s.n, .slice B6 x.s.b.length c6, .slice Q7 x.s.p.length c7]] wr fun e W => e = .returned (.bool true) ∧ PdQ w d r p S n W := by
  have q := h5
  have hkw : rwt x.l ≤ 16384 ∧ x.s.b.length ≤ 16384 ∧ x.s.p.length ≤ 16384 := by unfold kwt at hw; omega
  obtain ⟨hkw1, hkw2, hkw3⟩ := hkw
  have hxl : x.l.length ≤ 16384 ∧ wideS x.l ≤ 1048576 := by
    have : ∀ l : List (List Nat), l.length ≤ rwt l ∧ wideS l ≤ 36 * rwt l := by
      intro l
      induction l with
      | nil => exact ⟨Nat.zero_le _, Nat.zero_le _⟩
      | cons x l ih =>
        have e : rwt (x :: l) = 16 + x.length + rwt l := by unfold rwt; simp
        have e2 : wideS (x :: l) = 36 + x.length + wideS l := by unfold wideS; simp
        rw [e, e2, List.length_cons]
        omega
    have := this x.l
    omega
  obtain ⟨W1, hW1⟩ : ∃ W1, wr.alloc (.cells #[.int .u8 (x.k : Int), .slice A5 x.l.length c5, .int .u8 (x.s.k : Int), .int .i64 x.s.f, .int .i64 x.s.n, .slice B6 x.s.b.length c6, .slice Q7 x.s.p.length c7] 45) = W1 := ⟨_, rfl⟩
  have b1 : Below wr.heap.size wr W1 := by rw [← hW1]; exact (Below.refl _ _).alloc (Nat.le_refl _) _
  have R1 : Ro W1 wr.heap.size 45 [.int .u8 (x.k : Int), .slice A5 x.l.length c5, .int .u8 (x.s.k : Int), .int .i64 x.s.f, .int .i64 x.s.n, .slice B6 x.s.b.length c6, .slice Q7 x.s.p.length c7] := by rw [← hW1]; exact Ro.new wr _ _
  have J1 := J.wide b1
  have hpb := J.box.lt
  have hst := J.st
  have hV : ∀ v xx, a = .pointer (some ⟨v, 0, none⟩) → y = .pointer (some ⟨xx, 0, none⟩) → PrV w d r p v xx f g n b (fun k => X k ∨ (wr.heap.size ≤ k ∧ k < W1.heap.size)) W1 ∧ v < wr.heap.size := by
    intro v xx e1 e2
    rcases J.st with ⟨e, _⟩ | ⟨v', x', q1, q2, V1, V2, hX, hlo, hne⟩
    · rw [e1] at e; cases e
    · rw [e1] at q1
      rw [e2] at q2
      injection q1 with q1; injection q1 with q1; injection q1 with q1
      injection q2 with q2; injection q2 with q2; injection q2 with q2
      subst q1 q2
      exact ⟨⟨V1.later b1, V2.later b1, ⟨.inl hX.1, .inl hX.2⟩, hlo, hne⟩, V1.lt⟩
  obtain ⟨X1, hX1⟩ : ∃ X1 : Nat → Prop, (fun k => X k ∨ (wr.heap.size ≤ k ∧ k < W1.heap.size)) = X1 := ⟨_, rfl⟩
  have xs1 : X1 wr.heap.size := by rw [← hX1]; exact .inr ⟨Nat.le_refl _, R1.lt⟩
  rw [hX1] at J1 hV
  obtain ⟨sb, hsb⟩ : ∃ sb, wr.heap.size = sb := ⟨_, rfl⟩
  rw [hsb] at R1 xs1 hV hpb
  have x0 := R1.cell (k := 0) rfl
  have HR1 := Lib.hid R1
  have HJ1 := Lib.hid J1
  have HV := Lib.hid hV
  have HX1 := Lib.hid xs1
  have HSB := Lib.hid hsb
  have RL := Lib.hid (Rows.later byM g4 b1)
  have HB8 := Lib.hid (g8.keep (Kept.of_below b1))
  have HZ11 := Lib.hid (g11.keep (Kept.of_below b1))
  have HLD := Lib.hid hLd
  have lt : Ltk 0 S := ⟨by omega, by omega, by omega⟩
  have HLT := Lib.hid lt
  have HL2 : Hid (Lt S) := Lib.hid ⟨by omega, by omega⟩
  have hx0 := J1.box.cell (k := 0) rfl
  have hx1 := J1.box.cell (k := 1) rfl
  have hx2 := J1.box.cell (k := 2) rfl
  have hx3 := J1.box.cell (k := 3) rfl
  have b1d : Below W1.heap.size W1 W1.drew := (Below.refl _ _).drew
  have HBD := Lib.hid b1d
  clear hLd J J1 b1 R1 hV xs1 g4 g8 g11 hX1 lt b1d
  have f4 : ((x.k : Int) % 6 == 4) = false := by rw [q]; rfl
  have f5 : ((x.k : Int) % 6 == 5) = true := by rw [q]; rfl
  clear q
  have TD := HJ1.out.two.later HBD.out
  have CD : Hid (Calls Tryz.prog 26 #[.pointer (some ⟨d, 0, none⟩), .pointer (some ⟨r, 0, none⟩), .agg #[.int .u8 (x.s.k : Int), .int .i64 x.s.f, .int .i64 x.s.n, .slice B6 x.s.b.length c6, .slice Q7 x.s.p.length c7]] W1.drew fun e W => e = .returned (.bool true) ∧ Hid (PdQ w d r p S n W)) := Lib.hid ((do_any TD HL2.out g5 ((HB8.out.bs).later HBD.out) (fun h a e => HB8.out.inP h a e) g6 g7 ((HZ11.out.zs).later HBD.out) (fun h a e => HZ11.out.inP h a e) g9 g10).mono fun e W ⟨e1, T2, K2⟩ => ⟨e1, Lib.hid (by
    have u := step_uses S x.s
    have hwt : wt x.s ≤ 20000 := by have hw2 := hw; unfold kwt at hw2; unfold wt; omega
    exact ⟨_, _, _, _, _, _, _, _, (HJ1.out.later HBD.out).moved T2 K2, by omega, by omega, by omega, step_most S x.s⟩)⟩)
  have hx0d : W1.drew.cell? ⟨p, 0, none⟩ = some (.pointer (some ⟨d, 0, none⟩)) := hx0
  have hx1d : W1.drew.cell? ⟨p, 1, none⟩ = some (.pointer (some ⟨r, 0, none⟩)) := hx1
  have hs2 : W1.drew.cell? ⟨sb, 2, none⟩ = some (.int .u8 (x.s.k : Int)) := (HR1.out.later HBD.out).cell (k := 2) rfl
  have hs3 : W1.drew.cell? ⟨sb, 3, none⟩ = some (.int .i64 x.s.f) := (HR1.out.later HBD.out).cell (k := 3) rfl
  have hs4 : W1.drew.cell? ⟨sb, 4, none⟩ = some (.int .i64 x.s.n) := (HR1.out.later HBD.out).cell (k := 4) rfl
  have hs5 : W1.drew.cell? ⟨sb, 5, none⟩ = some (.slice B6 x.s.b.length c6) := (HR1.out.later HBD.out).cell (k := 5) rfl
  have hs6 : W1.drew.cell? ⟨sb, 6, none⟩ = some (.slice Q7 x.s.p.length c7) := (HR1.out.later HBD.out).cell (k := 6) rfl
  clear TD
  go_enter Tryz.func10, Tryz.ntmps10
  go_wp2_with fail
  go_region_law (first | (go_simp; (with_reducible refine (CD.out).mono ?_); rintro e W ⟨rfl, G⟩; go_simp))
  all_goals go_wp2_with fail
  all_goals go_ret
  all_goals exact ⟨rfl, G.out⟩
end
end Go.Proofs.YtjcphpmlekfhdaaGreatDoor
