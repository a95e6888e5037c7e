/- Less and Bits of the document's answers of layer 2, at every number. -/
import Derived.Test.YtnipajfglmahiaaRefAdd
import Derived.Handy
namespace Go.Proofs.Ytnipajfglmahiaa
open Go.RowKit

theorem half_step (A k : Nat) : A / 2 ^ k = 2 * (A / 2 ^ (k + 1)) + A / 2 ^ k % 2 := by
  rw [Nat.pow_succ, ← Nat.div_div_eq_div_mul]
  omega
theorem half_lt (A B k : Nat) (h : A / 2 ^ k < B / 2 ^ k) : A < B := by
  rcases Nat.lt_or_ge A B with h1 | h1
  · exact h1
  · have := Nat.div_le_div_right (c := 2 ^ k) h1
    omega

structure LessAt (w : World) (ca cb : Array Value) (wr : World) : Prop where
  a : Holds wr w.heap.size ca 25
  b : Holds wr (w.heap.size + 1) cb 25
  bel : Below w.heap.size w wr
theorem LessAt.later {w wr w1 : World} {ca cb : Array Value} (h : LessAt w ca cb wr) (g : Below wr.heap.size wr w1) : LessAt w ca cb w1 := ⟨h.a.later g, h.b.later g, h.bel.trans (g.mono h.bel.size)⟩

set_option maxRecDepth 100000 in
set_option maxHeartbeats 16000000 in
theorem refless_any {a0 a1 a2 a3 b0 b1 b2 b3 : Nat} (ha : Words a0 a1 a2 a3) (hb : Words b0 b1 b2 b3) (o : Bool) (ho : o = decide (val a0 a1 a2 a3 < val b0 b1 b2 b3)) (w : World) : Calls Try.prog 37 #[.agg #[.int .u64 (a0 : Nat), .int .u64 (a1 : Nat), .int .u64 (a2 : Nat), .int .u64 (a3 : Nat)], .agg #[.int .u64 (b0 : Nat), .int .u64 (b1 : Nat), .int .u64 (b2 : Nat), .int .u64 (b3 : Nat)]] w fun e w' => e = .returned (.bool o) ∧ Below w.heap.size w w' := by
  have lA : val a0 a1 a2 a3 < 115792089237316195423570985008687907853269984665640564039457584007913129639936 := by obtain ⟨_, _, _, _⟩ := ha; unfold val; omega
  have lB : val b0 b1 b2 b3 < 115792089237316195423570985008687907853269984665640564039457584007913129639936 := by obtain ⟨_, _, _, _⟩ := hb; unfold val; omega
  have LA := Lib.hid lA
  have LB := Lib.hid lB
  have HO := Lib.hid ho
  clear lA lB ho
  go_enter Try.func37, Try.ntmps37
  go_wp2_with fail
  go_loopw [5] (fun i wr => ∃ (m : Nat) (z : Int), m ≤ 256 ∧ z + 1 = (m : Int) ∧ i = .int .i64 z ∧ val a0 a1 a2 a3 / 2 ^ m = val b0 b1 b2 b3 / 2 ^ m ∧ LessAt w #[.int .u64 (a0 : Nat), .int .u64 (a1 : Nat), .int .u64 (a2 : Nat), .int .u64 (a3 : Nat)] #[.int .u64 (b0 : Nat), .int .u64 (b1 : Nat), .int .u64 (b2 : Nat), .int .u64 (b3 : Nat)] wr) (fun i _ => (intOf i + 1).toNat)
  case atStart =>
    refine ⟨256, 255, by omega, by omega, rfl, ?_, boxes2 _ _ _ 0 _ rfl, boxes2 _ _ _ 1 _ rfl, below2 _ _ _⟩
    rw [show (2 : Nat) ^ 256 = 115792089237316195423570985008687907853269984665640564039457584007913129639936 by decide, Nat.div_eq_of_lt LA.out, Nat.div_eq_of_lt LB.out]
  case round =>
    obtain ⟨m, z, hm, hz, rfl, heq, L⟩ := hrel
    by_cases h0 : m = 0
    · obtain rfl : z = -1 := by omega
      subst h0
      rw [Nat.pow_zero, Nat.div_one, Nat.div_one] at heq
      obtain rfl : o = false := by rw [HO.out, heq]; exact decide_eq_false (Nat.lt_irrefl _)
      have HL := Lib.hid L
      clear heq L HO
      go_wp2_with fail
      go_ret
      exact ⟨rfl, HL.out.bel⟩
    · obtain ⟨k, rfl⟩ : ∃ k, m = k + 1 := ⟨m - 1, by omega⟩
      obtain rfl : z = (k : Int) := by omega
      have hlt : k < 256 := by omega
      have t1 : decide ((0 : Int) ≤ (k : Int)) = true := decide_eq_true (by omega)
      have a0' : wr.cell? ⟨w.heap.size, 0, none⟩ = some (.int .u64 (a0 : Nat)) := L.a.cell 0
      have a1' : wr.cell? ⟨w.heap.size, 1, none⟩ = some (.int .u64 (a1 : Nat)) := L.a.cell 1
      have a2' : wr.cell? ⟨w.heap.size, 2, none⟩ = some (.int .u64 (a2 : Nat)) := L.a.cell 2
      have a3' : wr.cell? ⟨w.heap.size, 3, none⟩ = some (.int .u64 (a3 : Nat)) := L.a.cell 3
      have b0' : wr.cell? ⟨w.heap.size + 1, 0, none⟩ = some (.int .u64 (b0 : Nat)) := L.b.cell 0
      have b1' : wr.cell? ⟨w.heap.size + 1, 1, none⟩ = some (.int .u64 (b1 : Nat)) := L.b.cell 1
      have b2' : wr.cell? ⟨w.heap.size + 1, 2, none⟩ = some (.int .u64 (b2 : Nat)) := L.b.cell 2
      have b3' : wr.cell? ⟨w.heap.size + 1, 3, none⟩ = some (.int .u64 (b3 : Nat)) := L.b.cell 3
      have ua0 : ∀ u : After wr, u.w.cell? ⟨w.heap.size, 0, none⟩ = some (.int .u64 (a0 : Nat)) := fun u => u.cell a0'
      have ua1 : ∀ u : After wr, u.w.cell? ⟨w.heap.size, 1, none⟩ = some (.int .u64 (a1 : Nat)) := fun u => u.cell a1'
      have ua2 : ∀ u : After wr, u.w.cell? ⟨w.heap.size, 2, none⟩ = some (.int .u64 (a2 : Nat)) := fun u => u.cell a2'
      have ua3 : ∀ u : After wr, u.w.cell? ⟨w.heap.size, 3, none⟩ = some (.int .u64 (a3 : Nat)) := fun u => u.cell a3'
      have ub0 : ∀ u : After wr, u.w.cell? ⟨w.heap.size + 1, 0, none⟩ = some (.int .u64 (b0 : Nat)) := fun u => u.cell b0'
      have ub1 : ∀ u : After wr, u.w.cell? ⟨w.heap.size + 1, 1, none⟩ = some (.int .u64 (b1 : Nat)) := fun u => u.cell b1'
      have ub2 : ∀ u : After wr, u.w.cell? ⟨w.heap.size + 1, 2, none⟩ = some (.int .u64 (b2 : Nat)) := fun u => u.cell b2'
      have ub3 : ∀ u : After wr, u.w.cell? ⟨w.heap.size + 1, 3, none⟩ = some (.int .u64 (b3 : Nat)) := fun u => u.cell b3'
      obtain ⟨x, hx⟩ : ∃ x, x = val a0 a1 a2 a3 / 2 ^ k % 2 := ⟨_, rfl⟩
      obtain ⟨y, hy⟩ : ∃ y, y = val b0 b1 b2 b3 / 2 ^ k % 2 := ⟨_, rfl⟩
      have CA := Lib.hid (bitIs ha hlt hx)
      have CB := Lib.hid (bitIs hb hlt hy)
      have sa := half_step (val a0 a1 a2 a3) k
      have sb := half_step (val b0 b1 b2 b3) k
      rw [← hx] at sa
      rw [← hy, ← heq] at sb
      have hx2 : x = 0 ∨ x = 1 := by rw [hx]; exact bit_two _
      have hy2 : y = 0 ∨ y = 1 := by rw [hy]; exact bit_two _
      have SA := Lib.hid sa
      have SB := Lib.hid sb
      clear sa sb hx hy heq h0 hz hm
      by_cases h00 : x = 0 ∧ y = 0
      · obtain ⟨rfl, rfl⟩ := h00
        have HE : Hid (val a0 a1 a2 a3 / 2 ^ k = val b0 b1 b2 b3 / 2 ^ k) := by
          have h1 := SA.out
          have h2 := SB.out
          show _ = _
          omega
        go_wp2_with fail
        refine wp_region_after (by kernel_rfl) (by kernel_rfl) ?_
        repeat (go_big_quiet_step ((first | (go_at_call_of 33 ((a0 : Nat) : Int); exact after_call (CA.out _)) | (go_at_call_of 33 ((b0 : Nat) : Int); exact after_call (CB.out _)))))
        refine wpQuiet_nil ?_
        rintro _ ⟨u, rfl⟩
        clear ua0 ua1 ua2 ua3 ub0 ub1 ub2 ub3
        have L2 := L.later u.below
        clear L
        generalize u.w = w2 at *
        have HL := Lib.hid L2
        clear L2
        go_wp2_with fail
        go_roundw
        case rel => exact ⟨k, (k : Int) - 1, by omega, by omega, rfl, HE.out, HL.out⟩
        case measure => simp [intOf]
      by_cases h01 : x = 0 ∧ y = 1
      · obtain ⟨rfl, rfl⟩ := h01
        have HOX : o = true := by
          have h1 := SA.out
          have h2 := SB.out
          rw [HO.out]
          exact decide_eq_true (half_lt _ _ k (by omega))
        subst HOX
        go_wp2_with fail
        refine wp_region_after (by kernel_rfl) (by kernel_rfl) ?_
        repeat (go_big_quiet_step ((first | (go_at_call_of 33 ((a0 : Nat) : Int); exact after_call (CA.out _)) | (go_at_call_of 33 ((b0 : Nat) : Int); exact after_call (CB.out _)))))
        refine wpQuiet_nil ?_
        rintro _ ⟨u, rfl⟩
        clear ua0 ua1 ua2 ua3 ub0 ub1 ub2 ub3
        have L2 := L.later u.below
        clear L
        generalize u.w = w2 at *
        clear a0' a1' a2' a3' b0' b1' b2' b3'
        have a0' : w2.cell? ⟨w.heap.size, 0, none⟩ = some (.int .u64 (a0 : Nat)) := L2.a.cell 0
        have a1' : w2.cell? ⟨w.heap.size, 1, none⟩ = some (.int .u64 (a1 : Nat)) := L2.a.cell 1
        have a2' : w2.cell? ⟨w.heap.size, 2, none⟩ = some (.int .u64 (a2 : Nat)) := L2.a.cell 2
        have a3' : w2.cell? ⟨w.heap.size, 3, none⟩ = some (.int .u64 (a3 : Nat)) := L2.a.cell 3
        have b0' : w2.cell? ⟨w.heap.size + 1, 0, none⟩ = some (.int .u64 (b0 : Nat)) := L2.b.cell 0
        have b1' : w2.cell? ⟨w.heap.size + 1, 1, none⟩ = some (.int .u64 (b1 : Nat)) := L2.b.cell 1
        have b2' : w2.cell? ⟨w.heap.size + 1, 2, none⟩ = some (.int .u64 (b2 : Nat)) := L2.b.cell 2
        have b3' : w2.cell? ⟨w.heap.size + 1, 3, none⟩ = some (.int .u64 (b3 : Nat)) := L2.b.cell 3
        have ua0 : ∀ u : After w2, u.w.cell? ⟨w.heap.size, 0, none⟩ = some (.int .u64 (a0 : Nat)) := fun u => u.cell a0'
        have ua1 : ∀ u : After w2, u.w.cell? ⟨w.heap.size, 1, none⟩ = some (.int .u64 (a1 : Nat)) := fun u => u.cell a1'
        have ua2 : ∀ u : After w2, u.w.cell? ⟨w.heap.size, 2, none⟩ = some (.int .u64 (a2 : Nat)) := fun u => u.cell a2'
        have ua3 : ∀ u : After w2, u.w.cell? ⟨w.heap.size, 3, none⟩ = some (.int .u64 (a3 : Nat)) := fun u => u.cell a3'
        have ub0 : ∀ u : After w2, u.w.cell? ⟨w.heap.size + 1, 0, none⟩ = some (.int .u64 (b0 : Nat)) := fun u => u.cell b0'
        have ub1 : ∀ u : After w2, u.w.cell? ⟨w.heap.size + 1, 1, none⟩ = some (.int .u64 (b1 : Nat)) := fun u => u.cell b1'
        have ub2 : ∀ u : After w2, u.w.cell? ⟨w.heap.size + 1, 2, none⟩ = some (.int .u64 (b2 : Nat)) := fun u => u.cell b2'
        have ub3 : ∀ u : After w2, u.w.cell? ⟨w.heap.size + 1, 3, none⟩ = some (.int .u64 (b3 : Nat)) := fun u => u.cell b3'
        go_wp2_with fail
        refine wp_region_after (by kernel_rfl) (by kernel_rfl) ?_
        repeat (go_big_quiet_step ((first | (go_at_call_of 33 ((a0 : Nat) : Int); exact after_call (CA.out _)) | (go_at_call_of 33 ((b0 : Nat) : Int); exact after_call (CB.out _)))))
        refine wpQuiet_nil ?_
        rintro _ ⟨u, rfl⟩
        clear ua0 ua1 ua2 ua3 ub0 ub1 ub2 ub3
        have L3 := L2.later u.below
        clear L2
        generalize u.w = w3 at *
        have HL := Lib.hid L3
        clear L3
        go_wp2_with fail
        go_ret
        exact ⟨rfl, HL.out.bel⟩
      by_cases h10 : x = 1 ∧ y = 0
      · obtain ⟨rfl, rfl⟩ := h10
        have HOX : o = false := by
          have h1 := SA.out
          have h2 := SB.out
          rw [HO.out]
          exact decide_eq_false (fun h => by have := half_lt (val b0 b1 b2 b3) (val a0 a1 a2 a3) k (by omega); omega)
        subst HOX
        go_wp2_with fail
        refine wp_region_after (by kernel_rfl) (by kernel_rfl) ?_
        repeat (go_big_quiet_step ((first | (go_at_call_of 33 ((a0 : Nat) : Int); exact after_call (CA.out _)) | (go_at_call_of 33 ((b0 : Nat) : Int); exact after_call (CB.out _)))))
        refine wpQuiet_nil ?_
        rintro _ ⟨u, rfl⟩
        clear ua0 ua1 ua2 ua3 ub0 ub1 ub2 ub3
        have L2 := L.later u.below
        clear L
        generalize u.w = w2 at *
        clear a0' a1' a2' a3' b0' b1' b2' b3'
        have a0' : w2.cell? ⟨w.heap.size, 0, none⟩ = some (.int .u64 (a0 : Nat)) := L2.a.cell 0
        have a1' : w2.cell? ⟨w.heap.size, 1, none⟩ = some (.int .u64 (a1 : Nat)) := L2.a.cell 1
        have a2' : w2.cell? ⟨w.heap.size, 2, none⟩ = some (.int .u64 (a2 : Nat)) := L2.a.cell 2
        have a3' : w2.cell? ⟨w.heap.size, 3, none⟩ = some (.int .u64 (a3 : Nat)) := L2.a.cell 3
        have b0' : w2.cell? ⟨w.heap.size + 1, 0, none⟩ = some (.int .u64 (b0 : Nat)) := L2.b.cell 0
        have b1' : w2.cell? ⟨w.heap.size + 1, 1, none⟩ = some (.int .u64 (b1 : Nat)) := L2.b.cell 1
        have b2' : w2.cell? ⟨w.heap.size + 1, 2, none⟩ = some (.int .u64 (b2 : Nat)) := L2.b.cell 2
        have b3' : w2.cell? ⟨w.heap.size + 1, 3, none⟩ = some (.int .u64 (b3 : Nat)) := L2.b.cell 3
        have ua0 : ∀ u : After w2, u.w.cell? ⟨w.heap.size, 0, none⟩ = some (.int .u64 (a0 : Nat)) := fun u => u.cell a0'
        have ua1 : ∀ u : After w2, u.w.cell? ⟨w.heap.size, 1, none⟩ = some (.int .u64 (a1 : Nat)) := fun u => u.cell a1'
        have ua2 : ∀ u : After w2, u.w.cell? ⟨w.heap.size, 2, none⟩ = some (.int .u64 (a2 : Nat)) := fun u => u.cell a2'
        have ua3 : ∀ u : After w2, u.w.cell? ⟨w.heap.size, 3, none⟩ = some (.int .u64 (a3 : Nat)) := fun u => u.cell a3'
        have ub0 : ∀ u : After w2, u.w.cell? ⟨w.heap.size + 1, 0, none⟩ = some (.int .u64 (b0 : Nat)) := fun u => u.cell b0'
        have ub1 : ∀ u : After w2, u.w.cell? ⟨w.heap.size + 1, 1, none⟩ = some (.int .u64 (b1 : Nat)) := fun u => u.cell b1'
        have ub2 : ∀ u : After w2, u.w.cell? ⟨w.heap.size + 1, 2, none⟩ = some (.int .u64 (b2 : Nat)) := fun u => u.cell b2'
        have ub3 : ∀ u : After w2, u.w.cell? ⟨w.heap.size + 1, 3, none⟩ = some (.int .u64 (b3 : Nat)) := fun u => u.cell b3'
        go_wp2_with fail
        refine wp_region_after (by kernel_rfl) (by kernel_rfl) ?_
        repeat (go_big_quiet_step ((first | (go_at_call_of 33 ((a0 : Nat) : Int); exact after_call (CA.out _)) | (go_at_call_of 33 ((b0 : Nat) : Int); exact after_call (CB.out _)))))
        refine wpQuiet_nil ?_
        rintro _ ⟨u, rfl⟩
        clear ua0 ua1 ua2 ua3 ub0 ub1 ub2 ub3
        have L3 := L2.later u.below
        clear L2
        generalize u.w = w3 at *
        have HL := Lib.hid L3
        clear L3
        go_wp2_with fail
        go_ret
        exact ⟨rfl, HL.out.bel⟩
      by_cases h11 : x = 1 ∧ y = 1
      · obtain ⟨rfl, rfl⟩ := h11
        have HE : Hid (val a0 a1 a2 a3 / 2 ^ k = val b0 b1 b2 b3 / 2 ^ k) := by
          have h1 := SA.out
          have h2 := SB.out
          show _ = _
          omega
        go_wp2_with fail
        refine wp_region_after (by kernel_rfl) (by kernel_rfl) ?_
        repeat (go_big_quiet_step ((first | (go_at_call_of 33 ((a0 : Nat) : Int); exact after_call (CA.out _)) | (go_at_call_of 33 ((b0 : Nat) : Int); exact after_call (CB.out _)))))
        refine wpQuiet_nil ?_
        rintro _ ⟨u, rfl⟩
        clear ua0 ua1 ua2 ua3 ub0 ub1 ub2 ub3
        have L2 := L.later u.below
        clear L
        generalize u.w = w2 at *
        have HL := Lib.hid L2
        clear L2
        go_wp2_with fail
        go_roundw
        case rel => exact ⟨k, (k : Int) - 1, by omega, by omega, rfl, HE.out, HL.out⟩
        case measure => simp [intOf]
      omega

theorem bitsOf_step0 {A k n : Nat} (h : BitsOf (A % 2 ^ k) n) (hb : A / 2 ^ k % 2 = 0) : BitsOf (A % 2 ^ (k + 1)) n := by
  rw [mod_succ, hb, Nat.mul_zero, Nat.add_zero]; exact h
theorem bitsOf_step1 {A k : Nat} (hb : A / 2 ^ k % 2 = 1) : BitsOf (A % 2 ^ (k + 1)) (k + 1) := by
  rw [mod_succ, hb, Nat.mul_one]
  have h1 := Nat.mod_lt A (Nat.two_pow_pos k)
  have hp : 0 < 2 ^ k := Nat.two_pow_pos k
  exact ⟨fun h => by omega, fun _ => ⟨by omega, by rw [show k + 1 - 1 = k from rfl]; omega, by rw [Nat.pow_succ]; omega⟩⟩

set_option maxRecDepth 100000 in
set_option maxHeartbeats 16000000 in
theorem refbits_any {a0 a1 a2 a3 n : Nat} (ha : Words a0 a1 a2 a3) (hn : BitsOf (val a0 a1 a2 a3) n) (w : World) : Calls Try.prog 31 #[.agg #[.int .u64 (a0 : Nat), .int .u64 (a1 : Nat), .int .u64 (a2 : Nat), .int .u64 (a3 : Nat)]] w fun e w' => e = .returned (.int .i64 (n : Nat)) ∧ Below w.heap.size w w' := by
  have lA : val a0 a1 a2 a3 < 115792089237316195423570985008687907853269984665640564039457584007913129639936 := by obtain ⟨_, _, _, _⟩ := ha; unfold val; omega
  have LA := Lib.hid lA
  have HN := Lib.hid hn
  clear lA hn
  go_enter Try.func31, Try.ntmps31
  go_wp2_with fail
  go_loopw [3, 4] (fun c i wr => ∃ k b : Nat, k ≤ 256 ∧ b ≤ k ∧ i = .int .i64 (k : Nat) ∧ c = .int .i64 (b : Nat) ∧ BitsOf (val a0 a1 a2 a3 % 2 ^ k) b ∧ Holds wr w.heap.size #[.int .u64 (a0 : Nat), .int .u64 (a1 : Nat), .int .u64 (a2 : Nat), .int .u64 (a3 : Nat)] 25 ∧ Below w.heap.size w wr) (fun _ i _ => 256 - (intOf i).toNat)
  case atStart => exact ⟨0, 0, by omega, by omega, rfl, rfl, by rw [Nat.pow_zero, Nat.mod_one]; simp [BitsOf], Holds.new _ _ _, (Below.refl _ _).alloc (Nat.le_refl _) _⟩
  case round =>
    obtain ⟨k, b, hk, hbk, rfl, rfl, hbits, H, bel⟩ := hrel
    by_cases hlt : k < 256
    · have t1 : decide ((k : Int) < 256) = true := decide_eq_true (by omega)
      have a0' : wr.cell? ⟨w.heap.size, 0, none⟩ = some (.int .u64 (a0 : Nat)) := H.cell 0
      have a1' : wr.cell? ⟨w.heap.size, 1, none⟩ = some (.int .u64 (a1 : Nat)) := H.cell 1
      have a2' : wr.cell? ⟨w.heap.size, 2, none⟩ = some (.int .u64 (a2 : Nat)) := H.cell 2
      have a3' : wr.cell? ⟨w.heap.size, 3, none⟩ = some (.int .u64 (a3 : Nat)) := H.cell 3
      obtain ⟨x, hx⟩ : ∃ x, x = val a0 a1 a2 a3 / 2 ^ k % 2 := ⟨_, rfl⟩
      have CA := Lib.hid (bitIs ha hlt hx)
      have hx2 : x = 0 ∨ x = 1 := by rw [hx]; exact bit_two _
      have HX := Lib.hid hx
      have HBITS := Lib.hid hbits
      clear hx hbits
      rcases hx2 with rfl | rfl
      · go_wp2_with fail
        refine (CA.out _).mono ?_
        rintro e w2 ⟨rfl, hc⟩
        have H2 := H.later hc
        have HB := Lib.hid (bel.trans (hc.mono bel.size))
        clear hc bel H
        go_wp2_with fail
        go_roundw
        case rel => exact ⟨k + 1, b, by omega, by omega, by go_num, rfl, bitsOf_step0 HBITS.out HX.out.symm, H2, HB.out⟩
        case measure => simp [intOf]; omega
      · go_wp2_with fail
        refine (CA.out _).mono ?_
        rintro e w2 ⟨rfl, hc⟩
        have H2 := H.later hc
        have HB := Lib.hid (bel.trans (hc.mono bel.size))
        clear hc bel H
        go_wp2_with fail
        go_roundw
        case rel => exact ⟨k + 1, k + 1, by omega, by omega, by go_num, by go_num, bitsOf_step1 HX.out.symm, H2, HB.out⟩
        case measure => simp [intOf]; omega
    · obtain rfl : k = 256 := by omega
      rw [show (2 : Nat) ^ 256 = 115792089237316195423570985008687907853269984665640564039457584007913129639936 by decide, Nat.mod_eq_of_lt LA.out] at hbits
      obtain rfl : n = b := HN.out.uniq hbits
      have HB := Lib.hid bel
      clear hbits HN bel
      go_wp2_with fail
      go_ret
      exact ⟨rfl, HB.out⟩

end Go.Proofs.Ytnipajfglmahiaa
