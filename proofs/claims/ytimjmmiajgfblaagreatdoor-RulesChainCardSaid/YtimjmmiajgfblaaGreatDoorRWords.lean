/- The reference's words of a piece. No condition but that the piece is 64 bytes. -/
import Derived.Test.YtimjmmiajgfblaaGreatDoorGab
import Derived.Test.YtimjmmiajgfblaaGreatDoorGad
import Derived.BigQuiet
import Derived.Deep.QuietTactic
import Derived.WalkSmall
import Derived.BigRegion

namespace Go.Proofs.YtimjmmiajgfblaaGreatDoor
open Go.RowKit

theorem Wn.nil_ {w wr : World} (b : Below w.heap.size w wr) : Wn w (.slice none 0 0) 0 [] wr := ⟨⟨rfl, .inl ⟨rfl, rfl⟩⟩, allW_nil, b⟩
def lenW : Value → Nat | .slice _ n _ => n | _ => 0
def GivesW (w : World) (L : List Nat) (e : Ending) (w' : World) : Prop := ∃ A n c, e = .returned (.slice A n c) ∧ n ≤ c ∧ Wn w (.slice A n c) n L w'
theorem Ws.litE (w : World) {V : Int} {x : Nat} (hV : V = (x : Int)) (h : x < 4294967296) : Ws (w.alloc (.cells #[.int .u32 V] 22)) (some ⟨w.heap.size, 0, none⟩) 1 [x] := by subst hV; exact Ws.lit1 w h

theorem run_appW {w0 w : World} {v : Value} {n m c : Nat} {L M : List Nat} {A : Option Addr} (ty : TypeId) (hown : Wn w0 v n L w) (hr : Ws w A m M) (h0 : 0 < m) (hlen : n + m ≤ 1099511627776) :
    ∃ A' c' w', (Builtin.append_ #[48, 48] ty #[v, .slice A m c]).run Tryz.prog w = .ok (.slice A' (n + m) c') w' ∧ Wn w0 (.slice A' (n + m) c') (n + m) (L ++ M) w' ∧ w.grownBy w' v.ownBlock := by
  obtain ⟨i0, hi, hz0, hz1, hz2⟩ := info_parts Tryz.infoWord
  have hsz := hown.size
  obtain ⟨ad, rfl, _, hcel⟩ := hr.cel h0
  obtain ⟨v', w', h1, h2, h3, _, h5⟩ := run_append_own_at (P := Tryz.prog) w w0.heap.size 48 ty 22 i0 (.int .u32 0) 1 4 Tryz.underlying48 hi hz0 hz1 hz2 rfl (by decide) v n (u32s L) hown.row ad m c (u32s M) (by rw [u32s_len, hr.len, Nat.mul_one]) hr.cells (u32s_one M) (by unfold maxLen; omega) (by omega) hsz
  have o := hown.grown hr.byt h2 h3
  obtain ⟨A', c', rfl, _⟩ := o.shape
  exact ⟨A', c', w', h1, o, h3⟩
/-- append, by a name that the walk does not lay open. -/
def appW (args : Array Value) : Sem Value := Builtin.append_ #[48, 48] 48 args
theorem appW_mark (args : Array Value) : Builtin.append_ #[48, 48] 48 args = appW args := rfl
attribute [local go_sem ↓] appW_mark

set_option maxRecDepth 100000 in
set_option maxHeartbeats 4000000 in
theorem words_any {A : Option Addr} {c : Nat} {p : List Nat} (w : World) (hp : Bs w A 64 p) : Calls Tryz.prog 96 #[.slice A 64 c] w (GivesW w (sched p 64)) := by
  have HP := Lib.hid hp
  clear hp
  obtain ⟨a, rfl, _⟩ := HP.out.cel (by omega)
  go_enter Tryz.func96, Tryz.ntmps96
  go_wp2_with fail
  go_loopw [3, 4] (fun v i wr => ∃ (t : Nat) (A' : Option Addr) (c' : Nat), t ≤ 16 ∧ v = .slice A' t c' ∧ i = .int .i64 (t : Nat) ∧ Wn w (.slice A' t c') t (sched p t) wr) (fun _ i _ => 16 - (intOf i).toNat)
  case atStart => exact ⟨0, none, 0, by omega, rfl, rfl, Wn.nil_ (Below.refl _ _)⟩
  case round =>
    obtain ⟨t, A', c', ht, rfl, rfl, O⟩ := hrel
    have HO := Lib.hid O
    clear O
    by_cases hlt : t < 16
    · have t1 : decide ((t : Int) < 16) = true := decide_eq_true (by omega)
      have HR := Lib.hid (HP.out.later HO.out.bel)
      have b0 := nth_lt HP.out.byt (4 * t)
      have b1 := nth_lt HP.out.byt (4 * t + 1)
      have b2 := nth_lt HP.out.byt (4 * t + 2)
      have b3 := nth_lt HP.out.byt (4 * t + 3)
      obtain ⟨x0, hx0⟩ : ∃ x, nth p (4 * t) = x := ⟨_, rfl⟩
      obtain ⟨x1, hx1⟩ : ∃ x, nth p (4 * t + 1) = x := ⟨_, rfl⟩
      obtain ⟨x2, hx2⟩ : ∃ x, nth p (4 * t + 2) = x := ⟨_, rfl⟩
      obtain ⟨x3, hx3⟩ : ∃ x, nth p (4 * t + 3) = x := ⟨_, rfl⟩
      rw [hx0] at b0
      rw [hx1] at b1
      rw [hx2] at b2
      rw [hx3] at b3
      have hw : sched p (t + 1) = sched p t ++ [og (og (og (sl x0 24) (sl x1 16)) (sl x2 8)) x3] := by
        rw [sched, if_pos hlt]; unfold word; rw [hx0, hx1, hx2, hx3]
      have HW := Lib.hid hw
      have H0 := Lib.hid hx0
      have H1 := Lib.hid hx1
      have H2 := Lib.hid hx2
      have H3 := Lib.hid hx3
      clear hw hx0 hx1 hx2 hx3
      have l0 : wr.cell? (a.add (4 * t)) = some (.int .u8 (x0 : Int)) := by
        obtain ⟨a2, e, _, h, _⟩ := HR.out.at_ (k := 4 * t) (by omega)
        injection e with e; subst e; rw [h, H0.out]
      have l1 : wr.cell? (a.add (4 * t + 1)) = some (.int .u8 (x1 : Int)) := by
        obtain ⟨a2, e, _, h, _⟩ := HR.out.at_ (k := 4 * t + 1) (by omega)
        injection e with e; subst e; rw [h, H1.out]
      have l2 : wr.cell? (a.add (4 * t + 2)) = some (.int .u8 (x2 : Int)) := by
        obtain ⟨a2, e, _, h, _⟩ := HR.out.at_ (k := 4 * t + 2) (by omega)
        injection e with e; subst e; rw [h, H2.out]
      have l3 : wr.cell? (a.add (4 * t + 3)) = some (.int .u8 (x3 : Int)) := by
        obtain ⟨a2, e, _, h, _⟩ := HR.out.at_ (k := 4 * t + 3) (by omega)
        injection e with e; subst e; rw [h, H3.out]
      have m1 : wr.cell? ⟨a.block, a.off + (4 * t + 1), none⟩ = some (.int .u8 (x1 : Int)) := by
        rw [← l1]; unfold Addr.add; rw [if_neg (by omega)]
      have m2 : wr.cell? ⟨a.block, a.off + (4 * t + 2), none⟩ = some (.int .u8 (x2 : Int)) := by
        rw [← l2]; unfold Addr.add; rw [if_neg (by omega)]
      have m3 : wr.cell? ⟨a.block, a.off + (4 * t + 3), none⟩ = some (.int .u8 (x3 : Int)) := by
        rw [← l3]; unfold Addr.add; rw [if_neg (by omega)]
      have E := word_bits (x3 := x3) b0 b1 b2
      have E256 : og (og (og (sl x0 24) (sl x1 16)) (sl x2 8)) x3 < 4294967296 := Nat.mod_lt _ (by decide)
      obtain ⟨X, hX⟩ : ∃ X, og (og (og (sl x0 24) (sl x1 16)) (sl x2 8)) x3 = X := ⟨_, rfl⟩
      rw [hX] at E E256 HW
      have HLIT : Hid (Ws ((wr.alloc (.cells #[.int .u32 (X : Int)] 22)).drew) (some ⟨wr.heap.size, 0, none⟩) 1 [X]) := Lib.hid ((Ws.lit1 wr E256).later (Below.refl _ _).drew)
      clear hX
      have v0 : IntKind.i64.wrap (4 * (t : Int)) = 4 * (t : Int) := by rw [IntKind.wrap_i64]; omega
      have v1 : IntKind.i64.wrap (4 * (t : Int) + 1) = 4 * (t : Int) + 1 := by rw [IntKind.wrap_i64]; omega
      have v2 : IntKind.i64.wrap (4 * (t : Int) + 2) = 4 * (t : Int) + 2 := by rw [IntKind.wrap_i64]; omega
      have v3 : IntKind.i64.wrap (4 * (t : Int) + 3) = 4 * (t : Int) + 3 := by rw [IntKind.wrap_i64]; omega
      have p0 : (0 : Int) ≤ 4 * (t : Int) := by omega
      have q0 : 4 * (t : Int) < 64 := by omega
      have p1 : (0 : Int) ≤ 4 * (t : Int) + 1 := by omega
      have q1 : 4 * (t : Int) + 1 < 64 := by omega
      have p2 : (0 : Int) ≤ 4 * (t : Int) + 2 := by omega
      have q2 : 4 * (t : Int) + 2 < 64 := by omega
      have p3 : (0 : Int) ≤ 4 * (t : Int) + 3 := by omega
      have q3 : 4 * (t : Int) + 3 < 64 := by omega
      have t0 : (4 * (t : Int)).toNat = 4 * t := by omega
      have ti1 : (4 * (t : Int) + 1).toNat = 4 * t + 1 := by omega
      have ti2 : (4 * (t : Int) + 2).toNat = 4 * t + 2 := by omega
      have ti3 : (4 * (t : Int) + 3).toNat = 4 * t + 3 := by omega
      have y0 : IntKind.u32.wrap (x0 : Int) = (x0 : Int) := by rw [IntKind.wrap_u32']; omega
      have y1 : IntKind.u32.wrap (x1 : Int) = (x1 : Int) := by rw [IntKind.wrap_u32']; omega
      have y2 : IntKind.u32.wrap (x2 : Int) = (x2 : Int) := by rw [IntKind.wrap_u32']; omega
      have y3 : IntKind.u32.wrap (x3 : Int) = (x3 : Int) := by rw [IntKind.wrap_u32']; omega
      have z0 : IntKind.u32.wrap ((x0 : Int) * 16777216) = (x0 : Int) * 16777216 := by rw [IntKind.wrap_u32']; omega
      have z1 : IntKind.u32.wrap ((x1 : Int) * 65536) = (x1 : Int) * 65536 := by rw [IntKind.wrap_u32']; omega
      have z2 : IntKind.u32.wrap ((x2 : Int) * 256) = (x2 : Int) * 256 := by rw [IntKind.wrap_u32']; omega
      obtain ⟨A5, c5, w5, r1, O5, _⟩ := run_appW (c := 1) 48 (HO.out.later ((Below.refl _ _).alloc (Nat.le_refl _) (.cells #[.int .u32 (X : Int)] 22)).drew) HLIT.out (by decide) (by omega)
      rw [appW_mark] at r1
      have H5 := Lib.hid O5
      clear O5
      go_wp2_with fail
      go_region
      all_goals go_wp2_with fail
      exact ⟨⟨t + 1, A5, c5, by omega, rfl, by go_num, by rw [HW.out]; exact H5.out⟩, by simp [intOf]; omega⟩
    · obtain rfl : t = 16 := by omega
      rw [show ((16 : Nat) : Int) = 16 from rfl]
      go_wp2_with fail
      go_loopw [3, 5] (fun v i wr => ∃ (t : Nat) (A' : Option Addr) (c' : Nat), 16 ≤ t ∧ t ≤ 64 ∧ v = .slice A' t c' ∧ i = .int .i64 (t : Nat) ∧ Wn w (.slice A' t c') t (sched p t) wr) (fun _ i _ => 64 - (intOf i).toNat)
      case atStart => exact ⟨16, A', c', by omega, by omega, rfl, rfl, HO.out⟩
      case round =>
        clear HO
        obtain ⟨t, A', c', h16, ht, rfl, rfl, O⟩ := hrel
        obtain ⟨g, cap, hv, _, hlt2⟩ := O.row.form (by omega)
        have hA : A' = some ⟨g, 0, none⟩ := by injection hv
        subst hA
        have HO := Lib.hid O
        clear O hv
        by_cases hlt : t < 64
        · have t1 : decide ((t : Int) < 64) = true := decide_eq_true (by omega)
          have rd : ∀ k, k < t → wr.cell? ⟨g, k, none⟩ = some (.int .u32 (nth (sched p t) k : Nat)) := fun k hk => by
            have h := HO.out.row.cells (g := g) rfl k _ (u32s_get _ k (by rw [sched_len]; exact hk))
            have e : (⟨g, 0, none⟩ : Addr).add k = ⟨g, k, none⟩ := by unfold Addr.add; split <;> simp_all
            rwa [e] at h
          have l15 := rd (t - 15) (by omega)
          have l2 := rd (t - 2) (by omega)
          have l7 := rd (t - 7) (by omega)
          have l16 := rd (t - 16) (by omega)
          have e15 : (t : Int) - 15 = ((t - 15 : Nat) : Int) := by omega
          have e2 : (t : Int) - 2 = ((t - 2 : Nat) : Int) := by omega
          have e7 : (t : Int) - 7 = ((t - 7 : Nat) : Int) := by omega
          have e16 : (t : Int) - 16 = ((t - 16 : Nat) : Int) := by omega
          obtain ⟨x15, hx15⟩ : ∃ x, nth (sched p t) (t - 15) = x := ⟨_, rfl⟩
          obtain ⟨x2, hx2⟩ : ∃ x, nth (sched p t) (t - 2) = x := ⟨_, rfl⟩
          obtain ⟨x7, hx7⟩ : ∃ x, nth (sched p t) (t - 7) = x := ⟨_, rfl⟩
          obtain ⟨x16, hx16⟩ : ∃ x, nth (sched p t) (t - 16) = x := ⟨_, rfl⟩
          rw [hx15] at l15
          rw [hx2] at l2
          rw [hx7] at l7
          rw [hx16] at l16
          have hw : sched p (t + 1) = sched p t ++ [ad (ad (ad (sg1 x2) x7) (sg0 x15)) x16] := by
            rw [sched, if_neg (by omega)]; unfold wnext; rw [hx15, hx2, hx7, hx16]
          obtain ⟨j15, hj15⟩ : ∃ j, t - 15 = j := ⟨_, rfl⟩
          obtain ⟨j2, hj2⟩ : ∃ j, t - 2 = j := ⟨_, rfl⟩
          obtain ⟨j7, hj7⟩ : ∃ j, t - 7 = j := ⟨_, rfl⟩
          obtain ⟨j16, hj16⟩ : ∃ j, t - 16 = j := ⟨_, rfl⟩
          rw [hj15] at l15 e15
          rw [hj2] at l2 e2
          rw [hj7] at l7 e7
          rw [hj16] at l16 e16
          have n15 : j15 < t := by omega
          have n2 : j2 < t := by omega
          have n7 : j7 < t := by omega
          have n16 : j16 < t := by omega
          obtain ⟨X, hX⟩ : ∃ X, ad (ad (ad (sg1 x2) x7) (sg0 x15)) x16 = X := ⟨_, rfl⟩
          have E := next_bits x2 x7 x15 x16
          have E32 : ad (ad (ad (sg1 x2) x7) (sg0 x15)) x16 < 4294967296 := Nat.mod_lt _ (by decide)
          rw [hX] at hw E E32
          have HW := Lib.hid hw
          clear hw hx15 hx2 hx7 hx16 hj15 hj2 hj7 hj16 hX rd
          have HLIT : Hid (Ws ((wr.alloc (.cells #[.int .u32 (X : Int)] 22)).drew) (some ⟨wr.heap.size, 0, none⟩) 1 [X]) := Lib.hid ((Ws.lit1 wr E32).later (Below.refl _ _).drew)
          obtain ⟨A5, c5, w5, r1, O5, _⟩ := run_appW (c := 1) 48 (HO.out.later ((Below.refl _ _).alloc (Nat.le_refl _) (.cells #[.int .u32 (X : Int)] 22)).drew) HLIT.out (by decide) (by omega)
          rw [appW_mark] at r1
          have H5 := Lib.hid O5
          clear O5
          go_wp2_with fail
          refine (right_any _ 7 (by decide) (by decide) _).mono ?_
          rintro e wa ⟨rfl, rfl⟩
          go_wp2_with fail
          refine (right_any _ 18 (by decide) (by decide) _).mono ?_
          rintro e wa ⟨rfl, rfl⟩
          go_wp2_with fail
          refine (right_any _ 17 (by decide) (by decide) _).mono ?_
          rintro e wa ⟨rfl, rfl⟩
          go_wp2_with fail
          refine (right_any _ 19 (by decide) (by decide) _).mono ?_
          rintro e wa ⟨rfl, rfl⟩
          go_wp2_with fail
          go_region
          all_goals go_wp2_with fail
          exact ⟨⟨t + 1, A5, c5, by omega, by omega, rfl, by go_num, by rw [HW.out]; exact H5.out⟩, by simp [intOf]; omega⟩
        · obtain rfl : t = 64 := by omega
          go_wp2_with fail
          go_ret
          obtain ⟨_, d, hd, hle⟩ := HO.out.shape
          exact ⟨_, 64, c', rfl, by injection hd with _ _ h3; omega, HO.out⟩
end Go.Proofs.YtimjmmiajgfblaaGreatDoor
