/- On. No condition but a bound on what is loose. -/
import Derived.Test.YtgnomopiofpknaaRead
namespace Go.Proofs.Ytgnomopiofpknaa
open Go.RowKit

/-- A slice of ints that reads as L. -/
structure Zs (w : World) (A : Option Addr) (n : Nat) (L : List Int) : Prop where
  len : L.length = n
  rng : ∀ x ∈ L, -9223372036854775808 ≤ x ∧ x ≤ 9223372036854775807
  cel : ∀ k, k < n → ∃ a, A = some a ∧ a.block < w.heap.size ∧ w.cell? (a.add k) = some (.int .i64 (pick L k))
theorem Zs.nil (w : World) (A : Option Addr) : Zs w A 0 [] := ⟨rfl, fun x hx => (by cases hx), fun k hk => absurd hk (by omega)⟩
theorem pick_rng {L : List Int} (h : ∀ x ∈ L, -9223372036854775808 ≤ x ∧ x ≤ 9223372036854775807) (k : Nat) : -9223372036854775808 ≤ pick L k ∧ pick L k ≤ 9223372036854775807 := by
  unfold pick
  rw [List.getD_eq_getElem?_getD]
  cases e : L[k]? with
  | none => decide
  | some x => exact h x (List.mem_of_getElem? e)
theorem pick_none {L : List Int} {k : Nat} (h : L.length ≤ k) : pick L k = 0 := by
  unfold pick
  rw [List.getD_eq_getElem?_getD, List.getElem?_eq_none h]
  rfl
theorem Did.trans {w0 w w1 w2 : World} {d : Nat} {F : Nat → Prop} {S1 S2 : Dk} (A : Did w0 d F w S1 w1) (B : Did w0 d (Gr F w w1) w1 S2 w2) : Did w0 d F w S2 w2 := by
  have h1 := A.kept.size
  have h2 := B.kept.size
  refine ⟨B.dsk.more (Gr.step h1 h2) (fun b hb => ?_), by omega, fun b hb hl => by rw [B.kept.blk b (Gr.not hb hl) (by omega), A.kept.blk b hb hl]⟩
  obtain ⟨_, _, _, _, _, _, D, _, hL⟩ := A.dsk
  have := D.bel.size
  rcases hb with hb | hb
  · have := hL b (.inl hb)
    omega
  · rcases Nat.lt_or_ge b w1.heap.size with h | h
    · have := hL b (.inr ⟨hb.1, h⟩)
      omega
    · omega
theorem filLose {w0 w : World} {d : Nat} {S : Dk} (ok : S.Ok) {i : Nat} (hi : i = 0 ∨ i = 1) (hn : S.cnt ≤ 1073741823) {z : Int} (hz : -9223372036854775808 ≤ z ∧ z ≤ 9223372036854775807) : FilOp w0 d S i ((S.at i).lose z) 39 #[.int .i64 z] w := by
  intro w1 S1 P vs vl vs0 vl0 vs1 vl1 K hS F R hd hw c0 c1
  have ha : (#[Value.pointer (some ⟨d, 3 + 3 * i, none⟩)] ++ #[.int .i64 z] : Array Value) = #[.pointer (some ⟨d, 3 + 3 * i, none⟩), .int .i64 z] := by simp
  rw [ha]
  exact lose_any F R hd hw c0 c1 (dkV_size hi).2 ((ok.at_ i).f.mono ok.most) (by have := S.cnt_at i; omega) hz
theorem lose_file {w0 w : World} {d : Nat} {F : Nat → Prop} {S : Dk} (D : Dsk w0 d F S w) (i : Nat) (hi : i = 0 ∨ i = 1) (hn : S.cnt ≤ 1073741823) {z : Int} (hz : -9223372036854775808 ≤ z ∧ z ≤ 9223372036854775807) :
    Calls Try.prog 39 #[.pointer (some ⟨d, 3 + 3 * i, none⟩), .int .i64 z] w fun e W => e = .returned (.tuple #[]) ∧ Did w0 d F w (S.put i ((S.at i).lose z)) W := by
  obtain ⟨P0, P1, vs0, vl0, vs1, vl1, D, hF, hL⟩ := D
  have ok := D.ok
  have := burn_call (S := S) D hF hL D.bel.size ⟨Nat.le_refl _, fun _ _ _ => rfl⟩ rfl rfl rfl i hi _ _ #[.int .i64 z] (filLose ok hi hn hz) (ok.put i ((ok.at_ i).lose z))
  have ha : (#[Value.pointer (some ⟨d, 3 + 3 * i, none⟩)] ++ #[.int .i64 z] : Array Value) = #[.pointer (some ⟨d, 3 + 3 * i, none⟩), .int .i64 z] := by simp
  rwa [ha] at this
/-- k files have lost what they lose. -/
def Dk.lost (S : Dk) (p : List Int) : Nat → Dk
  | 0 => S
  | k + 1 => (S.lost p k).put k (((S.lost p k).at k).lose (pick p k))
theorem Dk.lost_on (S : Dk) (p : List Int) (h : S.off = true) : S.goOn p = (0, { S.lost p 2 with off := false, fuse := -1 }) := by
  unfold Dk.goOn
  rw [if_pos h]
  rfl
theorem Dk.lost_cnt (S : Dk) (p : List Int) : ∀ k, k ≤ 2 → (S.lost p k).cnt ≤ S.cnt
  | 0, _ => Nat.le_refl _
  | 1, _ => by show 0 + S.g.loose.length ≤ _; unfold Dk.cnt; omega
  | 2, _ => by show 0 + 0 ≤ _; omega
theorem on_nil (w : World) (A : Option Addr) (n c : Nat) : Calls Try.prog 18 #[.pointer none, .slice A n c] w fun e w' => e = .returned (.int .i64 2) ∧ w' = w := by
  go_enter Try.func18, Try.ntmps18
  go_wp2_with fail
  go_ret
  exact ⟨rfl, rfl⟩
theorem on_end {w0 w wr : World} {d : Nat} {F : Nat → Prop} {S S1 : Dk} (A : Did w0 d F w S1 wr) : Did w0 d F w { S1 with off := false, fuse := -1 } ((wr.setCell ⟨d, 1, none⟩ (.bool false)).setCell ⟨d, 2, none⟩ (.int .i64 (-1))) := by
  have B1 : Did w0 d (Gr F w wr) wr { S1 with off := false } (wr.setCell ⟨d, 1, none⟩ (.bool false)) := by
    obtain ⟨P0, P1, vs0, vl0, vs1, vl1, D, hF, hL⟩ := A.dsk
    exact D.setDid hF hL 1 (.bool false) rfl rfl (D.ok.off false) rfl
  have A2 := A.trans B1
  refine A2.trans ?_
  obtain ⟨P0, P1, vs0, vl0, vs1, vl1, D, hF, hL⟩ := A2.dsk
  exact D.setDid hF hL 2 (.int .i64 (-1)) rfl rfl { D.ok with fuse := by simp only; omega } rfl
theorem Did.cells {w0 w wr : World} {d : Nat} {F : Nat → Prop} {S1 : Dk} (A : Did w0 d F w S1 wr) : wr.cell? ⟨d, 1, none⟩ = some (.bool S1.off) ∧ wr.cell? ⟨d, 2, none⟩ = some (.int .i64 S1.fuse) ∧ wr.frozen? ⟨d, 1, none⟩ = false ∧ wr.frozen? ⟨d, 2, none⟩ = false ∧ (wr.setCell ⟨d, 1, none⟩ (.bool false)).cell? ⟨d, 2, none⟩ = some (.int .i64 S1.fuse) ∧ (wr.setCell ⟨d, 1, none⟩ (.bool false)).frozen? ⟨d, 2, none⟩ = false := by
  obtain ⟨P0, P1, vs0, vl0, vs1, vl1, D, hF, hL⟩ := A.dsk
  exact ⟨D.cells.2.1, D.cells.2.2.1, D.ro.free 1, D.ro.free 2, (D.ro.set 1 _).cell rfl, (D.ro.set 1 _).free 2⟩

set_option maxRecDepth 100000 in
set_option maxHeartbeats 8000000 in
theorem on_any {w0 w : World} {d : Nat} {F : Nat → Prop} {S : Dk} (D : Dsk w0 d F S w) (hn : S.cnt ≤ 1073741823) {A : Option Addr} {n c : Nat} {p : List Int} (hp : Zs w A n p) (hA : 0 < n → ∀ a, A = some a → ¬ F a.block) (hc : n ≤ c) (hcm : c ≤ 9223372036854775807) :
    Calls Try.prog 18 #[.pointer (some ⟨d, 0, none⟩), .slice A n c] w fun e W => e = .returned (.int .i64 (S.goOn p).1) ∧ Did w0 d F w (S.goOn p).2 W := by
  have k1 := D.c1
  have HD := Lib.hid D
  have HP := Lib.hid hp
  have HA := Lib.hid hA
  clear D hp hA
  cases hs : S.off with
  | false =>
    have es : S.goOn p = (3, S) := by unfold Dk.goOn; rw [if_neg (by simp [hs])]
    rw [es]
    rw [hs] at k1
    go_enter Try.func18, Try.ntmps18
    go_wp2_with fail
    go_ret
    exact ⟨rfl, Did.refl HD.out⟩
  | true =>
    rw [S.lost_on p hs]
    rw [hs] at k1
    have CL : Hid (∀ (k : Nat) wr, k < 2 → Did w0 d F w (S.lost p k) wr → Calls Try.prog 39 #[.pointer (some ⟨d, 3 + 3 * k, none⟩), .int .i64 (pick p k)] wr fun e W => e = .returned (.tuple #[]) ∧ Did w0 d F w (S.lost p (k + 1)) W) := Lib.hid fun k wr hk A1 =>
      (lose_file A1.dsk k (by omega) (by have := S.lost_cnt p k (by omega); omega) (pick_rng HP.out.rng k)).mono fun e W ⟨h1, h2⟩ => ⟨h1, A1.trans h2⟩
    have CP : Hid (∀ (k : Nat) wr S1, k < n → Did w0 d F w S1 wr → ∃ a, A = some a ∧ wr.cell? (a.add k) = some (.int .i64 (pick p k))) := Lib.hid fun k wr S1 hk A1 => by
      obtain ⟨a, e, hb, hcel⟩ := HP.out.cel k hk
      refine ⟨a, e, ?_⟩
      rw [A1.kept.cell (by rw [add_block]; exact HA.out (by omega) a e) (by rw [add_block]; exact hb)]
      exact hcel
    have CN : Hid (∀ k, n ≤ k → pick p k = 0) := Lib.hid fun k hk => pick_none (by rw [HP.out.len]; exact hk)
    go_enter Try.func18, Try.ntmps18
    go_wp2_with fail
    go_loopw [16] (fun i wr => ∃ k : Nat, k ≤ 2 ∧ i = .int .i64 (k : Nat) ∧ Did w0 d F w (S.lost p k) wr) (fun i _ => 2 - (intOf i).toNat)
    case atStart => exact ⟨0, by omega, rfl, Did.refl HD.out⟩
    case round =>
      obtain ⟨k, hk, rfl, A1⟩ := hrel
      have HK := Lib.hid A1
      clear A1
      rcases (by omega : k = 0 ∨ k = 1 ∨ k = 2) with rfl | rfl | rfl
      · have C := Lib.hid (CL.out 0 _ (by omega) HK.out)
        by_cases hlt : 0 < n
        · obtain ⟨a, rfl, ca⟩ := CP.out 0 _ _ hlt HK.out
          have ca0 : wr.cell? a = some (.int .i64 (pick p 0)) := ca
          obtain ⟨z, hz⟩ : ∃ z, pick p 0 = z := ⟨_, rfl⟩
          rw [hz] at ca C ca0
          have t1 : decide ((0 : Int) < (n : Int)) = true := decide_eq_true (by omega)
          have hlt2 : (0 : Int) < (n : Int) := by omega
          go_wp2_with fail
          refine (C.out).mono ?_
          rintro e W ⟨rfl, G⟩
          have HG := Lib.hid G
          clear G
          go_wp2_with fail
          go_roundw
          case rel => exact ⟨1, by omega, by go_num, HG.out⟩
          case measure => simp [intOf]
        · have t1 : decide ((0 : Int) < (n : Int)) = false := decide_eq_false (by omega)
          have hlt2 : ¬ (0 : Int) < (n : Int) := by omega
          rw [CN.out 0 (by omega)] at C
          go_wp2_with fail
          refine (C.out).mono ?_
          rintro e W ⟨rfl, G⟩
          have HG := Lib.hid G
          clear G
          go_wp2_with fail
          go_roundw
          case rel => exact ⟨1, by omega, by go_num, HG.out⟩
          case measure => simp [intOf]
      · have C := Lib.hid (CL.out 1 _ (by omega) HK.out)
        by_cases hlt : 1 < n
        · obtain ⟨a, rfl, ca⟩ := CP.out 1 _ _ hlt HK.out
          have ca0 : wr.cell? ⟨a.block, a.off + 1, none⟩ = some (.int .i64 (pick p 1)) := by simpa [Addr.add] using ca
          obtain ⟨z, hz⟩ : ∃ z, pick p 1 = z := ⟨_, rfl⟩
          rw [hz] at ca C ca0
          have t1 : decide ((1 : Int) < (n : Int)) = true := decide_eq_true (by omega)
          have hlt2 : (1 : Int) < (n : Int) := by omega
          go_wp2_with fail
          refine (C.out).mono ?_
          rintro e W ⟨rfl, G⟩
          have HG := Lib.hid G
          clear G
          go_wp2_with fail
          go_roundw
          case rel => exact ⟨2, by omega, by go_num, HG.out⟩
          case measure => simp [intOf]
        · have t1 : decide ((1 : Int) < (n : Int)) = false := decide_eq_false (by omega)
          have hlt2 : ¬ (1 : Int) < (n : Int) := by omega
          rw [CN.out 1 (by omega)] at C
          go_wp2_with fail
          refine (C.out).mono ?_
          rintro e W ⟨rfl, G⟩
          have HG := Lib.hid G
          clear G
          go_wp2_with fail
          go_roundw
          case rel => exact ⟨2, by omega, by go_num, HG.out⟩
          case measure => simp [intOf]
      · obtain ⟨m1, m2, m3, m4, m5, m6⟩ := HK.out.cells
        have E := Lib.hid (on_end (S := S) HK.out)
        go_wp2_with fail
        go_ret
        exact ⟨rfl, E.out⟩
end Go.Proofs.Ytgnomopiofpknaa
