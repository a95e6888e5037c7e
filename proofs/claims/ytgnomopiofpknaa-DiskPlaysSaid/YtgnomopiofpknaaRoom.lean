/- Room, Fuse, Off. No condition. -/
import Derived.Test.YtgnomopiofpknaaDkP
namespace Go.Proofs.Ytgnomopiofpknaa
open Go.RowKit

theorem room_nil (w : World) : Calls Try.prog 13 #[.pointer none] w fun e w' => e = .returned (.int .i64 0) ∧ w' = w := by
  go_enter Try.func13, Try.ntmps13
  go_wp2_with fail
  go_ret
  exact ⟨rfl, rfl⟩
set_option maxRecDepth 100000 in
set_option maxHeartbeats 4000000 in
theorem room_cells {w : World} {d m a b : Nat} (q0' : w.cell? ⟨d, 0, none⟩ = some (.int .i64 (m : Nat))) (q1' : w.cell? ⟨d, 5, none⟩ = some (.int .i64 (a : Nat))) (q2' : w.cell? ⟨d, 8, none⟩ = some (.int .i64 (b : Nat))) (hm : m ≤ 4194304) (ha : a ≤ 4194304) (hb : b ≤ 4194304) :
    Calls Try.prog 13 #[.pointer (some ⟨d, 0, none⟩)] w fun e w' => e = .returned (.int .i64 ((m - a - b : Nat) : Int)) ∧ Below w.heap.size w w' := by
  have q0 : w.drew.cell? ⟨d, 0, none⟩ = some (.int .i64 (m : Nat)) := q0'
  have q1 : w.drew.cell? ⟨d, 5, none⟩ = some (.int .i64 (a : Nat)) := q1'
  have q2 : w.drew.cell? ⟨d, 8, none⟩ = some (.int .i64 (b : Nat)) := q2'
  have e1 : IntKind.i64.wrap ((m : Int) - (a : Int)) = (m : Int) - a := by rw [IntKind.wrap_i64]; omega
  have e2 : IntKind.i64.wrap ((m : Int) - (a : Int) - (b : Int)) = (m : Int) - a - b := by rw [IntKind.wrap_i64]; omega
  clear q0' q1' q2'
  go_enter Try.func13, Try.ntmps13
  go_wp2_with fail
  go_region
  go_wp2_with fail
  all_goals go_ret
  all_goals exact ⟨ret_int (by omega), (Below.refl _ _).drew⟩
theorem room_any {w0 w : World} {d : Nat} {F : Nat → Prop} {S : Dk} (D : Dsk w0 d F S w) : Calls Try.prog 13 #[.pointer (some ⟨d, 0, none⟩)] w fun e w' => e = .returned (.int .i64 (S.room : Nat)) ∧ Below w.heap.size w w' := by
  obtain ⟨_, _, _, _, _, _, D, _⟩ := D
  obtain ⟨k0, _, _, _, _, k5, _, _, k8⟩ := D.cells
  have hm := D.ok.most
  have h1 := (D.ok.at_ 0).len
  have h2 := (D.ok.at_ 1).len
  exact room_cells k0 k5 k8 hm (by simp only [Dk.at, if_true] at h1; omega) (by simp only [Dk.at] at h2; simp at h2; omega)

theorem fuse_nil (w : World) (n : Int) : Calls Try.prog 22 #[.pointer none, .int .i64 n] w fun e w' => e = .returned (.int .i64 2) ∧ w' = w := by
  go_enter Try.func22, Try.ntmps22
  go_wp2_with fail
  refine (powered_nil w).mono ?_
  rintro e w' ⟨rfl, rfl⟩
  go_wp2_with fail
  go_ret
  exact ⟨rfl, rfl⟩
theorem off_nil (w : World) : Calls Try.prog 17 #[.pointer none] w fun e w' => e = .returned (.int .i64 2) ∧ w' = w := by
  go_enter Try.func17, Try.ntmps17
  go_wp2_with fail
  refine (powered_nil w).mono ?_
  rintro e w' ⟨rfl, rfl⟩
  go_wp2_with fail
  go_ret
  exact ⟨rfl, rfl⟩
/-- One cell of the disk, set by a method. -/
theorem DkAt.setDid {w0 w : World} {d : Nat} {P0 P1 F : Nat → Prop} {S S' : Dk} {vs0 vl0 vs1 vl1 : Value} (D : DkAt w0 d P0 P1 S w vs0 vl0 vs1 vl1) (hF : ∀ b, P0 b ∨ P1 b ∨ b = d → F b) (hL : ∀ b, F b → w0.heap.size ≤ b ∧ b < w.heap.size) (o : Nat) (v : Value) (hf : S'.f = S.f) (hg : S'.g = S.g) (hok : S'.Ok) (he : (dkV S vs0 vl0 vs1 vl1).set o v = dkV S' vs0 vl0 vs1 vl1) :
    Did w0 d F w S' (w.setCell ⟨d, o, none⟩ v) :=
  (D.set o v hf hg hok he).did (fun b hb => .inl (hF b hb)) hL D.bel.size (kept_set w d o v (P := fun b => ¬ F b) fun h => h (hF d (.inr (.inr rfl))))
theorem off_any {w0 w : World} {d : Nat} {F : Nat → Prop} {S : Dk} (D : Dsk w0 d F S w) : Calls Try.prog 17 #[.pointer (some ⟨d, 0, none⟩)] w fun e W => e = .returned (.int .i64 S.goOff.1) ∧ Did w0 d F w S.goOff.2 W := by
  have D0 := Lib.hid D
  obtain ⟨P0, P1, vs0, vl0, vs1, vl1, D, hF, hL⟩ := D
  obtain ⟨_, k1, _⟩ := D.cells
  have z1 := D.ro.free 1
  have G := Lib.hid (D.setDid (S' := { S with off := true }) hF hL 1 (.bool true) rfl rfl (D.ok.off true) rfl)
  have HP := Lib.hid (powered_any k1)
  clear D hF hL
  unfold Dk.goOff
  cases hs : S.off with
  | true =>
    rw [hs] at HP
    go_enter Try.func17, Try.ntmps17
    go_wp2_with fail
    refine (HP.out).mono ?_
    rintro e w' ⟨rfl, rfl⟩
    go_wp2_with fail
    go_ret
    exact ⟨rfl, Did.refl D0.out⟩
  | false =>
    rw [hs] at HP
    go_enter Try.func17, Try.ntmps17
    go_wp2_with fail
    refine (HP.out).mono ?_
    rintro e w' ⟨rfl, rfl⟩
    go_wp2_with fail
    go_ret
    exact ⟨rfl, G.out⟩
theorem fuse_any {w0 w : World} {d : Nat} {F : Nat → Prop} {S : Dk} (D : Dsk w0 d F S w) (n : Int) (hn : -9223372036854775808 ≤ n ∧ n ≤ 9223372036854775807) : Calls Try.prog 22 #[.pointer (some ⟨d, 0, none⟩), .int .i64 n] w fun e W => e = .returned (.int .i64 (S.setFuse n).1) ∧ Did w0 d F w (S.setFuse n).2 W := by
  have D0 := Lib.hid D
  obtain ⟨P0, P1, vs0, vl0, vs1, vl1, D, hF, hL⟩ := D
  obtain ⟨_, k1, k2, _⟩ := D.cells
  have z2 := D.ro.free 2
  have G := Lib.hid (D.setDid (S' := { S with fuse := max n (-1) }) hF hL 2 (.int .i64 (max n (-1))) rfl rfl { D.ok with fuse := by simp only; omega } rfl)
  have HP := Lib.hid (powered_any k1)
  have HM : Hid ((if n < -1 then -1 else n) = max n (-1)) := Lib.hid (by split <;> omega)
  clear D hF hL
  unfold Dk.setFuse
  cases hs : S.off with
  | true =>
    rw [hs] at HP
    go_enter Try.func22, Try.ntmps22
    go_wp2_with fail
    refine (HP.out).mono ?_
    rintro e w' ⟨rfl, rfl⟩
    go_wp2_with fail
    go_ret
    exact ⟨rfl, Did.refl D0.out⟩
  | false =>
    rw [hs] at HP G
    rcases Int.lt_or_le n (-1) with hlt | hge
    · have em : max n (-1) = -1 := by omega
      rw [em] at G ⊢
      go_enter Try.func22, Try.ntmps22
      go_wp2_with fail
      refine (HP.out).mono ?_
      rintro e w' ⟨rfl, rfl⟩
      go_wp2_with fail
      go_ret
      exact ⟨rfl, G.out⟩
    · have em : max n (-1) = n := by omega
      have hge2 : ¬ n < -1 := by omega
      rw [em] at G ⊢
      go_enter Try.func22, Try.ntmps22
      go_wp2_with fail
      refine (HP.out).mono ?_
      rintro e w' ⟨rfl, rfl⟩
      go_wp2_with fail
      go_ret
      exact ⟨rfl, G.out⟩
end Go.Proofs.Ytgnomopiofpknaa
