/- The reference's disk: Stands, may, burns, Room, Read, New, Fuse, Off. No condition but bounds. -/
import Derived.Test.YtjcphpmlekfhdaaGreatDoorRfS
namespace Go.Proofs.YtjcphpmlekfhdaaGreatDoor
open Go.RowKit

/-- How many units are loose. -/
def Dk.uses (S : Dk) : Nat := usum S.f.loose + usum S.g.loose
theorem Dk.uses_at (S : Dk) (i : Nat) : usum (S.at i).loose ≤ S.uses := by
  unfold Dk.at Dk.uses
  split <;> omega
theorem stood {S : Dk} {i : Nat} (hu : S.uses ≤ 1073741823) : doneS (S.at i).sure (S.at i).loose 1099511627776 = (S.at i).at := by
  rw [← appl_lose, lose_all _ _ (by have := S.uses_at i; omega)]
  rfl
theorem sure_len {S : Dk} (h : S.Ok) (i : Nat) : (S.at i).sure.length ≤ 4194304 := Nat.le_trans (h.at_ i).f.start h.most
section
variable {w0 w : World} {r : Nat} {F : Nat → Prop} {S : Dk}
/-- File i, as it lies. -/
theorem Rsk.file (h : Rsk w0 r F S w) {i : Nat} (hi : i = 0 ∨ i = 1) : ∃ A c, w.cell? ⟨r, 2 * i, none⟩ = some (.string (strB (S.at i).sure)) ∧ w.cell? ⟨r, 2 * i + 1, none⟩ = some (.slice A (S.at i).loose.length c) ∧ (S.at i).loose.length ≤ c ∧ Rows w anyP 3 RcR A (S.at i).loose.length (S.at i).loose := by
  obtain ⟨v0, v1, D, _⟩ := h
  obtain ⟨k0, k1, k2, k3, _⟩ := D.cells
  rcases hi with rfl | rfl
  · obtain ⟨A, c, rfl, hc, R⟩ := rows_own D.l0
    exact ⟨A, c, k0, k1, hc, R⟩
  · obtain ⟨A, c, rfl, hc, R⟩ := rows_own D.l1
    exact ⟨A, c, k2, k3, hc, R⟩
theorem Rsk.cell4 (h : Rsk w0 r F S w) : w.cell? ⟨r, 4, none⟩ = some (.int .i64 (S.most : Nat)) ∧ w.cell? ⟨r, 5, none⟩ = some (.int .i64 S.fuse) ∧ w.cell? ⟨r, 6, none⟩ = some (.bool (!S.off)) := by
  obtain ⟨v0, v1, D, _⟩ := h
  obtain ⟨_, _, _, _, k4, k5, k6⟩ := D.cells
  exact ⟨k4, k5, k6⟩
set_option maxRecDepth 100000 in
set_option maxHeartbeats 4000000 in
theorem rstands_any (h : Rsk w0 r F S w) {i : Nat} (hi : i = 0 ∨ i = 1) (hc : S.cnt ≤ 1073741823) (hu : S.uses ≤ 1073741823) :
    Calls Tryz.prog 54 #[.pointer (some ⟨r, 0, none⟩), .int .i64 (i : Nat)] w fun e W => e = .returned (.string (strB (S.at i).at)) ∧ Below w.heap.size w W := by
  obtain ⟨A, c, q0, q1, hcc, R⟩ := h.file hi
  have hs := sure_len h.ok i
  have := S.uses_at i
  have := S.cnt_at i
  have hd := done_any (w := w.drew) (c := c) (R.later rcM (Below.refl _ _).drew) (u0 := 1099511627776) (by omega) (by decide) (s0 := (S.at i).sure) (by omega)
  rw [stood hu] at hd
  have CF := Lib.hid hd
  obtain ⟨n, hn⟩ : ∃ n, (S.at i).loose.length = n := ⟨_, rfl⟩
  obtain ⟨s, hs⟩ : ∃ s, strB (S.at i).sure = s := ⟨_, rfl⟩
  obtain ⟨z, hz⟩ : ∃ z, strB (S.at i).at = z := ⟨_, rfl⟩
  rw [hn, hs, hz] at CF
  rw [hs] at q0
  rw [hn] at q1
  rw [hz]
  clear hd R hcc hn hs hz h
  rcases hi with rfl | rfl
  · go_enter Tryz.func54, Tryz.ntmps54
    go_wp2_with fail
    go_region_law (first | (go_simp; (with_reducible refine (CF.out).mono ?_); rintro e w' ⟨rfl, rfl⟩; go_simp))
    all_goals go_wp2_with fail
    all_goals go_returns
    all_goals exact ⟨rfl, (Below.refl _ _).drew⟩
  · go_enter Tryz.func54, Tryz.ntmps54
    go_wp2_with fail
    go_region_law (first | (go_simp; (with_reducible refine (CF.out).mono ?_); rintro e w' ⟨rfl, rfl⟩; go_simp))
    all_goals go_wp2_with fail
    all_goals go_returns
    all_goals exact ⟨rfl, (Below.refl _ _).drew⟩
end
end Go.Proofs.YtjcphpmlekfhdaaGreatDoor
