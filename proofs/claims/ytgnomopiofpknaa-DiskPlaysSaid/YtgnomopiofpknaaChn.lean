/- change: a write or a cut by a step. No condition but a bound on what is loose. -/
import Derived.Test.YtgnomopiofpknaaHvy
import Derived.Test.YtgnomopiofpknaaDFuse
namespace Go.Proofs.Ytgnomopiofpknaa
open Go.RowKit

def Dk.change (S : Dk) (s : StepD) : Dk := if s.k % 2 = 0 then (S.write s.f s.b).2 else (S.cut s.f s.n).2
set_option maxRecDepth 100000 in
set_option maxHeartbeats 4000000 in
theorem change_any {w0 w : World} {d : Nat} {S : Dk} (D : Dq w0 d S w) (hn : S.cnt ≤ 1073741823) {s : StepD} {B : Option Addr} {nb cb : Nat} {Q : Option Addr} {nq cq : Nat} (hb : Bs w B nb s.b) (hB : 0 < nb → ∀ a, B = some a → a.block ≠ d) (hc : nb ≤ cb) (hcm : cb ≤ 9223372036854775807) (hk : s.k < 256) :
    Calls Try.prog 20 #[.pointer (some ⟨d, 0, none⟩), .agg (stepV s.k s.f s.n B nb cb Q nq cq).toArray] w fun e W => e = .returned (.tuple #[]) ∧ Dq w0 d (S.change s) W := by
  obtain ⟨k, f, n, b, p⟩ := s
  simp only at hb hk
  have g1 : Below w.heap.size w (w.alloc (.cells (stepV k f n B nb cb Q nq cq).toArray 36)) := (Below.refl _ _).alloc (Nat.le_refl _) _
  have R1 := Ro.new w 36 (stepV k f n B nb cb Q nq cq)
  obtain ⟨V, hV⟩ : ∃ V, stepV k f n B nb cb Q nq cq = V := ⟨_, rfl⟩
  rw [hV] at g1 R1
  obtain ⟨w1, hw1⟩ : ∃ w1, w.alloc (.cells V.toArray 36) = w1 := ⟨_, rfl⟩
  rw [hw1] at g1 R1
  have c0 : w1.cell? ⟨w.heap.size, 0, none⟩ = some (.int .u8 (k : Int)) := R1.cell (by rw [← hV]; rfl)
  have c1 : w1.cell? ⟨w.heap.size, 1, none⟩ = some (.int .i64 f) := R1.cell (by rw [← hV]; rfl)
  have c2 : w1.cell? ⟨w.heap.size, 2, none⟩ = some (.int .i64 n) := R1.cell (by rw [← hV]; rfl)
  have c3 : w1.cell? ⟨w.heap.size, 3, none⟩ = some (.slice B nb cb) := R1.cell (by rw [← hV]; rfl)
  have D1 := Lib.hid (D.later g1)
  have L1 := Lib.hid (hb.later g1)
  have HB := Lib.hid hB
  have HV := Lib.hid hV
  simp only
  rw [hV]
  clear D hb hB hV R1 g1
  by_cases h : k % 2 = 0
  · have es : S.change ⟨k, f, n, b, p⟩ = (S.write f b).2 := by unfold Dk.change; rw [if_pos h]
    rw [es]
    have t0 : (k : Int) % 2 = 0 := by omega
    have CW := Lib.hid (write_q D1.out hn f L1.out HB.out hc hcm rfl rfl)
    clear es
    go_enter Try.func20, Try.ntmps20
    go_wp2_with fail
    refine (CW.out).mono ?_
    rintro e W ⟨rfl, D'⟩
    have DD := Lib.hid D'
    clear D'
    go_wp2_with fail
    go_returns
    exact ⟨rfl, DD.out⟩
  · have es : S.change ⟨k, f, n, b, p⟩ = (S.cut f n).2 := by unfold Dk.change; rw [if_neg h]
    rw [es]
    have t0 : (k : Int) % 2 = 1 := by omega
    have CC := Lib.hid (cut_q D1.out hn f n rfl rfl)
    clear es
    go_enter Try.func20, Try.ntmps20
    go_wp2_with fail
    refine (CC.out).mono ?_
    rintro e W ⟨rfl, D'⟩
    have DD := Lib.hid D'
    clear D'
    go_wp2_with fail
    go_returns
    exact ⟨rfl, DD.out⟩
end Go.Proofs.Ytgnomopiofpknaa
