/- What the writer holds, as bytes. No condition. -/
import Derived.Test.YtipbpecihbmneaaDoorBuf
import Derived.Test.YtipbpecihbmneaaDoorEnd
import Derived.Test.YtipbpecihbmneaaDoorEs
namespace Go.Proofs.YtipbpecihbmneaaDoor
open Go.RowKit

set_option maxRecDepth 100000 in
set_option maxHeartbeats 2000000 in
theorem bytes_any {B b : Nat} {L : List Nat} {w : World} (h : Buf B b L w) (hL : AllB L) (hl : L.length ≤ 1000000000) :
    Calls Tryd.prog 17 #[.pointer (some ⟨b, 0, none⟩)] w fun e w' => ∃ A c, e = .returned (.slice A L.length c) ∧ L.length ≤ c ∧ Bs w' A L.length L ∧ Below w.heap.size w w' := by
  obtain ⟨_, v, lr, h3, row, _⟩ := h
  have c0 := h3.c0
  have c1 := h3.c1
  obtain ⟨A, c, rfl, hc, R, hA⟩ : ∃ A c, v = .slice A L.length c ∧ L.length ≤ c ∧ Bs w A L.length L ∧ (A = none ∨ ∃ g, A = some ⟨g, 0, none⟩) := by
    have hr := row
    rcases row.2 with ⟨hv, h0⟩ | ⟨g, cap, cur, hv, _, _, hn, hm, _⟩
    · rw [vals_length] at h0
      refine ⟨none, 0, by rw [hv, h0], by omega, ⟨rfl, hL, fun hp => by omega⟩, .inl rfl⟩
    · rw [vals_length] at hv hn
      subst hv
      refine ⟨_, cap, rfl, hn, ⟨rfl, hL, fun hp => ?_⟩, .inr ⟨_, rfl⟩⟩
      obtain ⟨g', cap', hv', _, hlt⟩ := hr.form (by rw [vals_length]; exact hp)
      injection hv' with hv'
      injection hv' with hv'
      injection hv' with hg
      subst hg
      exact ⟨_, rfl, hlt, fun k hk => hr.cells (g := g) rfl k _ (vals_get L k (by omega))⟩
  have HR := Lib.hid R
  have HC := Lib.hid hc
  have rs : ∀ w, (Instr.sliceAt 31 (.slice A L.length c) (some (.int .i64 0)) none none).run Tryd.prog w = .ok (.slice A L.length c) w := fun w => by
    have e : Tryd.prog.elem 31 = 5 := by kernel_rfl
    obtain ⟨i0, hi, _, hz1, _⟩ := info_parts Tryd.infoByte
    rw [run_sliceAt_slice (P := Tryd.prog) w 31 _ _ _ _ (by rw [e]; exact Tryd.underlying31), run_slice_l w 31 A L.length c (by rw [e]; exact Tryd.underlying31) .i64 0 (by omega) (by omega), e]
    rcases hA with rfl | ⟨g, rfl⟩
    · simp [sizeOf, typeInfo, hi, hz1, sliced]
    · simp [sizeOf, typeInfo, hi, hz1, sliced, add_at]
  obtain ⟨n, hn⟩ : ∃ n, L.length = n := ⟨_, rfl⟩
  rw [hn] at c0 HR HC rs ⊢
  clear hn R hc row h3 hA
  have u0 : ∀ u : After w, u.w.cell? ⟨b, 0, none⟩ = some (.slice A n c) := fun u => u.cell c0
  have u1 : ∀ u : After w, u.w.cell? ⟨b, 1, none⟩ = some (.int .i64 0) := fun u => u.cell c1
  clear c0 c1
  go_enter Tryd.func17, Tryd.ntmps17
  go_wp2_with fail
  refine wp_region_after (by kernel_rfl) (by kernel_rfl) ?_
  repeat (go_big_quiet_step (fail))
  refine wpQuiet_nil ?_
  rintro wz ⟨u, rfl⟩
  have Bz := Lib.hid u.below
  have RZ := Lib.hid (HR.out.later u.below)
  go_wp2_with fail
  go_ret
  exact ⟨A, c, rfl, HC.out, RZ.out, Bz.out⟩
end Go.Proofs.YtipbpecihbmneaaDoor
