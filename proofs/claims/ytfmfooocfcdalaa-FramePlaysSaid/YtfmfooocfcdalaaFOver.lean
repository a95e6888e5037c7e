/- Feed of a framer that is over. No condition. -/
import Derived.Test.YtfmfooocfcdalaaFrs
namespace Go.Proofs.Ytfmfooocfcdalaa
open Go.RowKit

set_option maxRecDepth 100000 in
set_option maxHeartbeats 4000000 in
theorem feed_over {A : Option Addr} {n c f : Nat} {v : Value} (w : World) (h : FrB w f v true) : Calls Try.prog 11 #[.pointer (some ⟨f, 0, none⟩), .slice A n c] w fun e w' => e = .returned (.tuple #[.slice none 0 0, .int .i64 6]) ∧ Below w.heap.size w w' := by
  have F3 := ((h.alloc (.cells #[.pointer (some ⟨f, 0, none⟩)] 24)).alloc (.cells #[.slice none 0 0] 30)).alloc (.cells #[.int .i64 0] 36)
  have c1 := F3.c1
  have hf := h.lt
  clear h F3
  go_enter Try.func11, Try.ntmps11
  go_wp2_with fail
  refine wp_scope_straight ?_
  go_wp2_with fail
  rw [Exit.noGoto_ret]
  refine bodyPost_ret (v := .tuple #[.slice none 0 0, .int .i64 6]) ?_ rfl ⟨rfl, ?_⟩
  · simp [results, Try.f11, go_sem]
  · exact (((Below.refl _ w).alloc (Nat.le_refl _) _).alloc (by simp only [World.size_alloc]; omega) _).alloc (by simp only [World.size_alloc]; omega) _
end Go.Proofs.Ytfmfooocfcdalaa
