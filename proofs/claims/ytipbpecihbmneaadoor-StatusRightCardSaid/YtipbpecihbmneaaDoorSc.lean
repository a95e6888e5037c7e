/- The letter of half a byte. No condition. -/
import Derived.Test.YtipbpecihbmneaaDoorStat
import Derived.WalkSmall
import Derived.WalkSpells
namespace Go.Proofs.YtipbpecihbmneaaDoor
open Go.RowKit

theorem letter_any (x : Nat) (hx : x < 16) (w : World) : Calls Tryd.prog 25 #[.int .u8 (x : Nat)] w fun e w' => e = .returned (.int .u8 (letterN x : Nat)) ∧ w' = w := by
  by_cases h : x < 10
  · have hl : letterN x = 48 + x := if_pos h
    rw [hl]
    clear hl
    go_enter Tryd.func25, Tryd.ntmps25
    go_wp2_with fail
    go_ret
    exact ⟨by go_num, rfl⟩
  · have hl : letterN x = 87 + x := if_neg h
    rw [hl]
    clear hl
    go_enter Tryd.func25, Tryd.ntmps25
    go_wp2_with fail
    go_ret
    exact ⟨ret_int (by omega), rfl⟩
end Go.Proofs.YtipbpecihbmneaaDoor
