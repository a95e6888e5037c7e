/- DiskNil: of no disk. No condition. -/
import Derived.Test.YtgnomopiofpknaaWorks
namespace Go.Proofs.Ytgnomopiofpknaa
open Go.RowKit

set_option maxRecDepth 100000 in
set_option maxHeartbeats 8000000 in
theorem nil_law (f : Int) (_hf : -9223372036854775808 ≤ f ∧ f ≤ 9223372036854775807) (n : Int) (_hn : -9223372036854775808 ≤ n ∧ n ≤ 9223372036854775807) {A : Option Addr} {m c : Nat} {L : List Nat} {w : World} (hmc : m ≤ c) (hc : c ≤ 9223372036854775807) (_hL : Bs w A m L) :
    Calls Try.prog 7 #[.int .i64 f, .int .i64 n, .slice A m c] w fun e w' => e = .returned (.bool true) ∧ Below w.heap.size w w' := by
  clear _hL
  by_cases hv : 4096 < m
  · have t1 : decide ((4096 : Int) < (m : Int)) = true := decide_eq_true (by omega)
    go_enter Try.func7, Try.ntmps7
    go_wp2_with fail
    refine (works_any _).mono ?_
    rintro e w1 ⟨rfl, hb⟩
    have HB := Lib.hid hb
    clear hb
    go_wp2_with fail
    go_ret
    exact ⟨rfl, HB.out⟩
  · have t1 : decide ((4096 : Int) < (m : Int)) = false := decide_eq_false (by omega)
    clear hv
    go_enter Try.func7, Try.ntmps7
    go_wp2_with fail
    refine (read_nil _ f).mono ?_
    rintro e w' ⟨rfl, rfl⟩
    go_wp2_with fail
    refine (write_nil _ f A m c).mono ?_
    rintro e w1 ⟨rfl, hb⟩
    have B1 := Lib.hid hb
    clear hb
    go_wp2_with fail
    refine (cut_nil _ f n).mono ?_
    rintro e w2 ⟨rfl, hb⟩
    have B2 := Lib.hid (B1.out.trans (hb.mono B1.out.size))
    clear hb B1
    go_wp2_with fail
    refine (sync_nil _ f).mono ?_
    rintro e w3 ⟨rfl, rfl⟩
    go_wp2_with fail
    refine (fuse_nil _ n).mono ?_
    rintro e w4 ⟨rfl, rfl⟩
    go_wp2_with fail
    refine (off_nil _).mono ?_
    rintro e w5 ⟨rfl, rfl⟩
    go_wp2_with fail
    refine (on_nil _ _ _ _).mono ?_
    rintro e w6 ⟨rfl, e6⟩
    obtain ⟨w7, h7⟩ : ∃ w7, w6 = w7 := ⟨_, rfl⟩
    have B7 := Lib.hid (show Below w'.heap.size w' w6 by rw [e6]; exact B2.out.alloc B2.out.size _)
    clear e6 B2 h7
    go_wp2_with fail
    refine (room_nil _).mono ?_
    rintro e w8 ⟨rfl, rfl⟩
    go_wp2_with fail
    refine (works_any _).mono ?_
    rintro e w9 ⟨rfl, hb⟩
    have B9 := Lib.hid (B7.out.trans (hb.mono B7.out.size))
    clear hb
    go_wp2_with fail
    go_ret
    exact ⟨rfl, B9.out⟩
end Go.Proofs.Ytgnomopiofpknaa
