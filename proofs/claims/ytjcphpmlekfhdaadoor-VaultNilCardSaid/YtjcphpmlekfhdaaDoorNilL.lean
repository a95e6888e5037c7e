/- VaultNil: walked. Condition: the tables lie as laid. -/
import Derived.Test.YtjcphpmlekfhdaaDoorGl
namespace Go.Proofs.YtjcphpmlekfhdaaDoor
open Go.RowKit

set_option maxRecDepth 100000 in
set_option maxHeartbeats 4000000 in
theorem nil_law {w : World} {A : Option Addr} {n c : Nat} {l : List (List Nat)} (_ : n ≤ c) (_ : n ≤ 140737488351232) (_ : c ≤ 9223372036854775807) (_ : Rows w anyP 1 ByR A n l) (hLd : Laid w) : Calls Tryd.prog 7 #[.slice A n c] w fun e W => e = .returned (.bool true) ∧ Below w.heap.size w W := by
  have HL := Lib.hid hLd
  clear hLd
  by_cases hc : 100 < n
  · have t1 : decide ((100 : Int) < (n : Int)) = true := decide_eq_true (by omega)
    go_enter Tryd.func7, Tryd.ntmps7
    go_wp2_with fail
    refine (works_any HL.out).mono ?_
    rintro e W ⟨rfl, bW⟩
    have HB := Lib.hid bW
    clear bW
    go_wp2_with fail
    go_ret
    exact ⟨rfl, HB.out⟩
  · have t1 : decide ((100 : Int) < (n : Int)) = false := decide_eq_false (by omega)
    go_enter Tryd.func7, Tryd.ntmps7
    go_wp2_with fail
    refine open_nil.mono ?_
    rintro e W1 ⟨rfl, b1⟩
    go_wp2_with fail
    refine add_nil.mono ?_
    rintro e W2 ⟨rfl, b2⟩
    go_wp2_with fail
    refine compact_nil.mono ?_
    rintro e W3 ⟨rfl, b3⟩
    have b := b1.trans ((b2.trans (b3.mono b2.size)).mono b1.size)
    have HB := Lib.hid b
    clear b1 b2 b3 b
    go_wp2_with fail
    refine (gen_nil _).mono ?_
    rintro e W' ⟨rfl, ew⟩
    subst ew
    go_wp2_with fail
    refine (len_nil _).mono ?_
    rintro e W' ⟨rfl, ew⟩
    subst ew
    go_wp2_with fail
    refine (works_any (HL.out.later HL.out.lt HB.out)).mono ?_
    rintro e W ⟨rfl, bW⟩
    have HC := Lib.hid (HB.out.trans (bW.mono HB.out.size))
    clear bW HB
    go_wp2_with fail
    go_ret
    exact ⟨rfl, HC.out⟩
end Go.Proofs.YtjcphpmlekfhdaaDoor
