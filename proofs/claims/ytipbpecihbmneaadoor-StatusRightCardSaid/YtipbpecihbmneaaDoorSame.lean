/- Whether two lists are the same. No condition. -/
import Derived.Test.YtipbpecihbmneaaDoorSc
import Derived.RegionTactic
import Derived.LoopTactic
namespace Go.Proofs.YtipbpecihbmneaaDoor
open Go.RowKit

def eqB (L M : List Nat) : Bool := decide (L = M)
theorem eqB_yes {L M : List Nat} (h : L = M) : eqB L M = true := decide_eq_true h
theorem eqB_no {L M : List Nat} (h : L ≠ M) : eqB L M = false := decide_eq_false h

end Go.Proofs.YtipbpecihbmneaaDoor
