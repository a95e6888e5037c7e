/- The document's Same, of lists that are the same. No condition but bounds. -/
import Derived.Test.YtjcphpmlekfhdaaDoorGl
namespace Go.Proofs.YtjcphpmlekfhdaaDoor
open Go.RowKit

theorem same_self {A B : Option Addr} {n m c d : Nat} {l : List (List Nat)} (w : World) (hA : Rows w anyP 1 ByR A n l) (hB : Rows w anyP 1 ByR B m l) (hn : n ≤ 1099511627776) :
    Calls Tryd.prog 19 #[.slice A n c, .slice B m d] w fun e w' => e = .returned (.bool true) ∧ Below w.heap.size w w' :=
  (same_any w hA hB hn).mono fun e W ⟨h1, h2⟩ => ⟨by rw [h1, decide_eq_true rfl], h2⟩
end Go.Proofs.YtjcphpmlekfhdaaDoor
