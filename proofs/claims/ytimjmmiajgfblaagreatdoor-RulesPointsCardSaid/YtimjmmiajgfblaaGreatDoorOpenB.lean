/- A truth, as it comes in. No condition. -/
import Derived.Test.YtimjmmiajgfblaaGreatDoorGbn

namespace Go.Proofs.YtimjmmiajgfblaaGreatDoor
open Go.ChangeShapes Go.WideShapes Go.ChangeAt Go.WideMaps Go.WideElems Go.RowKit
set_option maxRecDepth 100000
theorem open_bl {H : Type} {enc : TypeId × Value → H} {W : World} {base : Nat} {v : Value} {d : DataW H} {p : List MemPlace} (hv : Value.okWide Tryz.prog W .any base 4 v) (h : DataW.Trod enc Tryz.prog W 0 (fun _ => true) true 4 v d p) : ∃ b : Bool, True ∧ v = .bool b := by
  obtain ⟨b, rfl, _⟩ := Go.RowKit.open_bool Tryz.underlying4 hv h
  exact ⟨b, trivial, rfl⟩
end Go.Proofs.YtimjmmiajgfblaaGreatDoor
