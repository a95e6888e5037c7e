/- A word of 32 bits that came in as an argument of a law. No condition. -/
import Derived.Test.YtnipajfglmahiaaOpen
namespace Go.Proofs.Ytnipajfglmahiaa
open Go.ChangeShapes Go.WideShapes Go.ChangeAt Go.RowKit

theorem open_u32 {H : Type} {enc : TypeId × Value → H} {W : World} {base : Nat} {v : Value} {d : DataW H} {p : List MemPlace}
    (hv : Value.okWide Try.prog W .any base 22 v) (h : DataW.Trod enc Try.prog W 0 (fun _ => true) true 22 v d p) : ∃ x : Nat, x < 4294967296 ∧ v = .int .u32 (x : Nat) := by
  obtain ⟨n, rfl, rfl, rfl, w⟩ := open_int Try.underlying22 hv h
  have b := bounds_u32 w
  exact ⟨n.toNat, by omega, by rw [Int.toNat_of_nonneg b.1]⟩

end Go.Proofs.Ytnipajfglmahiaa
