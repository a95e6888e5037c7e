/-
  No cell of these rows narrows 'for every input' (looked for: loops, veiled, ifaces, maps, wideKeys, modest, calm, conditions, laid).
  DERIVED. THE GIVEN ROWS OF THIS SEAT. 5 by the template 'for every input the law returns true; each argument reads behind the call as it read before'; 0 by the template 'total and deterministic' (their statements: YtnipajfglmahiaaTotals.lean).
  GIVEN WITH THE SEED: the statements are not yours to turn. If you find one false, say at which input.
  Laid BY PROGRAM, IN A SANDBOX (cutbox-rows.mjs): the forced cells as the released guide's own fill.sh prints them over the translation 2480e831c51422e9… (all of the seat's roots in one cut). By AI agents, Wed Nov 11 2026. No macro, syntax, notation, axiom, sorry.
-/
import Derived.Test.YtnipajfglmahiaaChecked
import GoSem.Claim
import GoSem.ClaimJoined
import GoSem.ClaimMapViews
import Derived.JoinedTies
import Derived.KernelRfl
namespace Go.Proofs.Ytnipajfglmahiaa
/- THE CELL 'sum', in the pinned program and in every row, IS THE sha256 OF THE DUMP (.gsa) THAT YtnipajfglmahiaaProg.lean LOADS. Nothing in Lean hashes anything: it is a label: what it is worth is what the hold of that sum in a sandbox is worth. -/
noncomputable def Try.pinned : Pinned := { name := "ytnipajfglmahiaa", sum := "2480e831c51422e9f0daa53a0acbdb1ad0021846a382cb97b18700867a187889", checked := Try.checked }
namespace Rows
def none {H : Type} : Left H := { results := [], args := [] }

/-- 'scantlinglaw03.TargetBits': WHATEVER THE INPUT: true; the input reads as it did. -/
def targetBitsSpec : ChangeSpec := { name := "targetBits", fn := fun _ => fun
  | [d1, d2] => { results := [.lit (.bool true)], args := [d1, d2] }
  | _ => none }
def targetBitsRow : OpenClaim := { program := "ytnipajfglmahiaa", sum := "2480e831c51422e9f0daa53a0acbdb1ad0021846a382cb97b18700867a187889", func := "scantling/scantlinglaw03.TargetBits", spec := "targetBits", inPlace := ["math/bits.Add64", "math/bits.Sub64"], named := ["math/bits.divideError", "math/bits.overflowError"], apart := false }
def TargetBitsSaid : Prop := targetBitsRow.holds Try.pinned (OpenSpec.ofChange targetBitsSpec)

/-- ITS FALSE NEIGHBOUR: 'it returns false'. Refute it at one input. -/
def targetBitsWrong : ChangeSpec := { name := "targetBits", fn := fun _ => fun
  | [d1, d2] => { results := [.lit (.bool false)], args := [d1, d2] }
  | _ => none }
def TargetBitsWrongFalsely : Prop := targetBitsRow.holds Try.pinned (OpenSpec.ofChange targetBitsWrong)

/-- 'scantlinglaw03.TargetWorks': WHATEVER THE INPUT: true; the input reads as it did. -/
def targetWorksSpec : ChangeSpec := { name := "targetWorks", fn := fun _ => fun
  | [d1, d2, d3] => { results := [.lit (.bool true)], args := [d1, d2, d3] }
  | _ => none }
def targetWorksRow : OpenClaim := { program := "ytnipajfglmahiaa", sum := "2480e831c51422e9f0daa53a0acbdb1ad0021846a382cb97b18700867a187889", func := "scantling/scantlinglaw03.TargetWorks", spec := "targetWorks", inPlace := ["math/bits.Add64", "math/bits.Sub64"], named := ["math/bits.divideError", "math/bits.overflowError"], apart := false }
def TargetWorksSaid : Prop := targetWorksRow.holds Try.pinned (OpenSpec.ofChange targetWorksSpec)

/-- ITS FALSE NEIGHBOUR: 'it returns false'. Refute it at one input. -/
def targetWorksWrong : ChangeSpec := { name := "targetWorks", fn := fun _ => fun
  | [d1, d2, d3] => { results := [.lit (.bool false)], args := [d1, d2, d3] }
  | _ => none }
def TargetWorksWrongFalsely : Prop := targetWorksRow.holds Try.pinned (OpenSpec.ofChange targetWorksWrong)

/-- 'scantlinglaw03.TargetShort': WHATEVER THE INPUT: true; the input reads as it did. -/
def targetShortSpec : ChangeSpec := { name := "targetShort", fn := fun _ => fun
  | [d1, d2] => { results := [.lit (.bool true)], args := [d1, d2] }
  | _ => none }
def targetShortRow : OpenClaim := { program := "ytnipajfglmahiaa", sum := "2480e831c51422e9f0daa53a0acbdb1ad0021846a382cb97b18700867a187889", func := "scantling/scantlinglaw03.TargetShort", spec := "targetShort", inPlace := ["math/bits.Add64", "math/bits.Sub64"], named := ["math/bits.divideError", "math/bits.overflowError"], apart := false }
def TargetShortSaid : Prop := targetShortRow.holds Try.pinned (OpenSpec.ofChange targetShortSpec)

/-- ITS FALSE NEIGHBOUR: 'it returns false'. Refute it at one input. -/
def targetShortWrong : ChangeSpec := { name := "targetShort", fn := fun _ => fun
  | [d1, d2] => { results := [.lit (.bool false)], args := [d1, d2] }
  | _ => none }
def TargetShortWrongFalsely : Prop := targetShortRow.holds Try.pinned (OpenSpec.ofChange targetShortWrong)

/-- 'scantlinglaw03.TargetOrder': WHATEVER THE INPUT: true; the input reads as it did. -/
def targetOrderSpec : ChangeSpec := { name := "targetOrder", fn := fun _ => fun
  | [d1, d2, d3] => { results := [.lit (.bool true)], args := [d1, d2, d3] }
  | _ => none }
def targetOrderRow : OpenClaim := { program := "ytnipajfglmahiaa", sum := "2480e831c51422e9f0daa53a0acbdb1ad0021846a382cb97b18700867a187889", func := "scantling/scantlinglaw03.TargetOrder", spec := "targetOrder", inPlace := ["math/bits.Add64", "math/bits.Sub64"], named := ["math/bits.divideError", "math/bits.overflowError"], apart := false }
def TargetOrderSaid : Prop := targetOrderRow.holds Try.pinned (OpenSpec.ofChange targetOrderSpec)

/-- ITS FALSE NEIGHBOUR: 'it returns false'. Refute it at one input. -/
def targetOrderWrong : ChangeSpec := { name := "targetOrder", fn := fun _ => fun
  | [d1, d2, d3] => { results := [.lit (.bool false)], args := [d1, d2, d3] }
  | _ => none }
def TargetOrderWrongFalsely : Prop := targetOrderRow.holds Try.pinned (OpenSpec.ofChange targetOrderWrong)

/-- 'scantlinglaw03.TargetEasy': WHATEVER THE INPUT: true; the input reads as it did. -/
def targetEasySpec : ChangeSpec := { name := "targetEasy", fn := fun _ => fun
  | [d1, d2] => { results := [.lit (.bool true)], args := [d1, d2] }
  | _ => none }
def targetEasyRow : OpenClaim := { program := "ytnipajfglmahiaa", sum := "2480e831c51422e9f0daa53a0acbdb1ad0021846a382cb97b18700867a187889", func := "scantling/scantlinglaw03.TargetEasy", spec := "targetEasy", inPlace := ["math/bits.Add64", "math/bits.Sub64"], named := ["math/bits.divideError", "math/bits.overflowError"], apart := false }
def TargetEasySaid : Prop := targetEasyRow.holds Try.pinned (OpenSpec.ofChange targetEasySpec)

/-- ITS FALSE NEIGHBOUR: 'it returns false'. Refute it at one input. -/
def targetEasyWrong : ChangeSpec := { name := "targetEasy", fn := fun _ => fun
  | [d1, d2] => { results := [.lit (.bool false)], args := [d1, d2] }
  | _ => none }
def TargetEasyWrongFalsely : Prop := targetEasyRow.holds Try.pinned (OpenSpec.ofChange targetEasyWrong)

/- THE SECOND FORM. 'bulk': how many values and letters a reading holds, each counted each time it is reached (what is shared counts as often as it is met; a slice's spare places count too). A statement '..UptoSaid' is the law's where the arguments, and the package variables that the reading takes, are together of bulk at most 1048576: NARROWER than '..Said'. Prove '..Said' where nothing that the law and all that it calls make is longer than what came in: it says more and counts as full. Else prove '..UptoSaid'. A law counts once. -/
mutual
def uptoBulk {H : Type} : DataW H → Nat
  | .lit (.string bytes) => bytes.length + 1
  | .lit _ => 1
  | .nil => 1
  | .ptr d => uptoBulk d + 1
  | .slice elems spare => uptoBulkAll elems + uptoBulkAll spare + 1
  | .agg parts => uptoBulkAll parts + 1
  | .iface _ d => uptoBulk d + 1
  | .map entries => uptoBulkEntries entries + 1
  | .held _ => 1
def uptoBulkAll {H : Type} : List (DataW H) → Nat
  | [] => 0
  | d :: r => uptoBulk d + uptoBulkAll r
def uptoBulkEntries {H : Type} : List (Lit × DataW H) → Nat
  | [] => 0
  | x :: r => uptoBulkEntry x + uptoBulkEntries r
def uptoBulkEntry {H : Type} : Lit × DataW H → Nat
  | (.string bytes, d) => bytes.length + uptoBulk d + 1
  | (_, d) => uptoBulk d + 1
 end
def uptoSmall : (H : Type) → List (DataW H) → Bool := fun _ ds => decide (uptoBulkAll ds ≤ 1048576)
def OpenSpec.upto (s : _root_.Go.ChangeSpec) : _root_.Go.OpenSpec := { _root_.Go.OpenSpec.ofChange s with cond := some uptoSmall }

/-- 'scantlinglaw03.TargetBits', WHERE WHAT IT READS IS OF BULK AT MOST 1048576: true; the input reads as it did. -/
def targetBitsUptoRow : OpenClaim := { program := "ytnipajfglmahiaa", sum := "2480e831c51422e9f0daa53a0acbdb1ad0021846a382cb97b18700867a187889", func := "scantling/scantlinglaw03.TargetBits", spec := "targetBits", inPlace := ["math/bits.Add64", "math/bits.Sub64"], named := ["math/bits.divideError", "math/bits.overflowError"], apart := false, narrowed := true }
def TargetBitsUptoSaid : Prop := targetBitsUptoRow.holds Try.pinned (OpenSpec.upto targetBitsSpec)

/-- 'scantlinglaw03.TargetWorks', WHERE WHAT IT READS IS OF BULK AT MOST 1048576: true; the input reads as it did. -/
def targetWorksUptoRow : OpenClaim := { program := "ytnipajfglmahiaa", sum := "2480e831c51422e9f0daa53a0acbdb1ad0021846a382cb97b18700867a187889", func := "scantling/scantlinglaw03.TargetWorks", spec := "targetWorks", inPlace := ["math/bits.Add64", "math/bits.Sub64"], named := ["math/bits.divideError", "math/bits.overflowError"], apart := false, narrowed := true }
def TargetWorksUptoSaid : Prop := targetWorksUptoRow.holds Try.pinned (OpenSpec.upto targetWorksSpec)

/-- 'scantlinglaw03.TargetShort', WHERE WHAT IT READS IS OF BULK AT MOST 1048576: true; the input reads as it did. -/
def targetShortUptoRow : OpenClaim := { program := "ytnipajfglmahiaa", sum := "2480e831c51422e9f0daa53a0acbdb1ad0021846a382cb97b18700867a187889", func := "scantling/scantlinglaw03.TargetShort", spec := "targetShort", inPlace := ["math/bits.Add64", "math/bits.Sub64"], named := ["math/bits.divideError", "math/bits.overflowError"], apart := false, narrowed := true }
def TargetShortUptoSaid : Prop := targetShortUptoRow.holds Try.pinned (OpenSpec.upto targetShortSpec)

/-- 'scantlinglaw03.TargetOrder', WHERE WHAT IT READS IS OF BULK AT MOST 1048576: true; the input reads as it did. -/
def targetOrderUptoRow : OpenClaim := { program := "ytnipajfglmahiaa", sum := "2480e831c51422e9f0daa53a0acbdb1ad0021846a382cb97b18700867a187889", func := "scantling/scantlinglaw03.TargetOrder", spec := "targetOrder", inPlace := ["math/bits.Add64", "math/bits.Sub64"], named := ["math/bits.divideError", "math/bits.overflowError"], apart := false, narrowed := true }
def TargetOrderUptoSaid : Prop := targetOrderUptoRow.holds Try.pinned (OpenSpec.upto targetOrderSpec)

/-- 'scantlinglaw03.TargetEasy', WHERE WHAT IT READS IS OF BULK AT MOST 1048576: true; the input reads as it did. -/
def targetEasyUptoRow : OpenClaim := { program := "ytnipajfglmahiaa", sum := "2480e831c51422e9f0daa53a0acbdb1ad0021846a382cb97b18700867a187889", func := "scantling/scantlinglaw03.TargetEasy", spec := "targetEasy", inPlace := ["math/bits.Add64", "math/bits.Sub64"], named := ["math/bits.divideError", "math/bits.overflowError"], apart := false, narrowed := true }
def TargetEasyUptoSaid : Prop := targetEasyUptoRow.holds Try.pinned (OpenSpec.upto targetEasySpec)

end Rows
end Go.Proofs.Ytnipajfglmahiaa
