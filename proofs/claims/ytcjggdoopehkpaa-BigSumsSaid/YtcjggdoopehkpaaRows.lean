/-
  No cell of these rows narrows 'for every input' (looked for: loops, veiled, ifaces, maps, wideKeys, modest, calm, conditions, laid).
  DERIVED. THE GIVEN ROWS OF THIS SEAT. 6 by the template 'for every input the law returns true; each argument reads behind the call as it read before'; 0 by the template 'total and deterministic' (their statements: YtcjggdoopehkpaaTotals.lean).
  GIVEN WITH THE SEED: the statements are not yours to turn. If you find one false, say at which input.
  Laid BY PROGRAM, IN A SANDBOX (cutbox-rows.mjs): the forced cells as the released guide's own fill.sh prints them over the translation 4bb3f029419ec892… (all of the seat's roots in one cut). By AI agents, Wed Nov 11 2026. No macro, syntax, notation, axiom, sorry.
-/
import Derived.Test.YtcjggdoopehkpaaChecked
import GoSem.Claim
import GoSem.ClaimJoined
import GoSem.ClaimMapViews
import Derived.JoinedTies
import Derived.KernelRfl
namespace Go.Proofs.Ytcjggdoopehkpaa
/- THE CELL 'sum', in the pinned program and in every row, IS THE sha256 OF THE DUMP (.gsa) THAT YtcjggdoopehkpaaProg.lean LOADS. Nothing in Lean hashes anything: it is a label: what it is worth is what the hold of that sum in a sandbox is worth. -/
noncomputable def Try.pinned : Pinned := { name := "ytcjggdoopehkpaa", sum := "4bb3f029419ec8920368dfb93466f2e276a3513ec940749d47fcebda0e36dd8f", checked := Try.checked }
namespace Rows
def none {H : Type} : Left H := { results := [], args := [] }

/-- 'scantlinglaw02.BigSums': WHATEVER THE INPUT: true; the input reads as it did. -/
def bigSumsSpec : ChangeSpec := { name := "bigSums", fn := fun _ => fun
  | [d1, d2, d3] => { results := [.lit (.bool true)], args := [d1, d2, d3] }
  | _ => none }
def bigSumsRow : OpenClaim := { program := "ytcjggdoopehkpaa", sum := "4bb3f029419ec8920368dfb93466f2e276a3513ec940749d47fcebda0e36dd8f", func := "scantling/scantlinglaw02.BigSums", spec := "bigSums", inPlace := ["math/bits.Add64", "math/bits.Sub64"], named := ["math/bits.divideError", "math/bits.overflowError"], apart := false }
def BigSumsSaid : Prop := bigSumsRow.holds Try.pinned (OpenSpec.ofChange bigSumsSpec)

/-- ITS FALSE NEIGHBOUR: 'it returns false'. Refute it at one input. -/
def bigSumsWrong : ChangeSpec := { name := "bigSums", fn := fun _ => fun
  | [d1, d2, d3] => { results := [.lit (.bool false)], args := [d1, d2, d3] }
  | _ => none }
def BigSumsWrongFalsely : Prop := bigSumsRow.holds Try.pinned (OpenSpec.ofChange bigSumsWrong)

/-- 'scantlinglaw02.BigParts': WHATEVER THE INPUT: true; the input reads as it did. -/
def bigPartsSpec : ChangeSpec := { name := "bigParts", fn := fun _ => fun
  | [d1, d2, d3] => { results := [.lit (.bool true)], args := [d1, d2, d3] }
  | _ => none }
def bigPartsRow : OpenClaim := { program := "ytcjggdoopehkpaa", sum := "4bb3f029419ec8920368dfb93466f2e276a3513ec940749d47fcebda0e36dd8f", func := "scantling/scantlinglaw02.BigParts", spec := "bigParts", inPlace := ["math/bits.Sub64", "math/bits.Add64"], named := ["math/bits.divideError", "math/bits.overflowError"], apart := false }
def BigPartsSaid : Prop := bigPartsRow.holds Try.pinned (OpenSpec.ofChange bigPartsSpec)

/-- ITS FALSE NEIGHBOUR: 'it returns false'. Refute it at one input. -/
def bigPartsWrong : ChangeSpec := { name := "bigParts", fn := fun _ => fun
  | [d1, d2, d3] => { results := [.lit (.bool false)], args := [d1, d2, d3] }
  | _ => none }
def BigPartsWrongFalsely : Prop := bigPartsRow.holds Try.pinned (OpenSpec.ofChange bigPartsWrong)

/-- 'scantlinglaw02.BigHashes': WHATEVER THE INPUT: true; the input reads as it did. -/
def bigHashesSpec : ChangeSpec := { name := "bigHashes", fn := fun _ => fun
  | [d1, d2] => { results := [.lit (.bool true)], args := [d1, d2] }
  | _ => none }
def bigHashesRow : OpenClaim := { program := "ytcjggdoopehkpaa", sum := "4bb3f029419ec8920368dfb93466f2e276a3513ec940749d47fcebda0e36dd8f", func := "scantling/scantlinglaw02.BigHashes", spec := "bigHashes", inPlace := ["math/bits.Add64", "math/bits.Sub64"], named := ["math/bits.divideError", "math/bits.overflowError"], apart := false }
def BigHashesSaid : Prop := bigHashesRow.holds Try.pinned (OpenSpec.ofChange bigHashesSpec)

/-- ITS FALSE NEIGHBOUR: 'it returns false'. Refute it at one input. -/
def bigHashesWrong : ChangeSpec := { name := "bigHashes", fn := fun _ => fun
  | [d1, d2] => { results := [.lit (.bool false)], args := [d1, d2] }
  | _ => none }
def BigHashesWrongFalsely : Prop := bigHashesRow.holds Try.pinned (OpenSpec.ofChange bigHashesWrong)

/-- 'scantlinglaw02.BigBack': WHATEVER THE INPUT: true; the input reads as it did. -/
def bigBackSpec : ChangeSpec := { name := "bigBack", fn := fun _ => fun
  | [d1, d2, d3] => { results := [.lit (.bool true)], args := [d1, d2, d3] }
  | _ => none }
def bigBackRow : OpenClaim := { program := "ytcjggdoopehkpaa", sum := "4bb3f029419ec8920368dfb93466f2e276a3513ec940749d47fcebda0e36dd8f", func := "scantling/scantlinglaw02.BigBack", spec := "bigBack", inPlace := ["math/bits.Add64", "math/bits.Sub64"], named := ["math/bits.divideError", "math/bits.overflowError"], apart := false }
def BigBackSaid : Prop := bigBackRow.holds Try.pinned (OpenSpec.ofChange bigBackSpec)

/-- ITS FALSE NEIGHBOUR: 'it returns false'. Refute it at one input. -/
def bigBackWrong : ChangeSpec := { name := "bigBack", fn := fun _ => fun
  | [d1, d2, d3] => { results := [.lit (.bool false)], args := [d1, d2, d3] }
  | _ => none }
def BigBackWrongFalsely : Prop := bigBackRow.holds Try.pinned (OpenSpec.ofChange bigBackWrong)

/-- 'scantlinglaw02.BigMoves': WHATEVER THE INPUT: true; the input reads as it did. -/
def bigMovesSpec : ChangeSpec := { name := "bigMoves", fn := fun _ => fun
  | [d1, d2] => { results := [.lit (.bool true)], args := [d1, d2] }
  | _ => none }
def bigMovesRow : OpenClaim := { program := "ytcjggdoopehkpaa", sum := "4bb3f029419ec8920368dfb93466f2e276a3513ec940749d47fcebda0e36dd8f", func := "scantling/scantlinglaw02.BigMoves", spec := "bigMoves", inPlace := ["math/bits.Add64", "math/bits.Sub64"], named := ["math/bits.divideError", "math/bits.overflowError"], apart := false }
def BigMovesSaid : Prop := bigMovesRow.holds Try.pinned (OpenSpec.ofChange bigMovesSpec)

/-- ITS FALSE NEIGHBOUR: 'it returns false'. Refute it at one input. -/
def bigMovesWrong : ChangeSpec := { name := "bigMoves", fn := fun _ => fun
  | [d1, d2] => { results := [.lit (.bool false)], args := [d1, d2] }
  | _ => none }
def BigMovesWrongFalsely : Prop := bigMovesRow.holds Try.pinned (OpenSpec.ofChange bigMovesWrong)

/-- 'scantlinglaw02.BigOrder': WHATEVER THE INPUT: true; the input reads as it did. -/
def bigOrderSpec : ChangeSpec := { name := "bigOrder", fn := fun _ => fun
  | [d1, d2, d3] => { results := [.lit (.bool true)], args := [d1, d2, d3] }
  | _ => none }
def bigOrderRow : OpenClaim := { program := "ytcjggdoopehkpaa", sum := "4bb3f029419ec8920368dfb93466f2e276a3513ec940749d47fcebda0e36dd8f", func := "scantling/scantlinglaw02.BigOrder", spec := "bigOrder", inPlace := ["math/bits.Sub64", "math/bits.Add64"], named := ["math/bits.divideError", "math/bits.overflowError"], apart := false }
def BigOrderSaid : Prop := bigOrderRow.holds Try.pinned (OpenSpec.ofChange bigOrderSpec)

/-- ITS FALSE NEIGHBOUR: 'it returns false'. Refute it at one input. -/
def bigOrderWrong : ChangeSpec := { name := "bigOrder", fn := fun _ => fun
  | [d1, d2, d3] => { results := [.lit (.bool false)], args := [d1, d2, d3] }
  | _ => none }
def BigOrderWrongFalsely : Prop := bigOrderRow.holds Try.pinned (OpenSpec.ofChange bigOrderWrong)

/- THE SECOND FORM. 'bulk': how many values and letters a reading holds, each counted each time it is reached (what is shared counts as often as it is met; a slice's spare places count too). A statement '..UptoSaid' is the law's where the arguments, and the package variables that the reading takes, are together of bulk at most 1048576: NARROWER than '..Said'. Prove '..Said' where nothing that the law and all that it calls make is longer than what came in: it says more and counts as full. Else prove '..UptoSaid'. A law counts once. -/
mutual
def uptoBulk {H : Type} : DataW H → Nat
  | .lit (.string bytes) => bytes.length + 1
  | .lit _ => 1
  | .nil => 1
  | .ptr d => uptoBulk d + 1
  | .slice elems spare => uptoBulkAll elems + uptoBulkAll spare + 1
  | .agg parts => uptoBulkAll parts + 1
  | .iface _ d => uptoBulk d + 1
  | .map entries => uptoBulkEntries entries + 1
  | .held _ => 1
def uptoBulkAll {H : Type} : List (DataW H) → Nat
  | [] => 0
  | d :: r => uptoBulk d + uptoBulkAll r
def uptoBulkEntries {H : Type} : List (Lit × DataW H) → Nat
  | [] => 0
  | x :: r => uptoBulkEntry x + uptoBulkEntries r
def uptoBulkEntry {H : Type} : Lit × DataW H → Nat
  | (.string bytes, d) => bytes.length + uptoBulk d + 1
  | (_, d) => uptoBulk d + 1
 end
def uptoSmall : (H : Type) → List (DataW H) → Bool := fun _ ds => decide (uptoBulkAll ds ≤ 1048576)
def OpenSpec.upto (s : _root_.Go.ChangeSpec) : _root_.Go.OpenSpec := { _root_.Go.OpenSpec.ofChange s with cond := some uptoSmall }

/-- 'scantlinglaw02.BigSums', WHERE WHAT IT READS IS OF BULK AT MOST 1048576: true; the input reads as it did. -/
def bigSumsUptoRow : OpenClaim := { program := "ytcjggdoopehkpaa", sum := "4bb3f029419ec8920368dfb93466f2e276a3513ec940749d47fcebda0e36dd8f", func := "scantling/scantlinglaw02.BigSums", spec := "bigSums", inPlace := ["math/bits.Add64", "math/bits.Sub64"], named := ["math/bits.divideError", "math/bits.overflowError"], apart := false, narrowed := true }
def BigSumsUptoSaid : Prop := bigSumsUptoRow.holds Try.pinned (OpenSpec.upto bigSumsSpec)

/-- 'scantlinglaw02.BigParts', WHERE WHAT IT READS IS OF BULK AT MOST 1048576: true; the input reads as it did. -/
def bigPartsUptoRow : OpenClaim := { program := "ytcjggdoopehkpaa", sum := "4bb3f029419ec8920368dfb93466f2e276a3513ec940749d47fcebda0e36dd8f", func := "scantling/scantlinglaw02.BigParts", spec := "bigParts", inPlace := ["math/bits.Sub64", "math/bits.Add64"], named := ["math/bits.divideError", "math/bits.overflowError"], apart := false, narrowed := true }
def BigPartsUptoSaid : Prop := bigPartsUptoRow.holds Try.pinned (OpenSpec.upto bigPartsSpec)

/-- 'scantlinglaw02.BigHashes', WHERE WHAT IT READS IS OF BULK AT MOST 1048576: true; the input reads as it did. -/
def bigHashesUptoRow : OpenClaim := { program := "ytcjggdoopehkpaa", sum := "4bb3f029419ec8920368dfb93466f2e276a3513ec940749d47fcebda0e36dd8f", func := "scantling/scantlinglaw02.BigHashes", spec := "bigHashes", inPlace := ["math/bits.Add64", "math/bits.Sub64"], named := ["math/bits.divideError", "math/bits.overflowError"], apart := false, narrowed := true }
def BigHashesUptoSaid : Prop := bigHashesUptoRow.holds Try.pinned (OpenSpec.upto bigHashesSpec)

/-- 'scantlinglaw02.BigBack', WHERE WHAT IT READS IS OF BULK AT MOST 1048576: true; the input reads as it did. -/
def bigBackUptoRow : OpenClaim := { program := "ytcjggdoopehkpaa", sum := "4bb3f029419ec8920368dfb93466f2e276a3513ec940749d47fcebda0e36dd8f", func := "scantling/scantlinglaw02.BigBack", spec := "bigBack", inPlace := ["math/bits.Add64", "math/bits.Sub64"], named := ["math/bits.divideError", "math/bits.overflowError"], apart := false, narrowed := true }
def BigBackUptoSaid : Prop := bigBackUptoRow.holds Try.pinned (OpenSpec.upto bigBackSpec)

/-- 'scantlinglaw02.BigMoves', WHERE WHAT IT READS IS OF BULK AT MOST 1048576: true; the input reads as it did. -/
def bigMovesUptoRow : OpenClaim := { program := "ytcjggdoopehkpaa", sum := "4bb3f029419ec8920368dfb93466f2e276a3513ec940749d47fcebda0e36dd8f", func := "scantling/scantlinglaw02.BigMoves", spec := "bigMoves", inPlace := ["math/bits.Add64", "math/bits.Sub64"], named := ["math/bits.divideError", "math/bits.overflowError"], apart := false, narrowed := true }
def BigMovesUptoSaid : Prop := bigMovesUptoRow.holds Try.pinned (OpenSpec.upto bigMovesSpec)

/-- 'scantlinglaw02.BigOrder', WHERE WHAT IT READS IS OF BULK AT MOST 1048576: true; the input reads as it did. -/
def bigOrderUptoRow : OpenClaim := { program := "ytcjggdoopehkpaa", sum := "4bb3f029419ec8920368dfb93466f2e276a3513ec940749d47fcebda0e36dd8f", func := "scantling/scantlinglaw02.BigOrder", spec := "bigOrder", inPlace := ["math/bits.Sub64", "math/bits.Add64"], named := ["math/bits.divideError", "math/bits.overflowError"], apart := false, narrowed := true }
def BigOrderUptoSaid : Prop := bigOrderUptoRow.holds Try.pinned (OpenSpec.upto bigOrderSpec)

end Rows
end Go.Proofs.Ytcjggdoopehkpaa
