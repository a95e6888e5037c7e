/-
  DERIVED. GIVEN WITH THE SEED: THE CARDS: each row of YtdenibigefchpaaDoorRows.lean that lists a variable, with what it lists TIED to the program's text (the seventh form; the later family's looks); each row that meets fmt, with fmt's text TOLD by the authors' own Lean function (tested against real Go, not proved from fmt's source: count such statements apart). THE CARD IS WHAT COUNTS. Prove the row's statement (the work); the ties are given (YtdenibigefchpaaDoorTie.lean); close each card by the builder's one call (the guide's Derived/Test/ToyasCard.lean, 'card_holds'). Laid BY PROGRAM, IN A SANDBOX (cutbox-door.mjs). By AI agents, Wed Nov 11 2026. No macro, syntax, notation, axiom, sorry.
-/
import Derived.Test.YtdenibigefchpaaDoorRows
import GoSem.ClaimSeven
namespace Go.Proofs.YtdenibigefchpaaDoor
namespace Rows

/-- THE TIED CARD OF 'scantlinglaw10.MerkleRoots'. -/
def merkleRootsCard : Claim7 := { stood := { row := merkleRootsRow, standIns := [], harness := (true, "46cb8d46183d44f1d916c04e2c7b7116aa17cc4190f8a13ee6767f36d4c662d6"), looks := false }, kinds := [], alts := [], laidByText := true, laidKinds := [.data, .data], laidTests := true, laidLooks := .later }
def MerkleRootsCardSaid : Prop := Claim7.holds Tryd.pinned (.plain (OpenSpec.ofChange merkleRootsSpec)) merkleRootsCard

/-- THE TIED CARD OF 'scantlinglaw10.MerkleFolds'. -/
def merkleFoldsCard : Claim7 := { stood := { row := merkleFoldsRow, standIns := [], harness := (true, "46cb8d46183d44f1d916c04e2c7b7116aa17cc4190f8a13ee6767f36d4c662d6"), looks := false }, kinds := [], alts := [], laidByText := true, laidKinds := [.data, .data], laidTests := true, laidLooks := .later }
def MerkleFoldsCardSaid : Prop := Claim7.holds Tryd.pinned (.plain (OpenSpec.ofChange merkleFoldsSpec)) merkleFoldsCard

/-- THE TIED CARD OF 'scantlinglaw10.MerkleLeads'. -/
def merkleLeadsCard : Claim7 := { stood := { row := merkleLeadsRow, standIns := [], harness := (true, "46cb8d46183d44f1d916c04e2c7b7116aa17cc4190f8a13ee6767f36d4c662d6"), looks := false }, kinds := [], alts := [], laidByText := true, laidKinds := [.data, .data], laidTests := true, laidLooks := .later }
def MerkleLeadsCardSaid : Prop := Claim7.holds Tryd.pinned (.plain (OpenSpec.ofChange merkleLeadsSpec)) merkleLeadsCard

/-- THE TIED CARD OF 'scantlinglaw10.MerkleAbove'. -/
def merkleAboveCard : Claim7 := { stood := { row := merkleAboveRow, standIns := [], harness := (true, "46cb8d46183d44f1d916c04e2c7b7116aa17cc4190f8a13ee6767f36d4c662d6"), looks := false }, kinds := [], alts := [], laidByText := true, laidKinds := [.data, .data], laidTests := true, laidLooks := .later }
def MerkleAboveCardSaid : Prop := Claim7.holds Tryd.pinned (.plain (OpenSpec.ofChange merkleAboveSpec)) merkleAboveCard

/-- THE TIED CARD OF 'scantlinglaw10.MerkleTwin'. -/
def merkleTwinCard : Claim7 := { stood := { row := merkleTwinRow, standIns := [], harness := (true, "46cb8d46183d44f1d916c04e2c7b7116aa17cc4190f8a13ee6767f36d4c662d6"), looks := false }, kinds := [], alts := [], laidByText := true, laidKinds := [.data, .data], laidTests := true, laidLooks := .later }
def MerkleTwinCardSaid : Prop := Claim7.holds Tryd.pinned (.plain (OpenSpec.ofChange merkleTwinSpec)) merkleTwinCard

/-- THE TIED CARD OF 'scantlinglaw10.MerkleFar'. -/
def merkleFarCard : Claim7 := { stood := { row := merkleFarRow, standIns := [], harness := (true, "46cb8d46183d44f1d916c04e2c7b7116aa17cc4190f8a13ee6767f36d4c662d6"), looks := false }, kinds := [], alts := [], laidByText := true, laidKinds := [.data, .data], laidTests := true, laidLooks := .later }
def MerkleFarCardSaid : Prop := Claim7.holds Tryd.pinned (.plain (OpenSpec.ofChange merkleFarSpec)) merkleFarCard

/-- THE SECOND FORM's CARD OF 'scantlinglaw10.MerkleRoots'. -/
def merkleRootsUptoCard : Claim7 := { stood := { row := merkleRootsUptoRow, standIns := [], harness := (true, "46cb8d46183d44f1d916c04e2c7b7116aa17cc4190f8a13ee6767f36d4c662d6"), looks := false }, kinds := [], alts := [], laidByText := true, laidKinds := [.data, .data], laidTests := true, laidLooks := .later }
def MerkleRootsUptoCardSaid : Prop := Claim7.holds Tryd.pinned (.plain (OpenSpec.upto merkleRootsSpec)) merkleRootsUptoCard

/-- THE SECOND FORM's CARD OF 'scantlinglaw10.MerkleFolds'. -/
def merkleFoldsUptoCard : Claim7 := { stood := { row := merkleFoldsUptoRow, standIns := [], harness := (true, "46cb8d46183d44f1d916c04e2c7b7116aa17cc4190f8a13ee6767f36d4c662d6"), looks := false }, kinds := [], alts := [], laidByText := true, laidKinds := [.data, .data], laidTests := true, laidLooks := .later }
def MerkleFoldsUptoCardSaid : Prop := Claim7.holds Tryd.pinned (.plain (OpenSpec.upto merkleFoldsSpec)) merkleFoldsUptoCard

/-- THE SECOND FORM's CARD OF 'scantlinglaw10.MerkleLeads'. -/
def merkleLeadsUptoCard : Claim7 := { stood := { row := merkleLeadsUptoRow, standIns := [], harness := (true, "46cb8d46183d44f1d916c04e2c7b7116aa17cc4190f8a13ee6767f36d4c662d6"), looks := false }, kinds := [], alts := [], laidByText := true, laidKinds := [.data, .data], laidTests := true, laidLooks := .later }
def MerkleLeadsUptoCardSaid : Prop := Claim7.holds Tryd.pinned (.plain (OpenSpec.upto merkleLeadsSpec)) merkleLeadsUptoCard

/-- THE SECOND FORM's CARD OF 'scantlinglaw10.MerkleAbove'. -/
def merkleAboveUptoCard : Claim7 := { stood := { row := merkleAboveUptoRow, standIns := [], harness := (true, "46cb8d46183d44f1d916c04e2c7b7116aa17cc4190f8a13ee6767f36d4c662d6"), looks := false }, kinds := [], alts := [], laidByText := true, laidKinds := [.data, .data], laidTests := true, laidLooks := .later }
def MerkleAboveUptoCardSaid : Prop := Claim7.holds Tryd.pinned (.plain (OpenSpec.upto merkleAboveSpec)) merkleAboveUptoCard

/-- THE SECOND FORM's CARD OF 'scantlinglaw10.MerkleTwin'. -/
def merkleTwinUptoCard : Claim7 := { stood := { row := merkleTwinUptoRow, standIns := [], harness := (true, "46cb8d46183d44f1d916c04e2c7b7116aa17cc4190f8a13ee6767f36d4c662d6"), looks := false }, kinds := [], alts := [], laidByText := true, laidKinds := [.data, .data], laidTests := true, laidLooks := .later }
def MerkleTwinUptoCardSaid : Prop := Claim7.holds Tryd.pinned (.plain (OpenSpec.upto merkleTwinSpec)) merkleTwinUptoCard

/-- THE SECOND FORM's CARD OF 'scantlinglaw10.MerkleFar'. -/
def merkleFarUptoCard : Claim7 := { stood := { row := merkleFarUptoRow, standIns := [], harness := (true, "46cb8d46183d44f1d916c04e2c7b7116aa17cc4190f8a13ee6767f36d4c662d6"), looks := false }, kinds := [], alts := [], laidByText := true, laidKinds := [.data, .data], laidTests := true, laidLooks := .later }
def MerkleFarUptoCardSaid : Prop := Claim7.holds Tryd.pinned (.plain (OpenSpec.upto merkleFarSpec)) merkleFarUptoCard
end Rows
end Go.Proofs.YtdenibigefchpaaDoor
