/-
  DERIVED. GIVEN WITH THE SEED: THE CARDS: each row of YtimjmmiajgfblaaGreatDoorRows.lean that lists a variable, with what it lists TIED to the program's text (the seventh form; the later family's looks); each row that meets fmt, with fmt's text TOLD by the authors' own Lean function (tested against real Go, not proved from fmt's source: count such statements apart). THE CARD IS WHAT COUNTS. Prove the row's statement (the work); the ties are given (YtimjmmiajgfblaaGreatDoorTie.lean); close each card by the builder's one call (the guide's Derived/Test/ToyasCard.lean, 'card_holds'). Laid BY PROGRAM, IN A SANDBOX (cutbox-door.mjs). By AI agents, Wed Nov 11 2026. No macro, syntax, notation, axiom, sorry.
-/
import Derived.Test.YtimjmmiajgfblaaGreatDoorRows
import GoSem.ClaimSeven
namespace Go.Proofs.YtimjmmiajgfblaaGreatDoor
namespace Rows

/-- THE TIED CARD OF 'scantlinglaw13.RulesPlays'. -/
def rulesPlaysCard : Claim7 := { stood := { row := rulesPlaysRow, standIns := [], harness := (true, "66df0ad253c10d157a8f4b992e1ec6e12bcf6901b34f94ac9eaa3f19cf7fc3eb"), looks := false }, kinds := [], alts := [], laidByText := true, laidKinds := [.data, .data], laidTests := true, laidLooks := .later }
def RulesPlaysCardSaid : Prop := Claim7.holds Tryz.pinned (.plain (OpenSpec.ofChange rulesPlaysSpec)) rulesPlaysCard

/-- THE TIED CARD OF 'scantlinglaw13.RulesChain'. -/
def rulesChainCard : Claim7 := { stood := { row := rulesChainRow, standIns := [], harness := (true, "66df0ad253c10d157a8f4b992e1ec6e12bcf6901b34f94ac9eaa3f19cf7fc3eb"), looks := false }, kinds := [], alts := [], laidByText := true, laidKinds := [.data, .data], laidTests := true, laidLooks := .later }
def RulesChainCardSaid : Prop := Claim7.holds Tryz.pinned (.plain (OpenSpec.ofChange rulesChainSpec)) rulesChainCard

/-- THE TIED CARD OF 'scantlinglaw13.RulesTurns'. -/
def rulesTurnsCard : Claim7 := { stood := { row := rulesTurnsRow, standIns := [], harness := (true, "66df0ad253c10d157a8f4b992e1ec6e12bcf6901b34f94ac9eaa3f19cf7fc3eb"), looks := false }, kinds := [], alts := [], laidByText := true, laidKinds := [.data, .data], laidTests := true, laidLooks := .later }
def RulesTurnsCardSaid : Prop := Claim7.holds Tryz.pinned (.plain (OpenSpec.ofChange rulesTurnsSpec)) rulesTurnsCard

/-- THE TIED CARD OF 'scantlinglaw13.RulesMedian'. -/
def rulesMedianCard : Claim7 := { stood := { row := rulesMedianRow, standIns := [], harness := (true, "66df0ad253c10d157a8f4b992e1ec6e12bcf6901b34f94ac9eaa3f19cf7fc3eb"), looks := false }, kinds := [], alts := [], laidByText := true, laidKinds := [.data, .data], laidTests := true, laidLooks := .later }
def RulesMedianCardSaid : Prop := Claim7.holds Tryz.pinned (.plain (OpenSpec.ofChange rulesMedianSpec)) rulesMedianCard

/-- THE TIED CARD OF 'scantlinglaw13.RulesPoints'. -/
def rulesPointsCard : Claim7 := { stood := { row := rulesPointsRow, standIns := [], harness := (true, "66df0ad253c10d157a8f4b992e1ec6e12bcf6901b34f94ac9eaa3f19cf7fc3eb"), looks := false }, kinds := [], alts := [], laidByText := true, laidKinds := [.data, .data], laidTests := true, laidLooks := .later }
def RulesPointsCardSaid : Prop := Claim7.holds Tryz.pinned (.plain (OpenSpec.ofChange rulesPointsSpec)) rulesPointsCard

/-- THE SECOND FORM's CARD OF 'scantlinglaw13.RulesPlays'. -/
def rulesPlaysUptoCard : Claim7 := { stood := { row := rulesPlaysUptoRow, standIns := [], harness := (true, "66df0ad253c10d157a8f4b992e1ec6e12bcf6901b34f94ac9eaa3f19cf7fc3eb"), looks := false }, kinds := [], alts := [], laidByText := true, laidKinds := [.data, .data], laidTests := true, laidLooks := .later }
def RulesPlaysUptoCardSaid : Prop := Claim7.holds Tryz.pinned (.plain (OpenSpec.upto rulesPlaysSpec)) rulesPlaysUptoCard

/-- THE SECOND FORM's CARD OF 'scantlinglaw13.RulesChain'. -/
def rulesChainUptoCard : Claim7 := { stood := { row := rulesChainUptoRow, standIns := [], harness := (true, "66df0ad253c10d157a8f4b992e1ec6e12bcf6901b34f94ac9eaa3f19cf7fc3eb"), looks := false }, kinds := [], alts := [], laidByText := true, laidKinds := [.data, .data], laidTests := true, laidLooks := .later }
def RulesChainUptoCardSaid : Prop := Claim7.holds Tryz.pinned (.plain (OpenSpec.upto rulesChainSpec)) rulesChainUptoCard

/-- THE SECOND FORM's CARD OF 'scantlinglaw13.RulesTurns'. -/
def rulesTurnsUptoCard : Claim7 := { stood := { row := rulesTurnsUptoRow, standIns := [], harness := (true, "66df0ad253c10d157a8f4b992e1ec6e12bcf6901b34f94ac9eaa3f19cf7fc3eb"), looks := false }, kinds := [], alts := [], laidByText := true, laidKinds := [.data, .data], laidTests := true, laidLooks := .later }
def RulesTurnsUptoCardSaid : Prop := Claim7.holds Tryz.pinned (.plain (OpenSpec.upto rulesTurnsSpec)) rulesTurnsUptoCard

/-- THE SECOND FORM's CARD OF 'scantlinglaw13.RulesMedian'. -/
def rulesMedianUptoCard : Claim7 := { stood := { row := rulesMedianUptoRow, standIns := [], harness := (true, "66df0ad253c10d157a8f4b992e1ec6e12bcf6901b34f94ac9eaa3f19cf7fc3eb"), looks := false }, kinds := [], alts := [], laidByText := true, laidKinds := [.data, .data], laidTests := true, laidLooks := .later }
def RulesMedianUptoCardSaid : Prop := Claim7.holds Tryz.pinned (.plain (OpenSpec.upto rulesMedianSpec)) rulesMedianUptoCard

/-- THE SECOND FORM's CARD OF 'scantlinglaw13.RulesPoints'. -/
def rulesPointsUptoCard : Claim7 := { stood := { row := rulesPointsUptoRow, standIns := [], harness := (true, "66df0ad253c10d157a8f4b992e1ec6e12bcf6901b34f94ac9eaa3f19cf7fc3eb"), looks := false }, kinds := [], alts := [], laidByText := true, laidKinds := [.data, .data], laidTests := true, laidLooks := .later }
def RulesPointsUptoCardSaid : Prop := Claim7.holds Tryz.pinned (.plain (OpenSpec.upto rulesPointsSpec)) rulesPointsUptoCard
end Rows
end Go.Proofs.YtimjmmiajgfblaaGreatDoor
