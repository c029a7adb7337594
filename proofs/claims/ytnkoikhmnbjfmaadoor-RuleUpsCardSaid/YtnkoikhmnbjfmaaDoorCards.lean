/-
  DERIVED. GIVEN WITH THE SEED: THE CARDS: each row of YtnkoikhmnbjfmaaDoorRows.lean that lists a variable, with what it lists TIED to the program's text (the seventh form; the later family's looks); each row that meets fmt, with fmt's text TOLD by the authors' own Lean function (tested against real Go, not proved from fmt's source: count such statements apart). THE CARD IS WHAT COUNTS. Prove the row's statement (the work); the ties are given (YtnkoikhmnbjfmaaDoorTie.lean); close each card by the builder's one call (the guide's Derived/Test/ToyasCard.lean, 'card_holds'). Laid BY PROGRAM, IN A SANDBOX (cutbox-door.mjs). By AI agents, Wed Nov 11 2026. No macro, syntax, notation, axiom, sorry.
-/
import Derived.Test.YtnkoikhmnbjfmaaDoorRows
import GoSem.ClaimSeven
namespace Go.Proofs.YtnkoikhmnbjfmaaDoor
namespace Rows

/-- THE TIED CARD OF 'dispatchlaw5.ConfParses'. -/
def confParsesCard : Claim7 := { stood := { row := confParsesRow, standIns := [], harness := (true, "b7ba897c4e69ebccdd57d2e9b47cfadc387cbb8ae90cb2ae0cd6b4180c41c57d"), looks := false }, kinds := [], alts := [], laidByText := true, laidKinds := [.data, .pinned], laidTests := true, laidLooks := .later }
def ConfParsesCardSaid : Prop := Claim7.holds Tryd.pinned (.plain (OpenSpec.ofChange confParsesSpec)) confParsesCard

/-- THE TIED CARD OF 'dispatchlaw5.ConfBack'. -/
def confBackCard : Claim7 := { stood := { row := confBackRow, standIns := [], harness := (true, "b7ba897c4e69ebccdd57d2e9b47cfadc387cbb8ae90cb2ae0cd6b4180c41c57d"), looks := false }, kinds := [], alts := [], laidByText := true, laidKinds := [.data, .data, .data, .data, .pinned], laidTests := true, laidLooks := .later }
def ConfBackCardSaid : Prop := Claim7.holds Tryd.pinned (.plain (OpenSpec.ofChange confBackSpec)) confBackCard

/-- THE TIED CARD OF 'dispatchlaw5.ConfOrder'. -/
def confOrderCard : Claim7 := { stood := { row := confOrderRow, standIns := [], harness := (true, "b7ba897c4e69ebccdd57d2e9b47cfadc387cbb8ae90cb2ae0cd6b4180c41c57d"), looks := false }, kinds := [], alts := [], laidByText := true, laidKinds := [.data, .pinned], laidTests := true, laidLooks := .later }
def ConfOrderCardSaid : Prop := Claim7.holds Tryd.pinned (.plain (OpenSpec.ofChange confOrderSpec)) confOrderCard

/-- THE TIED CARD OF 'dispatchlaw5.ConfRows'. -/
def confRowsCard : Claim7 := { stood := { row := confRowsRow, standIns := [], harness := (true, "b7ba897c4e69ebccdd57d2e9b47cfadc387cbb8ae90cb2ae0cd6b4180c41c57d"), looks := false }, kinds := [], alts := [], laidByText := true, laidKinds := [.data, .pinned], laidTests := true, laidLooks := .later }
def ConfRowsCardSaid : Prop := Claim7.holds Tryd.pinned (.plain (OpenSpec.ofChange confRowsSpec)) confRowsCard

/-- THE TIED CARD OF 'dispatchlaw5.ConfBounds'. -/
def confBoundsCard : Claim7 := { stood := { row := confBoundsRow, standIns := [], harness := (true, "b7ba897c4e69ebccdd57d2e9b47cfadc387cbb8ae90cb2ae0cd6b4180c41c57d"), looks := false }, kinds := [], alts := [], laidByText := true, laidKinds := [.data, .pinned], laidTests := true, laidLooks := .later }
def ConfBoundsCardSaid : Prop := Claim7.holds Tryd.pinned (.plain (OpenSpec.ofChange confBoundsSpec)) confBoundsCard

/-- THE TIED CARD OF 'dispatchlaw5.ConfBlanks'. -/
def confBlanksCard : Claim7 := { stood := { row := confBlanksRow, standIns := [], harness := (true, "b7ba897c4e69ebccdd57d2e9b47cfadc387cbb8ae90cb2ae0cd6b4180c41c57d"), looks := false }, kinds := [], alts := [], laidByText := true, laidKinds := [.data, .data, .data, .data, .pinned], laidTests := true, laidLooks := .later }
def ConfBlanksCardSaid : Prop := Claim7.holds Tryd.pinned (.plain (OpenSpec.ofChange confBlanksSpec)) confBlanksCard

/-- THE TIED CARD OF 'dispatchlaw5.ConfAgain'. -/
def confAgainCard : Claim7 := { stood := { row := confAgainRow, standIns := [], harness := (true, "b7ba897c4e69ebccdd57d2e9b47cfadc387cbb8ae90cb2ae0cd6b4180c41c57d"), looks := false }, kinds := [], alts := [], laidByText := true, laidKinds := [.data, .data, .data, .data, .pinned], laidTests := true, laidLooks := .later }
def ConfAgainCardSaid : Prop := Claim7.holds Tryd.pinned (.plain (OpenSpec.ofChange confAgainSpec)) confAgainCard

/-- THE TIED CARD OF 'dispatchlaw5.ConfSames'. -/
def confSamesCard : Claim7 := { stood := { row := confSamesRow, standIns := [], harness := (true, "b7ba897c4e69ebccdd57d2e9b47cfadc387cbb8ae90cb2ae0cd6b4180c41c57d"), looks := false }, kinds := [], alts := [], laidByText := true, laidKinds := [.data, .pinned], laidTests := true, laidLooks := .later }
def ConfSamesCardSaid : Prop := Claim7.holds Tryd.pinned (.plain (OpenSpec.ofChange confSamesSpec)) confSamesCard

/-- THE TIED CARD OF 'dispatchlaw6.RuleChecks'. -/
def ruleChecksCard : Claim7 := { stood := { row := ruleChecksRow, standIns := [], harness := (true, "b7ba897c4e69ebccdd57d2e9b47cfadc387cbb8ae90cb2ae0cd6b4180c41c57d"), looks := false }, kinds := [], alts := [], laidByText := true, laidKinds := [.data, .pinned], laidTests := true, laidLooks := .later }
def RuleChecksCardSaid : Prop := Claim7.holds Tryd.pinned (.plain (OpenSpec.ofChange ruleChecksSpec)) ruleChecksCard

/-- THE TIED CARD OF 'dispatchlaw6.RuleAsks'. -/
def ruleAsksCard : Claim7 := { stood := { row := ruleAsksRow, standIns := [], harness := (true, "b7ba897c4e69ebccdd57d2e9b47cfadc387cbb8ae90cb2ae0cd6b4180c41c57d"), looks := false }, kinds := [], alts := [], laidByText := true, laidKinds := [.data, .pinned], laidTests := true, laidLooks := .later }
def RuleAsksCardSaid : Prop := Claim7.holds Tryd.pinned (.plain (OpenSpec.ofChange ruleAsksSpec)) ruleAsksCard

/-- THE TIED CARD OF 'dispatchlaw6.RuleUps'. -/
def ruleUpsCard : Claim7 := { stood := { row := ruleUpsRow, standIns := [], harness := (true, "b7ba897c4e69ebccdd57d2e9b47cfadc387cbb8ae90cb2ae0cd6b4180c41c57d"), looks := false }, kinds := [], alts := [], laidByText := true, laidKinds := [.data, .pinned], laidTests := true, laidLooks := .later }
def RuleUpsCardSaid : Prop := Claim7.holds Tryd.pinned (.plain (OpenSpec.ofChange ruleUpsSpec)) ruleUpsCard

/-- THE TIED CARD OF 'dispatchlaw6.RuleSums'. -/
def ruleSumsCard : Claim7 := { stood := { row := ruleSumsRow, standIns := [], harness := (true, "b7ba897c4e69ebccdd57d2e9b47cfadc387cbb8ae90cb2ae0cd6b4180c41c57d"), looks := false }, kinds := [], alts := [], laidByText := true, laidKinds := [.data, .pinned], laidTests := true, laidLooks := .later }
def RuleSumsCardSaid : Prop := Claim7.holds Tryd.pinned (.plain (OpenSpec.ofChange ruleSumsSpec)) ruleSumsCard

/-- THE TIED CARD OF 'dispatchlaw6.RuleNames'. -/
def ruleNamesCard : Claim7 := { stood := { row := ruleNamesRow, standIns := [], harness := (true, "b7ba897c4e69ebccdd57d2e9b47cfadc387cbb8ae90cb2ae0cd6b4180c41c57d"), looks := false }, kinds := [], alts := [], laidByText := true, laidKinds := [.data, .pinned], laidTests := true, laidLooks := .later }
def RuleNamesCardSaid : Prop := Claim7.holds Tryd.pinned (.plain (OpenSpec.ofChange ruleNamesSpec)) ruleNamesCard

/-- THE TIED CARD OF 'dispatchlaw6.RuleDepth'. -/
def ruleDepthCard : Claim7 := { stood := { row := ruleDepthRow, standIns := [], harness := (true, "b7ba897c4e69ebccdd57d2e9b47cfadc387cbb8ae90cb2ae0cd6b4180c41c57d"), looks := false }, kinds := [], alts := [], laidByText := true, laidKinds := [.data, .pinned], laidTests := true, laidLooks := .later }
def RuleDepthCardSaid : Prop := Claim7.holds Tryd.pinned (.plain (OpenSpec.ofChange ruleDepthSpec)) ruleDepthCard

/-- THE TIED CARD OF 'dispatchlaw6.RuleKids'. -/
def ruleKidsCard : Claim7 := { stood := { row := ruleKidsRow, standIns := [], harness := (true, "b7ba897c4e69ebccdd57d2e9b47cfadc387cbb8ae90cb2ae0cd6b4180c41c57d"), looks := false }, kinds := [], alts := [], laidByText := true, laidKinds := [.data, .pinned], laidTests := true, laidLooks := .later }
def RuleKidsCardSaid : Prop := Claim7.holds Tryd.pinned (.plain (OpenSpec.ofChange ruleKidsSpec)) ruleKidsCard

/-- THE SECOND FORM's CARD OF 'dispatchlaw5.ConfParses'. -/
def confParsesUptoCard : Claim7 := { stood := { row := confParsesUptoRow, standIns := [], harness := (true, "b7ba897c4e69ebccdd57d2e9b47cfadc387cbb8ae90cb2ae0cd6b4180c41c57d"), looks := false }, kinds := [], alts := [], laidByText := true, laidKinds := [.data, .pinned], laidTests := true, laidLooks := .later }
def ConfParsesUptoCardSaid : Prop := Claim7.holds Tryd.pinned (.plain (OpenSpec.upto confParsesSpec)) confParsesUptoCard

/-- THE SECOND FORM's CARD OF 'dispatchlaw5.ConfBack'. -/
def confBackUptoCard : Claim7 := { stood := { row := confBackUptoRow, standIns := [], harness := (true, "b7ba897c4e69ebccdd57d2e9b47cfadc387cbb8ae90cb2ae0cd6b4180c41c57d"), looks := false }, kinds := [], alts := [], laidByText := true, laidKinds := [.data, .data, .data, .data, .pinned], laidTests := true, laidLooks := .later }
def ConfBackUptoCardSaid : Prop := Claim7.holds Tryd.pinned (.plain (OpenSpec.upto confBackSpec)) confBackUptoCard

/-- THE SECOND FORM's CARD OF 'dispatchlaw5.ConfOrder'. -/
def confOrderUptoCard : Claim7 := { stood := { row := confOrderUptoRow, standIns := [], harness := (true, "b7ba897c4e69ebccdd57d2e9b47cfadc387cbb8ae90cb2ae0cd6b4180c41c57d"), looks := false }, kinds := [], alts := [], laidByText := true, laidKinds := [.data, .pinned], laidTests := true, laidLooks := .later }
def ConfOrderUptoCardSaid : Prop := Claim7.holds Tryd.pinned (.plain (OpenSpec.upto confOrderSpec)) confOrderUptoCard

/-- THE SECOND FORM's CARD OF 'dispatchlaw5.ConfRows'. -/
def confRowsUptoCard : Claim7 := { stood := { row := confRowsUptoRow, standIns := [], harness := (true, "b7ba897c4e69ebccdd57d2e9b47cfadc387cbb8ae90cb2ae0cd6b4180c41c57d"), looks := false }, kinds := [], alts := [], laidByText := true, laidKinds := [.data, .pinned], laidTests := true, laidLooks := .later }
def ConfRowsUptoCardSaid : Prop := Claim7.holds Tryd.pinned (.plain (OpenSpec.upto confRowsSpec)) confRowsUptoCard

/-- THE SECOND FORM's CARD OF 'dispatchlaw5.ConfBounds'. -/
def confBoundsUptoCard : Claim7 := { stood := { row := confBoundsUptoRow, standIns := [], harness := (true, "b7ba897c4e69ebccdd57d2e9b47cfadc387cbb8ae90cb2ae0cd6b4180c41c57d"), looks := false }, kinds := [], alts := [], laidByText := true, laidKinds := [.data, .pinned], laidTests := true, laidLooks := .later }
def ConfBoundsUptoCardSaid : Prop := Claim7.holds Tryd.pinned (.plain (OpenSpec.upto confBoundsSpec)) confBoundsUptoCard

/-- THE SECOND FORM's CARD OF 'dispatchlaw5.ConfBlanks'. -/
def confBlanksUptoCard : Claim7 := { stood := { row := confBlanksUptoRow, standIns := [], harness := (true, "b7ba897c4e69ebccdd57d2e9b47cfadc387cbb8ae90cb2ae0cd6b4180c41c57d"), looks := false }, kinds := [], alts := [], laidByText := true, laidKinds := [.data, .data, .data, .data, .pinned], laidTests := true, laidLooks := .later }
def ConfBlanksUptoCardSaid : Prop := Claim7.holds Tryd.pinned (.plain (OpenSpec.upto confBlanksSpec)) confBlanksUptoCard

/-- THE SECOND FORM's CARD OF 'dispatchlaw5.ConfAgain'. -/
def confAgainUptoCard : Claim7 := { stood := { row := confAgainUptoRow, standIns := [], harness := (true, "b7ba897c4e69ebccdd57d2e9b47cfadc387cbb8ae90cb2ae0cd6b4180c41c57d"), looks := false }, kinds := [], alts := [], laidByText := true, laidKinds := [.data, .data, .data, .data, .pinned], laidTests := true, laidLooks := .later }
def ConfAgainUptoCardSaid : Prop := Claim7.holds Tryd.pinned (.plain (OpenSpec.upto confAgainSpec)) confAgainUptoCard

/-- THE SECOND FORM's CARD OF 'dispatchlaw5.ConfSames'. -/
def confSamesUptoCard : Claim7 := { stood := { row := confSamesUptoRow, standIns := [], harness := (true, "b7ba897c4e69ebccdd57d2e9b47cfadc387cbb8ae90cb2ae0cd6b4180c41c57d"), looks := false }, kinds := [], alts := [], laidByText := true, laidKinds := [.data, .pinned], laidTests := true, laidLooks := .later }
def ConfSamesUptoCardSaid : Prop := Claim7.holds Tryd.pinned (.plain (OpenSpec.upto confSamesSpec)) confSamesUptoCard

/-- THE SECOND FORM's CARD OF 'dispatchlaw6.RuleChecks'. -/
def ruleChecksUptoCard : Claim7 := { stood := { row := ruleChecksUptoRow, standIns := [], harness := (true, "b7ba897c4e69ebccdd57d2e9b47cfadc387cbb8ae90cb2ae0cd6b4180c41c57d"), looks := false }, kinds := [], alts := [], laidByText := true, laidKinds := [.data, .pinned], laidTests := true, laidLooks := .later }
def RuleChecksUptoCardSaid : Prop := Claim7.holds Tryd.pinned (.plain (OpenSpec.upto ruleChecksSpec)) ruleChecksUptoCard

/-- THE SECOND FORM's CARD OF 'dispatchlaw6.RuleAsks'. -/
def ruleAsksUptoCard : Claim7 := { stood := { row := ruleAsksUptoRow, standIns := [], harness := (true, "b7ba897c4e69ebccdd57d2e9b47cfadc387cbb8ae90cb2ae0cd6b4180c41c57d"), looks := false }, kinds := [], alts := [], laidByText := true, laidKinds := [.data, .pinned], laidTests := true, laidLooks := .later }
def RuleAsksUptoCardSaid : Prop := Claim7.holds Tryd.pinned (.plain (OpenSpec.upto ruleAsksSpec)) ruleAsksUptoCard

/-- THE SECOND FORM's CARD OF 'dispatchlaw6.RuleUps'. -/
def ruleUpsUptoCard : Claim7 := { stood := { row := ruleUpsUptoRow, standIns := [], harness := (true, "b7ba897c4e69ebccdd57d2e9b47cfadc387cbb8ae90cb2ae0cd6b4180c41c57d"), looks := false }, kinds := [], alts := [], laidByText := true, laidKinds := [.data, .pinned], laidTests := true, laidLooks := .later }
def RuleUpsUptoCardSaid : Prop := Claim7.holds Tryd.pinned (.plain (OpenSpec.upto ruleUpsSpec)) ruleUpsUptoCard

/-- THE SECOND FORM's CARD OF 'dispatchlaw6.RuleSums'. -/
def ruleSumsUptoCard : Claim7 := { stood := { row := ruleSumsUptoRow, standIns := [], harness := (true, "b7ba897c4e69ebccdd57d2e9b47cfadc387cbb8ae90cb2ae0cd6b4180c41c57d"), looks := false }, kinds := [], alts := [], laidByText := true, laidKinds := [.data, .pinned], laidTests := true, laidLooks := .later }
def RuleSumsUptoCardSaid : Prop := Claim7.holds Tryd.pinned (.plain (OpenSpec.upto ruleSumsSpec)) ruleSumsUptoCard

/-- THE SECOND FORM's CARD OF 'dispatchlaw6.RuleNames'. -/
def ruleNamesUptoCard : Claim7 := { stood := { row := ruleNamesUptoRow, standIns := [], harness := (true, "b7ba897c4e69ebccdd57d2e9b47cfadc387cbb8ae90cb2ae0cd6b4180c41c57d"), looks := false }, kinds := [], alts := [], laidByText := true, laidKinds := [.data, .pinned], laidTests := true, laidLooks := .later }
def RuleNamesUptoCardSaid : Prop := Claim7.holds Tryd.pinned (.plain (OpenSpec.upto ruleNamesSpec)) ruleNamesUptoCard

/-- THE SECOND FORM's CARD OF 'dispatchlaw6.RuleDepth'. -/
def ruleDepthUptoCard : Claim7 := { stood := { row := ruleDepthUptoRow, standIns := [], harness := (true, "b7ba897c4e69ebccdd57d2e9b47cfadc387cbb8ae90cb2ae0cd6b4180c41c57d"), looks := false }, kinds := [], alts := [], laidByText := true, laidKinds := [.data, .pinned], laidTests := true, laidLooks := .later }
def RuleDepthUptoCardSaid : Prop := Claim7.holds Tryd.pinned (.plain (OpenSpec.upto ruleDepthSpec)) ruleDepthUptoCard

/-- THE SECOND FORM's CARD OF 'dispatchlaw6.RuleKids'. -/
def ruleKidsUptoCard : Claim7 := { stood := { row := ruleKidsUptoRow, standIns := [], harness := (true, "b7ba897c4e69ebccdd57d2e9b47cfadc387cbb8ae90cb2ae0cd6b4180c41c57d"), looks := false }, kinds := [], alts := [], laidByText := true, laidKinds := [.data, .pinned], laidTests := true, laidLooks := .later }
def RuleKidsUptoCardSaid : Prop := Claim7.holds Tryd.pinned (.plain (OpenSpec.upto ruleKidsSpec)) ruleKidsUptoCard
end Rows
end Go.Proofs.YtnkoikhmnbjfmaaDoor
