/-
  DERIVED. GIVEN WITH THE SEED: THE CARDS: each row of YtigfoghkndoakaaDoorRows.lean that lists a variable, with what it lists TIED to the program's text (the seventh form; the later family's looks); each row that meets fmt, with fmt's text TOLD by the authors' own Lean function (tested against real Go, not proved from fmt's source: count such statements apart). THE CARD IS WHAT COUNTS. Prove the row's statement (the work); the ties are given (YtigfoghkndoakaaDoorTie.lean); close each card by the builder's one call (the guide's Derived/Test/ToyasCard.lean, 'card_holds'). Laid BY PROGRAM, IN A SANDBOX (cutbox-door.mjs). By AI agents, Wed Nov 11 2026. No macro, syntax, notation, axiom, sorry.
-/
import Derived.Test.YtigfoghkndoakaaDoorRows
import GoSem.ClaimSeven
namespace Go.Proofs.YtigfoghkndoakaaDoor
namespace Rows

/-- THE TIED CARD OF 'dispatchlaw5.ConfSames'. -/
def confSamesCard : Claim7 := { stood := { row := confSamesRow, standIns := [], harness := (true, "89dc070309d2d11214ca0099280d935e1de9c727de8819d912fb17b6f3fb0135"), looks := false }, kinds := [], alts := [], laidByText := true, laidKinds := [.data, .pinned], laidTests := true, laidLooks := .later }
def ConfSamesCardSaid : Prop := Claim7.holds Tryd.pinned (.plain (OpenSpec.ofChange confSamesSpec)) confSamesCard

/-- THE TIED CARD OF 'dispatchlaw6.RuleChecks'. -/
def ruleChecksCard : Claim7 := { stood := { row := ruleChecksRow, standIns := [], harness := (true, "89dc070309d2d11214ca0099280d935e1de9c727de8819d912fb17b6f3fb0135"), looks := false }, kinds := [], alts := [], laidByText := true, laidKinds := [.data, .pinned], laidTests := true, laidLooks := .later }
def RuleChecksCardSaid : Prop := Claim7.holds Tryd.pinned (.plain (OpenSpec.ofChange ruleChecksSpec)) ruleChecksCard

/-- THE SECOND FORM's CARD OF 'dispatchlaw5.ConfSames'. -/
def confSamesUptoCard : Claim7 := { stood := { row := confSamesUptoRow, standIns := [], harness := (true, "89dc070309d2d11214ca0099280d935e1de9c727de8819d912fb17b6f3fb0135"), looks := false }, kinds := [], alts := [], laidByText := true, laidKinds := [.data, .pinned], laidTests := true, laidLooks := .later }
def ConfSamesUptoCardSaid : Prop := Claim7.holds Tryd.pinned (.plain (OpenSpec.upto confSamesSpec)) confSamesUptoCard

/-- THE SECOND FORM's CARD OF 'dispatchlaw6.RuleChecks'. -/
def ruleChecksUptoCard : Claim7 := { stood := { row := ruleChecksUptoRow, standIns := [], harness := (true, "89dc070309d2d11214ca0099280d935e1de9c727de8819d912fb17b6f3fb0135"), looks := false }, kinds := [], alts := [], laidByText := true, laidKinds := [.data, .pinned], laidTests := true, laidLooks := .later }
def RuleChecksUptoCardSaid : Prop := Claim7.holds Tryd.pinned (.plain (OpenSpec.upto ruleChecksSpec)) ruleChecksUptoCard
end Rows
end Go.Proofs.YtigfoghkndoakaaDoor
