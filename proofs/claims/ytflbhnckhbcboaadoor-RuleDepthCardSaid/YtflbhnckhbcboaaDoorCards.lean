/-
  DERIVED. GIVEN WITH THE SEED: THE CARDS: each row of YtflbhnckhbcboaaDoorRows.lean that lists a variable, with what it lists TIED to the program's text (the seventh form; the later family's looks); each row that meets fmt, with fmt's text TOLD by the authors' own Lean function (tested against real Go, not proved from fmt's source: count such statements apart). THE CARD IS WHAT COUNTS. Prove the row's statement (the work); the ties are given (YtflbhnckhbcboaaDoorTie.lean); close each card by the builder's one call (the guide's Derived/Test/ToyasCard.lean, 'card_holds'). Laid BY PROGRAM, IN A SANDBOX (cutbox-door.mjs). By AI agents, Wed Nov 11 2026. No macro, syntax, notation, axiom, sorry.
-/
import Derived.Test.YtflbhnckhbcboaaDoorRows
import GoSem.ClaimSeven
namespace Go.Proofs.YtflbhnckhbcboaaDoor
namespace Rows

/-- THE TIED CARD OF 'dispatchlaw6.RuleDepth'. -/
def ruleDepthCard : Claim7 := { stood := { row := ruleDepthRow, standIns := [], harness := (true, "c0866c9dcceb7a2d389b8ff7d3f84b1a26be6cc35f3e106cb6d530479ba597fc"), looks := false }, kinds := [], alts := [], laidByText := true, laidKinds := [.data, .pinned], laidTests := true, laidLooks := .later }
def RuleDepthCardSaid : Prop := Claim7.holds Tryd.pinned (.plain (OpenSpec.ofChange ruleDepthSpec)) ruleDepthCard

/-- THE TIED CARD OF 'dispatchlaw6.RuleSums'. -/
def ruleSumsCard : Claim7 := { stood := { row := ruleSumsRow, standIns := [], harness := (true, "c0866c9dcceb7a2d389b8ff7d3f84b1a26be6cc35f3e106cb6d530479ba597fc"), looks := false }, kinds := [], alts := [], laidByText := true, laidKinds := [.data, .pinned], laidTests := true, laidLooks := .later }
def RuleSumsCardSaid : Prop := Claim7.holds Tryd.pinned (.plain (OpenSpec.ofChange ruleSumsSpec)) ruleSumsCard

/-- THE TIED CARD OF 'dispatchlaw6.RuleChecks'. -/
def ruleChecksCard : Claim7 := { stood := { row := ruleChecksRow, standIns := [], harness := (true, "c0866c9dcceb7a2d389b8ff7d3f84b1a26be6cc35f3e106cb6d530479ba597fc"), looks := false }, kinds := [], alts := [], laidByText := true, laidKinds := [.data, .pinned], laidTests := true, laidLooks := .later }
def RuleChecksCardSaid : Prop := Claim7.holds Tryd.pinned (.plain (OpenSpec.ofChange ruleChecksSpec)) ruleChecksCard

/-- THE TIED CARD OF 'dispatchlaw5.ConfSames'. -/
def confSamesCard : Claim7 := { stood := { row := confSamesRow, standIns := [], harness := (true, "c0866c9dcceb7a2d389b8ff7d3f84b1a26be6cc35f3e106cb6d530479ba597fc"), looks := false }, kinds := [], alts := [], laidByText := true, laidKinds := [.data, .pinned], laidTests := true, laidLooks := .later }
def ConfSamesCardSaid : Prop := Claim7.holds Tryd.pinned (.plain (OpenSpec.ofChange confSamesSpec)) confSamesCard

/-- THE SECOND FORM's CARD OF 'dispatchlaw6.RuleDepth'. -/
def ruleDepthUptoCard : Claim7 := { stood := { row := ruleDepthUptoRow, standIns := [], harness := (true, "c0866c9dcceb7a2d389b8ff7d3f84b1a26be6cc35f3e106cb6d530479ba597fc"), looks := false }, kinds := [], alts := [], laidByText := true, laidKinds := [.data, .pinned], laidTests := true, laidLooks := .later }
def RuleDepthUptoCardSaid : Prop := Claim7.holds Tryd.pinned (.plain (OpenSpec.upto ruleDepthSpec)) ruleDepthUptoCard

/-- THE SECOND FORM's CARD OF 'dispatchlaw6.RuleSums'. -/
def ruleSumsUptoCard : Claim7 := { stood := { row := ruleSumsUptoRow, standIns := [], harness := (true, "c0866c9dcceb7a2d389b8ff7d3f84b1a26be6cc35f3e106cb6d530479ba597fc"), looks := false }, kinds := [], alts := [], laidByText := true, laidKinds := [.data, .pinned], laidTests := true, laidLooks := .later }
def RuleSumsUptoCardSaid : Prop := Claim7.holds Tryd.pinned (.plain (OpenSpec.upto ruleSumsSpec)) ruleSumsUptoCard

/-- THE SECOND FORM's CARD OF 'dispatchlaw6.RuleChecks'. -/
def ruleChecksUptoCard : Claim7 := { stood := { row := ruleChecksUptoRow, standIns := [], harness := (true, "c0866c9dcceb7a2d389b8ff7d3f84b1a26be6cc35f3e106cb6d530479ba597fc"), looks := false }, kinds := [], alts := [], laidByText := true, laidKinds := [.data, .pinned], laidTests := true, laidLooks := .later }
def RuleChecksUptoCardSaid : Prop := Claim7.holds Tryd.pinned (.plain (OpenSpec.upto ruleChecksSpec)) ruleChecksUptoCard

/-- THE SECOND FORM's CARD OF 'dispatchlaw5.ConfSames'. -/
def confSamesUptoCard : Claim7 := { stood := { row := confSamesUptoRow, standIns := [], harness := (true, "c0866c9dcceb7a2d389b8ff7d3f84b1a26be6cc35f3e106cb6d530479ba597fc"), looks := false }, kinds := [], alts := [], laidByText := true, laidKinds := [.data, .pinned], laidTests := true, laidLooks := .later }
def ConfSamesUptoCardSaid : Prop := Claim7.holds Tryd.pinned (.plain (OpenSpec.upto confSamesSpec)) confSamesUptoCard
end Rows
end Go.Proofs.YtflbhnckhbcboaaDoor
