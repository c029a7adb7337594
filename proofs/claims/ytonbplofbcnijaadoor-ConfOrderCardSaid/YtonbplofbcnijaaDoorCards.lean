/-
  DERIVED. GIVEN WITH THE SEED: THE CARDS: each row of YtonbplofbcnijaaDoorRows.lean that lists a variable, with what it lists TIED to the program's text (the seventh form; the later family's looks); each row that meets fmt, with fmt's text TOLD by the authors' own Lean function (tested against real Go, not proved from fmt's source: count such statements apart). THE CARD IS WHAT COUNTS. Prove the row's statement (the work); the ties are given (YtonbplofbcnijaaDoorTie.lean); close each card by the builder's one call (the guide's Derived/Test/ToyasCard.lean, 'card_holds'). Laid BY PROGRAM, IN A SANDBOX (cutbox-door.mjs). By AI agents, Wed Nov 11 2026. No macro, syntax, notation, axiom, sorry.
-/
import Derived.Test.YtonbplofbcnijaaDoorRows
import GoSem.ClaimSeven
namespace Go.Proofs.YtonbplofbcnijaaDoor
namespace Rows

/-- THE TIED CARD OF 'dispatchlaw5.ConfParses'. -/
def confParsesCard : Claim7 := { stood := { row := confParsesRow, standIns := [], harness := (true, "e575879825aa65d81129ba743fc67970cc922de2df330653fd794d2034df2499"), looks := false }, kinds := [], alts := [], laidByText := true, laidKinds := [.data, .pinned], laidTests := true, laidLooks := .later }
def ConfParsesCardSaid : Prop := Claim7.holds Tryd.pinned (.plain (OpenSpec.ofChange confParsesSpec)) confParsesCard

/-- THE TIED CARD OF 'dispatchlaw5.ConfBack'. -/
def confBackCard : Claim7 := { stood := { row := confBackRow, standIns := [], harness := (true, "e575879825aa65d81129ba743fc67970cc922de2df330653fd794d2034df2499"), looks := false }, kinds := [], alts := [], laidByText := true, laidKinds := [.data, .data, .data, .data, .pinned], laidTests := true, laidLooks := .later }
def ConfBackCardSaid : Prop := Claim7.holds Tryd.pinned (.plain (OpenSpec.ofChange confBackSpec)) confBackCard

/-- THE TIED CARD OF 'dispatchlaw5.ConfOrder'. -/
def confOrderCard : Claim7 := { stood := { row := confOrderRow, standIns := [], harness := (true, "e575879825aa65d81129ba743fc67970cc922de2df330653fd794d2034df2499"), looks := false }, kinds := [], alts := [], laidByText := true, laidKinds := [.data, .pinned], laidTests := true, laidLooks := .later }
def ConfOrderCardSaid : Prop := Claim7.holds Tryd.pinned (.plain (OpenSpec.ofChange confOrderSpec)) confOrderCard

/-- THE TIED CARD OF 'dispatchlaw5.ConfRows'. -/
def confRowsCard : Claim7 := { stood := { row := confRowsRow, standIns := [], harness := (true, "e575879825aa65d81129ba743fc67970cc922de2df330653fd794d2034df2499"), looks := false }, kinds := [], alts := [], laidByText := true, laidKinds := [.data, .pinned], laidTests := true, laidLooks := .later }
def ConfRowsCardSaid : Prop := Claim7.holds Tryd.pinned (.plain (OpenSpec.ofChange confRowsSpec)) confRowsCard

/-- THE TIED CARD OF 'dispatchlaw5.ConfBounds'. -/
def confBoundsCard : Claim7 := { stood := { row := confBoundsRow, standIns := [], harness := (true, "e575879825aa65d81129ba743fc67970cc922de2df330653fd794d2034df2499"), looks := false }, kinds := [], alts := [], laidByText := true, laidKinds := [.data, .pinned], laidTests := true, laidLooks := .later }
def ConfBoundsCardSaid : Prop := Claim7.holds Tryd.pinned (.plain (OpenSpec.ofChange confBoundsSpec)) confBoundsCard

/-- THE TIED CARD OF 'dispatchlaw5.ConfBlanks'. -/
def confBlanksCard : Claim7 := { stood := { row := confBlanksRow, standIns := [], harness := (true, "e575879825aa65d81129ba743fc67970cc922de2df330653fd794d2034df2499"), looks := false }, kinds := [], alts := [], laidByText := true, laidKinds := [.data, .data, .data, .data, .pinned], laidTests := true, laidLooks := .later }
def ConfBlanksCardSaid : Prop := Claim7.holds Tryd.pinned (.plain (OpenSpec.ofChange confBlanksSpec)) confBlanksCard

/-- THE TIED CARD OF 'dispatchlaw5.ConfAgain'. -/
def confAgainCard : Claim7 := { stood := { row := confAgainRow, standIns := [], harness := (true, "e575879825aa65d81129ba743fc67970cc922de2df330653fd794d2034df2499"), looks := false }, kinds := [], alts := [], laidByText := true, laidKinds := [.data, .data, .data, .data, .pinned], laidTests := true, laidLooks := .later }
def ConfAgainCardSaid : Prop := Claim7.holds Tryd.pinned (.plain (OpenSpec.ofChange confAgainSpec)) confAgainCard

/-- THE TIED CARD OF 'dispatchlaw5.ConfSames'. -/
def confSamesCard : Claim7 := { stood := { row := confSamesRow, standIns := [], harness := (true, "e575879825aa65d81129ba743fc67970cc922de2df330653fd794d2034df2499"), looks := false }, kinds := [], alts := [], laidByText := true, laidKinds := [.data, .pinned], laidTests := true, laidLooks := .later }
def ConfSamesCardSaid : Prop := Claim7.holds Tryd.pinned (.plain (OpenSpec.ofChange confSamesSpec)) confSamesCard

/-- THE SECOND FORM's CARD OF 'dispatchlaw5.ConfParses'. -/
def confParsesUptoCard : Claim7 := { stood := { row := confParsesUptoRow, standIns := [], harness := (true, "e575879825aa65d81129ba743fc67970cc922de2df330653fd794d2034df2499"), looks := false }, kinds := [], alts := [], laidByText := true, laidKinds := [.data, .pinned], laidTests := true, laidLooks := .later }
def ConfParsesUptoCardSaid : Prop := Claim7.holds Tryd.pinned (.plain (OpenSpec.upto confParsesSpec)) confParsesUptoCard

/-- THE SECOND FORM's CARD OF 'dispatchlaw5.ConfBack'. -/
def confBackUptoCard : Claim7 := { stood := { row := confBackUptoRow, standIns := [], harness := (true, "e575879825aa65d81129ba743fc67970cc922de2df330653fd794d2034df2499"), looks := false }, kinds := [], alts := [], laidByText := true, laidKinds := [.data, .data, .data, .data, .pinned], laidTests := true, laidLooks := .later }
def ConfBackUptoCardSaid : Prop := Claim7.holds Tryd.pinned (.plain (OpenSpec.upto confBackSpec)) confBackUptoCard

/-- THE SECOND FORM's CARD OF 'dispatchlaw5.ConfOrder'. -/
def confOrderUptoCard : Claim7 := { stood := { row := confOrderUptoRow, standIns := [], harness := (true, "e575879825aa65d81129ba743fc67970cc922de2df330653fd794d2034df2499"), looks := false }, kinds := [], alts := [], laidByText := true, laidKinds := [.data, .pinned], laidTests := true, laidLooks := .later }
def ConfOrderUptoCardSaid : Prop := Claim7.holds Tryd.pinned (.plain (OpenSpec.upto confOrderSpec)) confOrderUptoCard

/-- THE SECOND FORM's CARD OF 'dispatchlaw5.ConfRows'. -/
def confRowsUptoCard : Claim7 := { stood := { row := confRowsUptoRow, standIns := [], harness := (true, "e575879825aa65d81129ba743fc67970cc922de2df330653fd794d2034df2499"), looks := false }, kinds := [], alts := [], laidByText := true, laidKinds := [.data, .pinned], laidTests := true, laidLooks := .later }
def ConfRowsUptoCardSaid : Prop := Claim7.holds Tryd.pinned (.plain (OpenSpec.upto confRowsSpec)) confRowsUptoCard

/-- THE SECOND FORM's CARD OF 'dispatchlaw5.ConfBounds'. -/
def confBoundsUptoCard : Claim7 := { stood := { row := confBoundsUptoRow, standIns := [], harness := (true, "e575879825aa65d81129ba743fc67970cc922de2df330653fd794d2034df2499"), looks := false }, kinds := [], alts := [], laidByText := true, laidKinds := [.data, .pinned], laidTests := true, laidLooks := .later }
def ConfBoundsUptoCardSaid : Prop := Claim7.holds Tryd.pinned (.plain (OpenSpec.upto confBoundsSpec)) confBoundsUptoCard

/-- THE SECOND FORM's CARD OF 'dispatchlaw5.ConfBlanks'. -/
def confBlanksUptoCard : Claim7 := { stood := { row := confBlanksUptoRow, standIns := [], harness := (true, "e575879825aa65d81129ba743fc67970cc922de2df330653fd794d2034df2499"), looks := false }, kinds := [], alts := [], laidByText := true, laidKinds := [.data, .data, .data, .data, .pinned], laidTests := true, laidLooks := .later }
def ConfBlanksUptoCardSaid : Prop := Claim7.holds Tryd.pinned (.plain (OpenSpec.upto confBlanksSpec)) confBlanksUptoCard

/-- THE SECOND FORM's CARD OF 'dispatchlaw5.ConfAgain'. -/
def confAgainUptoCard : Claim7 := { stood := { row := confAgainUptoRow, standIns := [], harness := (true, "e575879825aa65d81129ba743fc67970cc922de2df330653fd794d2034df2499"), looks := false }, kinds := [], alts := [], laidByText := true, laidKinds := [.data, .data, .data, .data, .pinned], laidTests := true, laidLooks := .later }
def ConfAgainUptoCardSaid : Prop := Claim7.holds Tryd.pinned (.plain (OpenSpec.upto confAgainSpec)) confAgainUptoCard

/-- THE SECOND FORM's CARD OF 'dispatchlaw5.ConfSames'. -/
def confSamesUptoCard : Claim7 := { stood := { row := confSamesUptoRow, standIns := [], harness := (true, "e575879825aa65d81129ba743fc67970cc922de2df330653fd794d2034df2499"), looks := false }, kinds := [], alts := [], laidByText := true, laidKinds := [.data, .pinned], laidTests := true, laidLooks := .later }
def ConfSamesUptoCardSaid : Prop := Claim7.holds Tryd.pinned (.plain (OpenSpec.upto confSamesSpec)) confSamesUptoCard
end Rows
end Go.Proofs.YtonbplofbcnijaaDoor
