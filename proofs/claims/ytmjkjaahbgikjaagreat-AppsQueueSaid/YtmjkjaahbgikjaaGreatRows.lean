/-
  No cell of these rows narrows 'for every input' (looked for: loops, veiled, ifaces, maps, wideKeys, modest, calm, conditions, laid).
  DERIVED. THE GIVEN ROWS OF THIS SEAT. 3 by the template 'for every input the law returns true; each argument reads behind the call as it read before'; 0 by the template 'total and deterministic' (their statements: YtmjkjaahbgikjaaGreatTotals.lean).
  GIVEN WITH THE SEED: the statements are not yours to turn. If you find one false, say at which input.
  Laid BY PROGRAM, IN A SANDBOX (cutbox-rows.mjs): the forced cells as the released guide's own fill.sh prints them over the translation 60b35ec392895421… (all of the seat's roots in one cut). By AI agents, Wed Nov 11 2026. No macro, syntax, notation, axiom, sorry.
-/
import Derived.Test.YtmjkjaahbgikjaaGreatChecked
import GoSem.Claim
import GoSem.ClaimJoined
import GoSem.ClaimMapViews
import Derived.JoinedTies
import Derived.KernelRfl
namespace Go.Proofs.YtmjkjaahbgikjaaGreat
/- THE CELL 'sum', in the pinned program and in every row, IS THE sha256 OF THE DUMP (.gsa) THAT YtmjkjaahbgikjaaGreatProg.lean LOADS. Nothing in Lean hashes anything: it is a label: what it is worth is what the hold of that sum in a sandbox is worth. -/
noncomputable def Tryz.pinned : Pinned := { name := "ytmjkjaahbgikjaagreat", sum := "60b35ec392895421286fbdc42b69fafd78e62cf0e696a45ce098aa632e635a1a", checked := Tryz.checked }
namespace Rows
def none {H : Type} : Left H := { results := [], args := [] }

/-- 'dispatchlaw10.AppsSubmit': WHATEVER THE INPUT: true; the input reads as it did. -/
def appsSubmitSpec : ChangeSpec := { name := "appsSubmit", fn := fun _ => fun
  | [d1, d2, d3, d4] => { results := [.lit (.bool true)], args := [d1, d2, d3, d4] }
  | _ => none }
def appsSubmitRow : OpenClaim := { program := "ytmjkjaahbgikjaagreat", sum := "60b35ec392895421286fbdc42b69fafd78e62cf0e696a45ce098aa632e635a1a", func := "dispatch/dispatchlaw10.AppsSubmit", spec := "appsSubmit", unfollowed := true, recurses := true, apart := false }
def AppsSubmitSaid : Prop := appsSubmitRow.holds Tryz.pinned (OpenSpec.ofChange appsSubmitSpec)

/-- ITS FALSE NEIGHBOUR: 'it returns false'. Refute it at one input. -/
def appsSubmitWrong : ChangeSpec := { name := "appsSubmit", fn := fun _ => fun
  | [d1, d2, d3, d4] => { results := [.lit (.bool false)], args := [d1, d2, d3, d4] }
  | _ => none }
def AppsSubmitWrongFalsely : Prop := appsSubmitRow.holds Tryz.pinned (OpenSpec.ofChange appsSubmitWrong)

/-- 'dispatchlaw10.AppsAsks': WHATEVER THE INPUT: true; the input reads as it did. -/
def appsAsksSpec : ChangeSpec := { name := "appsAsks", fn := fun _ => fun
  | [d1, d2, d3, d4] => { results := [.lit (.bool true)], args := [d1, d2, d3, d4] }
  | _ => none }
def appsAsksRow : OpenClaim := { program := "ytmjkjaahbgikjaagreat", sum := "60b35ec392895421286fbdc42b69fafd78e62cf0e696a45ce098aa632e635a1a", func := "dispatch/dispatchlaw10.AppsAsks", spec := "appsAsks", unfollowed := true, recurses := true, apart := false }
def AppsAsksSaid : Prop := appsAsksRow.holds Tryz.pinned (OpenSpec.ofChange appsAsksSpec)

/-- ITS FALSE NEIGHBOUR: 'it returns false'. Refute it at one input. -/
def appsAsksWrong : ChangeSpec := { name := "appsAsks", fn := fun _ => fun
  | [d1, d2, d3, d4] => { results := [.lit (.bool false)], args := [d1, d2, d3, d4] }
  | _ => none }
def AppsAsksWrongFalsely : Prop := appsAsksRow.holds Tryz.pinned (OpenSpec.ofChange appsAsksWrong)

/-- 'dispatchlaw10.AppsQueue': WHATEVER THE INPUT: true; the input reads as it did. -/
def appsQueueSpec : ChangeSpec := { name := "appsQueue", fn := fun _ => fun
  | [d1, d2] => { results := [.lit (.bool true)], args := [d1, d2] }
  | _ => none }
def appsQueueRow : OpenClaim := { program := "ytmjkjaahbgikjaagreat", sum := "60b35ec392895421286fbdc42b69fafd78e62cf0e696a45ce098aa632e635a1a", func := "dispatch/dispatchlaw10.AppsQueue", spec := "appsQueue", unfollowed := true, recurses := true, apart := false }
def AppsQueueSaid : Prop := appsQueueRow.holds Tryz.pinned (OpenSpec.ofChange appsQueueSpec)

/-- ITS FALSE NEIGHBOUR: 'it returns false'. Refute it at one input. -/
def appsQueueWrong : ChangeSpec := { name := "appsQueue", fn := fun _ => fun
  | [d1, d2] => { results := [.lit (.bool false)], args := [d1, d2] }
  | _ => none }
def AppsQueueWrongFalsely : Prop := appsQueueRow.holds Tryz.pinned (OpenSpec.ofChange appsQueueWrong)

/- THE SECOND FORM. 'bulk': how many values and letters a reading holds, each counted each time it is reached (what is shared counts as often as it is met; a slice's spare places count too). A statement '..UptoSaid' is the law's where the arguments, and the package variables that the reading takes, are together of bulk at most 1048576: NARROWER than '..Said'. Prove '..Said' where nothing that the law and all that it calls make is longer than what came in: it says more and counts as full. Else prove '..UptoSaid'. A law counts once. -/
mutual
def uptoBulk {H : Type} : DataW H → Nat
  | .lit (.string bytes) => bytes.length + 1
  | .lit _ => 1
  | .nil => 1
  | .ptr d => uptoBulk d + 1
  | .slice elems spare => uptoBulkAll elems + uptoBulkAll spare + 1
  | .agg parts => uptoBulkAll parts + 1
  | .iface _ d => uptoBulk d + 1
  | .map entries => uptoBulkEntries entries + 1
  | .held _ => 1
def uptoBulkAll {H : Type} : List (DataW H) → Nat
  | [] => 0
  | d :: r => uptoBulk d + uptoBulkAll r
def uptoBulkEntries {H : Type} : List (Lit × DataW H) → Nat
  | [] => 0
  | x :: r => uptoBulkEntry x + uptoBulkEntries r
def uptoBulkEntry {H : Type} : Lit × DataW H → Nat
  | (.string bytes, d) => bytes.length + uptoBulk d + 1
  | (_, d) => uptoBulk d + 1
 end
def uptoSmall : (H : Type) → List (DataW H) → Bool := fun _ ds => decide (uptoBulkAll ds ≤ 1048576)
def OpenSpec.upto (s : _root_.Go.ChangeSpec) : _root_.Go.OpenSpec := { _root_.Go.OpenSpec.ofChange s with cond := some uptoSmall }

/-- 'dispatchlaw10.AppsSubmit', WHERE WHAT IT READS IS OF BULK AT MOST 1048576: true; the input reads as it did. -/
def appsSubmitUptoRow : OpenClaim := { program := "ytmjkjaahbgikjaagreat", sum := "60b35ec392895421286fbdc42b69fafd78e62cf0e696a45ce098aa632e635a1a", func := "dispatch/dispatchlaw10.AppsSubmit", spec := "appsSubmit", unfollowed := true, recurses := true, apart := false, narrowed := true }
def AppsSubmitUptoSaid : Prop := appsSubmitUptoRow.holds Tryz.pinned (OpenSpec.upto appsSubmitSpec)

/-- 'dispatchlaw10.AppsAsks', WHERE WHAT IT READS IS OF BULK AT MOST 1048576: true; the input reads as it did. -/
def appsAsksUptoRow : OpenClaim := { program := "ytmjkjaahbgikjaagreat", sum := "60b35ec392895421286fbdc42b69fafd78e62cf0e696a45ce098aa632e635a1a", func := "dispatch/dispatchlaw10.AppsAsks", spec := "appsAsks", unfollowed := true, recurses := true, apart := false, narrowed := true }
def AppsAsksUptoSaid : Prop := appsAsksUptoRow.holds Tryz.pinned (OpenSpec.upto appsAsksSpec)

/-- 'dispatchlaw10.AppsQueue', WHERE WHAT IT READS IS OF BULK AT MOST 1048576: true; the input reads as it did. -/
def appsQueueUptoRow : OpenClaim := { program := "ytmjkjaahbgikjaagreat", sum := "60b35ec392895421286fbdc42b69fafd78e62cf0e696a45ce098aa632e635a1a", func := "dispatch/dispatchlaw10.AppsQueue", spec := "appsQueue", unfollowed := true, recurses := true, apart := false, narrowed := true }
def AppsQueueUptoSaid : Prop := appsQueueUptoRow.holds Tryz.pinned (OpenSpec.upto appsQueueSpec)

end Rows
end Go.Proofs.YtmjkjaahbgikjaaGreat
