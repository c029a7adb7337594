/-
  No cell of these rows narrows 'for every input' (looked for: loops, veiled, ifaces, maps, wideKeys, modest, calm, conditions, laid).
  DERIVED. THE GIVEN ROWS OF THIS SEAT. 4 by the template 'for every input the law returns true; each argument reads behind the call as it read before'; 0 by the template 'total and deterministic' (their statements: YtlifgdhieelihaaTotals.lean).
  GIVEN WITH THE SEED: the statements are not yours to turn. If you find one false, say at which input.
  Laid BY PROGRAM, IN A SANDBOX (cutbox-rows.mjs): the forced cells as the released guide's own fill.sh prints them over the translation b23eac9baee5b82d… (all of the seat's roots in one cut). By AI agents, Wed Nov 11 2026. No macro, syntax, notation, axiom, sorry.
-/
import Derived.Test.YtlifgdhieelihaaChecked
import GoSem.Claim
import GoSem.ClaimJoined
import GoSem.ClaimMapViews
import Derived.JoinedTies
import Derived.KernelRfl
namespace Go.Proofs.Ytlifgdhieelihaa
/- THE CELL 'sum', in the pinned program and in every row, IS THE sha256 OF THE DUMP (.gsa) THAT YtlifgdhieelihaaProg.lean LOADS. Nothing in Lean hashes anything: it is a label: what it is worth is what the hold of that sum in a sandbox is worth. -/
noncomputable def Try.pinned : Pinned := { name := "ytlifgdhieelihaa", sum := "b23eac9baee5b82d1d7f2f04954e6c710dec5680afc5e399c08a701ec42fb2f5", checked := Try.checked }
namespace Rows
def none {H : Type} : Left H := { results := [], args := [] }

/-- 'dispatchlaw1.RvecSums': WHATEVER THE INPUT: true; the input reads as it did. -/
def rvecSumsSpec : ChangeSpec := { name := "rvecSums", fn := fun _ => fun
  | [d1, d2, d3] => { results := [.lit (.bool true)], args := [d1, d2, d3] }
  | _ => none }
def rvecSumsRow : OpenClaim := { program := "ytlifgdhieelihaa", sum := "b23eac9baee5b82d1d7f2f04954e6c710dec5680afc5e399c08a701ec42fb2f5", func := "dispatch/dispatchlaw1.RvecSums", spec := "rvecSums", unfollowed := true, recurses := true, apart := false }
def RvecSumsSaid : Prop := rvecSumsRow.holds Try.pinned (OpenSpec.ofChange rvecSumsSpec)

/-- ITS FALSE NEIGHBOUR: 'it returns false'. Refute it at one input. -/
def rvecSumsWrong : ChangeSpec := { name := "rvecSums", fn := fun _ => fun
  | [d1, d2, d3] => { results := [.lit (.bool false)], args := [d1, d2, d3] }
  | _ => none }
def RvecSumsWrongFalsely : Prop := rvecSumsRow.holds Try.pinned (OpenSpec.ofChange rvecSumsWrong)

/-- 'dispatchlaw1.RvecChains': WHATEVER THE INPUT: true; the input reads as it did. -/
def rvecChainsSpec : ChangeSpec := { name := "rvecChains", fn := fun _ => fun
  | [d1, d2] => { results := [.lit (.bool true)], args := [d1, d2] }
  | _ => none }
def rvecChainsRow : OpenClaim := { program := "ytlifgdhieelihaa", sum := "b23eac9baee5b82d1d7f2f04954e6c710dec5680afc5e399c08a701ec42fb2f5", func := "dispatch/dispatchlaw1.RvecChains", spec := "rvecChains", unfollowed := true, recurses := true, apart := false }
def RvecChainsSaid : Prop := rvecChainsRow.holds Try.pinned (OpenSpec.ofChange rvecChainsSpec)

/-- ITS FALSE NEIGHBOUR: 'it returns false'. Refute it at one input. -/
def rvecChainsWrong : ChangeSpec := { name := "rvecChains", fn := fun _ => fun
  | [d1, d2] => { results := [.lit (.bool false)], args := [d1, d2] }
  | _ => none }
def RvecChainsWrongFalsely : Prop := rvecChainsRow.holds Try.pinned (OpenSpec.ofChange rvecChainsWrong)

/-- 'dispatchlaw1.RvecParts': WHATEVER THE INPUT: true; the input reads as it did. -/
def rvecPartsSpec : ChangeSpec := { name := "rvecParts", fn := fun _ => fun
  | [d1, d2, d3, d4] => { results := [.lit (.bool true)], args := [d1, d2, d3, d4] }
  | _ => none }
def rvecPartsRow : OpenClaim := { program := "ytlifgdhieelihaa", sum := "b23eac9baee5b82d1d7f2f04954e6c710dec5680afc5e399c08a701ec42fb2f5", func := "dispatch/dispatchlaw1.RvecParts", spec := "rvecParts", unfollowed := true, recurses := true, apart := false }
def RvecPartsSaid : Prop := rvecPartsRow.holds Try.pinned (OpenSpec.ofChange rvecPartsSpec)

/-- ITS FALSE NEIGHBOUR: 'it returns false'. Refute it at one input. -/
def rvecPartsWrong : ChangeSpec := { name := "rvecParts", fn := fun _ => fun
  | [d1, d2, d3, d4] => { results := [.lit (.bool false)], args := [d1, d2, d3, d4] }
  | _ => none }
def RvecPartsWrongFalsely : Prop := rvecPartsRow.holds Try.pinned (OpenSpec.ofChange rvecPartsWrong)

/-- 'dispatchlaw1.RvecWide': WHATEVER THE INPUT: true; the input reads as it did. -/
def rvecWideSpec : ChangeSpec := { name := "rvecWide", fn := fun _ => fun
  | [d1, d2, d3] => { results := [.lit (.bool true)], args := [d1, d2, d3] }
  | _ => none }
def rvecWideRow : OpenClaim := { program := "ytlifgdhieelihaa", sum := "b23eac9baee5b82d1d7f2f04954e6c710dec5680afc5e399c08a701ec42fb2f5", func := "dispatch/dispatchlaw1.RvecWide", spec := "rvecWide", unfollowed := true, recurses := true, apart := false }
def RvecWideSaid : Prop := rvecWideRow.holds Try.pinned (OpenSpec.ofChange rvecWideSpec)

/-- ITS FALSE NEIGHBOUR: 'it returns false'. Refute it at one input. -/
def rvecWideWrong : ChangeSpec := { name := "rvecWide", fn := fun _ => fun
  | [d1, d2, d3] => { results := [.lit (.bool false)], args := [d1, d2, d3] }
  | _ => none }
def RvecWideWrongFalsely : Prop := rvecWideRow.holds Try.pinned (OpenSpec.ofChange rvecWideWrong)

/- THE SECOND FORM. 'bulk': how many values and letters a reading holds, each counted each time it is reached (what is shared counts as often as it is met; a slice's spare places count too). A statement '..UptoSaid' is the law's where the arguments, and the package variables that the reading takes, are together of bulk at most 1048576: NARROWER than '..Said'. Prove '..Said' where nothing that the law and all that it calls make is longer than what came in: it says more and counts as full. Else prove '..UptoSaid'. A law counts once. -/
mutual
def uptoBulk {H : Type} : DataW H → Nat
  | .lit (.string bytes) => bytes.length + 1
  | .lit _ => 1
  | .nil => 1
  | .ptr d => uptoBulk d + 1
  | .slice elems spare => uptoBulkAll elems + uptoBulkAll spare + 1
  | .agg parts => uptoBulkAll parts + 1
  | .iface _ d => uptoBulk d + 1
  | .map entries => uptoBulkEntries entries + 1
  | .held _ => 1
def uptoBulkAll {H : Type} : List (DataW H) → Nat
  | [] => 0
  | d :: r => uptoBulk d + uptoBulkAll r
def uptoBulkEntries {H : Type} : List (Lit × DataW H) → Nat
  | [] => 0
  | x :: r => uptoBulkEntry x + uptoBulkEntries r
def uptoBulkEntry {H : Type} : Lit × DataW H → Nat
  | (.string bytes, d) => bytes.length + uptoBulk d + 1
  | (_, d) => uptoBulk d + 1
 end
def uptoSmall : (H : Type) → List (DataW H) → Bool := fun _ ds => decide (uptoBulkAll ds ≤ 1048576)
def OpenSpec.upto (s : _root_.Go.ChangeSpec) : _root_.Go.OpenSpec := { _root_.Go.OpenSpec.ofChange s with cond := some uptoSmall }

/-- 'dispatchlaw1.RvecSums', WHERE WHAT IT READS IS OF BULK AT MOST 1048576: true; the input reads as it did. -/
def rvecSumsUptoRow : OpenClaim := { program := "ytlifgdhieelihaa", sum := "b23eac9baee5b82d1d7f2f04954e6c710dec5680afc5e399c08a701ec42fb2f5", func := "dispatch/dispatchlaw1.RvecSums", spec := "rvecSums", unfollowed := true, recurses := true, apart := false, narrowed := true }
def RvecSumsUptoSaid : Prop := rvecSumsUptoRow.holds Try.pinned (OpenSpec.upto rvecSumsSpec)

/-- 'dispatchlaw1.RvecChains', WHERE WHAT IT READS IS OF BULK AT MOST 1048576: true; the input reads as it did. -/
def rvecChainsUptoRow : OpenClaim := { program := "ytlifgdhieelihaa", sum := "b23eac9baee5b82d1d7f2f04954e6c710dec5680afc5e399c08a701ec42fb2f5", func := "dispatch/dispatchlaw1.RvecChains", spec := "rvecChains", unfollowed := true, recurses := true, apart := false, narrowed := true }
def RvecChainsUptoSaid : Prop := rvecChainsUptoRow.holds Try.pinned (OpenSpec.upto rvecChainsSpec)

/-- 'dispatchlaw1.RvecParts', WHERE WHAT IT READS IS OF BULK AT MOST 1048576: true; the input reads as it did. -/
def rvecPartsUptoRow : OpenClaim := { program := "ytlifgdhieelihaa", sum := "b23eac9baee5b82d1d7f2f04954e6c710dec5680afc5e399c08a701ec42fb2f5", func := "dispatch/dispatchlaw1.RvecParts", spec := "rvecParts", unfollowed := true, recurses := true, apart := false, narrowed := true }
def RvecPartsUptoSaid : Prop := rvecPartsUptoRow.holds Try.pinned (OpenSpec.upto rvecPartsSpec)

/-- 'dispatchlaw1.RvecWide', WHERE WHAT IT READS IS OF BULK AT MOST 1048576: true; the input reads as it did. -/
def rvecWideUptoRow : OpenClaim := { program := "ytlifgdhieelihaa", sum := "b23eac9baee5b82d1d7f2f04954e6c710dec5680afc5e399c08a701ec42fb2f5", func := "dispatch/dispatchlaw1.RvecWide", spec := "rvecWide", unfollowed := true, recurses := true, apart := false, narrowed := true }
def RvecWideUptoSaid : Prop := rvecWideUptoRow.holds Try.pinned (OpenSpec.upto rvecWideSpec)

end Rows
end Go.Proofs.Ytlifgdhieelihaa
