/-
  No cell of these rows narrows 'for every input' (looked for: loops, veiled, ifaces, maps, wideKeys, modest, calm, conditions, laid).
  DERIVED. THE GIVEN ROWS OF THIS SEAT. 2 by the template 'for every input the law returns true; each argument reads behind the call as it read before'; 0 by the template 'total and deterministic' (their statements: YtaknepbdbappdaaGreatTotals.lean).
  GIVEN WITH THE SEED: the statements are not yours to turn. If you find one false, say at which input.
  Laid BY PROGRAM, IN A SANDBOX (cutbox-rows.mjs): the forced cells as the released guide's own fill.sh prints them over the translation 30af241f8d979d11… (all of the seat's roots in one cut). By AI agents, Wed Nov 11 2026. No macro, syntax, notation, axiom, sorry.
-/
import Derived.Test.YtaknepbdbappdaaGreatChecked
import GoSem.Claim
import GoSem.ClaimJoined
import GoSem.ClaimMapViews
import Derived.JoinedTies
import Derived.KernelRfl
namespace Go.Proofs.YtaknepbdbappdaaGreat
/- THE CELL 'sum', in the pinned program and in every row, IS THE sha256 OF THE DUMP (.gsa) THAT YtaknepbdbappdaaGreatProg.lean LOADS. Nothing in Lean hashes anything: it is a label: what it is worth is what the hold of that sum in a sandbox is worth. -/
noncomputable def Tryz.pinned : Pinned := { name := "ytaknepbdbappdaagreat", sum := "30af241f8d979d11be18e9bc2608ff7c14d932a1eb91f06e6e86b51cd7c74fb0", checked := Tryz.checked }
namespace Rows
def none {H : Type} : Left H := { results := [], args := [] }

/-- 'dispatchlaw15.PlanAdds': WHATEVER THE INPUT: true; the input reads as it did. -/
def planAddsSpec : ChangeSpec := { name := "planAdds", fn := fun _ => fun
  | [d1, d2, d3, d4] => { results := [.lit (.bool true)], args := [d1, d2, d3, d4] }
  | _ => none }
def planAddsRow : OpenClaim := { program := "ytaknepbdbappdaagreat", sum := "30af241f8d979d11be18e9bc2608ff7c14d932a1eb91f06e6e86b51cd7c74fb0", func := "dispatch/dispatchlaw15.PlanAdds", spec := "planAdds", unfollowed := true, recurses := true, apart := false }
def PlanAddsSaid : Prop := planAddsRow.holds Tryz.pinned (OpenSpec.ofChange planAddsSpec)

/-- ITS FALSE NEIGHBOUR: 'it returns false'. Refute it at one input. -/
def planAddsWrong : ChangeSpec := { name := "planAdds", fn := fun _ => fun
  | [d1, d2, d3, d4] => { results := [.lit (.bool false)], args := [d1, d2, d3, d4] }
  | _ => none }
def PlanAddsWrongFalsely : Prop := planAddsRow.holds Tryz.pinned (OpenSpec.ofChange planAddsWrong)

/-- 'dispatchlaw8.NodesFree': WHATEVER THE INPUT: true; the input reads as it did. -/
def nodesFreeSpec : ChangeSpec := { name := "nodesFree", fn := fun _ => fun
  | [d] => { results := [.lit (.bool true)], args := [d] }
  | _ => none }
def nodesFreeRow : OpenClaim := { program := "ytaknepbdbappdaagreat", sum := "30af241f8d979d11be18e9bc2608ff7c14d932a1eb91f06e6e86b51cd7c74fb0", func := "dispatch/dispatchlaw8.NodesFree", spec := "nodesFree", unfollowed := true, recurses := true, apart := false }
def NodesFreeSaid : Prop := nodesFreeRow.holds Tryz.pinned (OpenSpec.ofChange nodesFreeSpec)

/-- ITS FALSE NEIGHBOUR: 'it returns false'. Refute it at one input. -/
def nodesFreeWrong : ChangeSpec := { name := "nodesFree", fn := fun _ => fun
  | [d] => { results := [.lit (.bool false)], args := [d] }
  | _ => none }
def NodesFreeWrongFalsely : Prop := nodesFreeRow.holds Tryz.pinned (OpenSpec.ofChange nodesFreeWrong)

/- THE SECOND FORM. 'bulk': how many values and letters a reading holds, each counted each time it is reached (what is shared counts as often as it is met; a slice's spare places count too). A statement '..UptoSaid' is the law's where the arguments, and the package variables that the reading takes, are together of bulk at most 1048576: NARROWER than '..Said'. Prove '..Said' where nothing that the law and all that it calls make is longer than what came in: it says more and counts as full. Else prove '..UptoSaid'. A law counts once. -/
mutual
def uptoBulk {H : Type} : DataW H → Nat
  | .lit (.string bytes) => bytes.length + 1
  | .lit _ => 1
  | .nil => 1
  | .ptr d => uptoBulk d + 1
  | .slice elems spare => uptoBulkAll elems + uptoBulkAll spare + 1
  | .agg parts => uptoBulkAll parts + 1
  | .iface _ d => uptoBulk d + 1
  | .map entries => uptoBulkEntries entries + 1
  | .held _ => 1
def uptoBulkAll {H : Type} : List (DataW H) → Nat
  | [] => 0
  | d :: r => uptoBulk d + uptoBulkAll r
def uptoBulkEntries {H : Type} : List (Lit × DataW H) → Nat
  | [] => 0
  | x :: r => uptoBulkEntry x + uptoBulkEntries r
def uptoBulkEntry {H : Type} : Lit × DataW H → Nat
  | (.string bytes, d) => bytes.length + uptoBulk d + 1
  | (_, d) => uptoBulk d + 1
 end
def uptoSmall : (H : Type) → List (DataW H) → Bool := fun _ ds => decide (uptoBulkAll ds ≤ 1048576)
def OpenSpec.upto (s : _root_.Go.ChangeSpec) : _root_.Go.OpenSpec := { _root_.Go.OpenSpec.ofChange s with cond := some uptoSmall }

/-- 'dispatchlaw15.PlanAdds', WHERE WHAT IT READS IS OF BULK AT MOST 1048576: true; the input reads as it did. -/
def planAddsUptoRow : OpenClaim := { program := "ytaknepbdbappdaagreat", sum := "30af241f8d979d11be18e9bc2608ff7c14d932a1eb91f06e6e86b51cd7c74fb0", func := "dispatch/dispatchlaw15.PlanAdds", spec := "planAdds", unfollowed := true, recurses := true, apart := false, narrowed := true }
def PlanAddsUptoSaid : Prop := planAddsUptoRow.holds Tryz.pinned (OpenSpec.upto planAddsSpec)

/-- 'dispatchlaw8.NodesFree', WHERE WHAT IT READS IS OF BULK AT MOST 1048576: true; the input reads as it did. -/
def nodesFreeUptoRow : OpenClaim := { program := "ytaknepbdbappdaagreat", sum := "30af241f8d979d11be18e9bc2608ff7c14d932a1eb91f06e6e86b51cd7c74fb0", func := "dispatch/dispatchlaw8.NodesFree", spec := "nodesFree", unfollowed := true, recurses := true, apart := false, narrowed := true }
def NodesFreeUptoSaid : Prop := nodesFreeUptoRow.holds Tryz.pinned (OpenSpec.upto nodesFreeSpec)

end Rows
end Go.Proofs.YtaknepbdbappdaaGreat
