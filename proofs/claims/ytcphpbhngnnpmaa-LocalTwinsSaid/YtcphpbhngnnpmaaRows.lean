/-
  No cell of these rows narrows 'for every input' (looked for: loops, veiled, ifaces, maps, wideKeys, modest, calm, conditions, laid).
  DERIVED. THE GIVEN ROWS OF THIS SEAT. 5 by the template 'for every input the law returns true; each argument reads behind the call as it read before'; 0 by the template 'total and deterministic' (their statements: YtcphpbhngnnpmaaTotals.lean).
  GIVEN WITH THE SEED: the statements are not yours to turn. If you find one false, say at which input.
  Laid BY PROGRAM, IN A SANDBOX (cutbox-rows.mjs): the forced cells as the released guide's own fill.sh prints them over the translation c7227b54ab8e382d… (all of the seat's roots in one cut). By AI agents, Wed Nov 11 2026. No macro, syntax, notation, axiom, sorry.
-/
import Derived.Test.YtcphpbhngnnpmaaChecked
import GoSem.Claim
import GoSem.ClaimJoined
import GoSem.ClaimMapViews
import Derived.JoinedTies
import Derived.KernelRfl
namespace Go.Proofs.Ytcphpbhngnnpmaa
/- THE CELL 'sum', in the pinned program and in every row, IS THE sha256 OF THE DUMP (.gsa) THAT YtcphpbhngnnpmaaProg.lean LOADS. Nothing in Lean hashes anything: it is a label: what it is worth is what the hold of that sum in a sandbox is worth. -/
noncomputable def Try.pinned : Pinned := { name := "ytcphpbhngnnpmaa", sum := "c7227b54ab8e382d91897c2f2f3ad08de927b2edee6bedcfbae0b091a55695fd", checked := Try.checked }
namespace Rows
def none {H : Type} : Left H := { results := [], args := [] }

/-- 'dispatchlaw13.LocalAsks': WHATEVER THE INPUT: true; the input reads as it did. -/
def localAsksSpec : ChangeSpec := { name := "localAsks", fn := fun _ => fun
  | [d1, d2] => { results := [.lit (.bool true)], args := [d1, d2] }
  | _ => none }
def localAsksRow : OpenClaim := { program := "ytcphpbhngnnpmaa", sum := "c7227b54ab8e382d91897c2f2f3ad08de927b2edee6bedcfbae0b091a55695fd", func := "dispatch/dispatchlaw13.LocalAsks", spec := "localAsks", apart := false }
def LocalAsksSaid : Prop := localAsksRow.holds Try.pinned (OpenSpec.ofChange localAsksSpec)

/-- ITS FALSE NEIGHBOUR: 'it returns false'. Refute it at one input. -/
def localAsksWrong : ChangeSpec := { name := "localAsks", fn := fun _ => fun
  | [d1, d2] => { results := [.lit (.bool false)], args := [d1, d2] }
  | _ => none }
def LocalAsksWrongFalsely : Prop := localAsksRow.holds Try.pinned (OpenSpec.ofChange localAsksWrong)

/-- 'dispatchlaw13.LocalWaits': WHATEVER THE INPUT: true; the input reads as it did. -/
def localWaitsSpec : ChangeSpec := { name := "localWaits", fn := fun _ => fun
  | [d1, d2] => { results := [.lit (.bool true)], args := [d1, d2] }
  | _ => none }
def localWaitsRow : OpenClaim := { program := "ytcphpbhngnnpmaa", sum := "c7227b54ab8e382d91897c2f2f3ad08de927b2edee6bedcfbae0b091a55695fd", func := "dispatch/dispatchlaw13.LocalWaits", spec := "localWaits", apart := false }
def LocalWaitsSaid : Prop := localWaitsRow.holds Try.pinned (OpenSpec.ofChange localWaitsSpec)

/-- ITS FALSE NEIGHBOUR: 'it returns false'. Refute it at one input. -/
def localWaitsWrong : ChangeSpec := { name := "localWaits", fn := fun _ => fun
  | [d1, d2] => { results := [.lit (.bool false)], args := [d1, d2] }
  | _ => none }
def LocalWaitsWrongFalsely : Prop := localWaitsRow.holds Try.pinned (OpenSpec.ofChange localWaitsWrong)

/-- 'dispatchlaw13.LocalNear': WHATEVER THE INPUT: true; the input reads as it did. -/
def localNearSpec : ChangeSpec := { name := "localNear", fn := fun _ => fun
  | [d1, d2, d3] => { results := [.lit (.bool true)], args := [d1, d2, d3] }
  | _ => none }
def localNearRow : OpenClaim := { program := "ytcphpbhngnnpmaa", sum := "c7227b54ab8e382d91897c2f2f3ad08de927b2edee6bedcfbae0b091a55695fd", func := "dispatch/dispatchlaw13.LocalNear", spec := "localNear", apart := false }
def LocalNearSaid : Prop := localNearRow.holds Try.pinned (OpenSpec.ofChange localNearSpec)

/-- ITS FALSE NEIGHBOUR: 'it returns false'. Refute it at one input. -/
def localNearWrong : ChangeSpec := { name := "localNear", fn := fun _ => fun
  | [d1, d2, d3] => { results := [.lit (.bool false)], args := [d1, d2, d3] }
  | _ => none }
def LocalNearWrongFalsely : Prop := localNearRow.holds Try.pinned (OpenSpec.ofChange localNearWrong)

/-- 'dispatchlaw13.LocalOrder': WHATEVER THE INPUT: true; the input reads as it did. -/
def localOrderSpec : ChangeSpec := { name := "localOrder", fn := fun _ => fun
  | [d1, d2, d3] => { results := [.lit (.bool true)], args := [d1, d2, d3] }
  | _ => none }
def localOrderRow : OpenClaim := { program := "ytcphpbhngnnpmaa", sum := "c7227b54ab8e382d91897c2f2f3ad08de927b2edee6bedcfbae0b091a55695fd", func := "dispatch/dispatchlaw13.LocalOrder", spec := "localOrder", apart := false }
def LocalOrderSaid : Prop := localOrderRow.holds Try.pinned (OpenSpec.ofChange localOrderSpec)

/-- ITS FALSE NEIGHBOUR: 'it returns false'. Refute it at one input. -/
def localOrderWrong : ChangeSpec := { name := "localOrder", fn := fun _ => fun
  | [d1, d2, d3] => { results := [.lit (.bool false)], args := [d1, d2, d3] }
  | _ => none }
def LocalOrderWrongFalsely : Prop := localOrderRow.holds Try.pinned (OpenSpec.ofChange localOrderWrong)

/-- 'dispatchlaw13.LocalTwins': WHATEVER THE INPUT: true; the input reads as it did. -/
def localTwinsSpec : ChangeSpec := { name := "localTwins", fn := fun _ => fun
  | [d1, d2, d3, d4] => { results := [.lit (.bool true)], args := [d1, d2, d3, d4] }
  | _ => none }
def localTwinsRow : OpenClaim := { program := "ytcphpbhngnnpmaa", sum := "c7227b54ab8e382d91897c2f2f3ad08de927b2edee6bedcfbae0b091a55695fd", func := "dispatch/dispatchlaw13.LocalTwins", spec := "localTwins", apart := false }
def LocalTwinsSaid : Prop := localTwinsRow.holds Try.pinned (OpenSpec.ofChange localTwinsSpec)

/-- ITS FALSE NEIGHBOUR: 'it returns false'. Refute it at one input. -/
def localTwinsWrong : ChangeSpec := { name := "localTwins", fn := fun _ => fun
  | [d1, d2, d3, d4] => { results := [.lit (.bool false)], args := [d1, d2, d3, d4] }
  | _ => none }
def LocalTwinsWrongFalsely : Prop := localTwinsRow.holds Try.pinned (OpenSpec.ofChange localTwinsWrong)

/- THE SECOND FORM. 'bulk': how many values and letters a reading holds, each counted each time it is reached (what is shared counts as often as it is met; a slice's spare places count too). A statement '..UptoSaid' is the law's where the arguments, and the package variables that the reading takes, are together of bulk at most 1048576: NARROWER than '..Said'. Prove '..Said' where nothing that the law and all that it calls make is longer than what came in: it says more and counts as full. Else prove '..UptoSaid'. A law counts once. -/
mutual
def uptoBulk {H : Type} : DataW H → Nat
  | .lit (.string bytes) => bytes.length + 1
  | .lit _ => 1
  | .nil => 1
  | .ptr d => uptoBulk d + 1
  | .slice elems spare => uptoBulkAll elems + uptoBulkAll spare + 1
  | .agg parts => uptoBulkAll parts + 1
  | .iface _ d => uptoBulk d + 1
  | .map entries => uptoBulkEntries entries + 1
  | .held _ => 1
def uptoBulkAll {H : Type} : List (DataW H) → Nat
  | [] => 0
  | d :: r => uptoBulk d + uptoBulkAll r
def uptoBulkEntries {H : Type} : List (Lit × DataW H) → Nat
  | [] => 0
  | x :: r => uptoBulkEntry x + uptoBulkEntries r
def uptoBulkEntry {H : Type} : Lit × DataW H → Nat
  | (.string bytes, d) => bytes.length + uptoBulk d + 1
  | (_, d) => uptoBulk d + 1
 end
def uptoSmall : (H : Type) → List (DataW H) → Bool := fun _ ds => decide (uptoBulkAll ds ≤ 1048576)
def OpenSpec.upto (s : _root_.Go.ChangeSpec) : _root_.Go.OpenSpec := { _root_.Go.OpenSpec.ofChange s with cond := some uptoSmall }

/-- 'dispatchlaw13.LocalAsks', WHERE WHAT IT READS IS OF BULK AT MOST 1048576: true; the input reads as it did. -/
def localAsksUptoRow : OpenClaim := { program := "ytcphpbhngnnpmaa", sum := "c7227b54ab8e382d91897c2f2f3ad08de927b2edee6bedcfbae0b091a55695fd", func := "dispatch/dispatchlaw13.LocalAsks", spec := "localAsks", apart := false, narrowed := true }
def LocalAsksUptoSaid : Prop := localAsksUptoRow.holds Try.pinned (OpenSpec.upto localAsksSpec)

/-- 'dispatchlaw13.LocalWaits', WHERE WHAT IT READS IS OF BULK AT MOST 1048576: true; the input reads as it did. -/
def localWaitsUptoRow : OpenClaim := { program := "ytcphpbhngnnpmaa", sum := "c7227b54ab8e382d91897c2f2f3ad08de927b2edee6bedcfbae0b091a55695fd", func := "dispatch/dispatchlaw13.LocalWaits", spec := "localWaits", apart := false, narrowed := true }
def LocalWaitsUptoSaid : Prop := localWaitsUptoRow.holds Try.pinned (OpenSpec.upto localWaitsSpec)

/-- 'dispatchlaw13.LocalNear', WHERE WHAT IT READS IS OF BULK AT MOST 1048576: true; the input reads as it did. -/
def localNearUptoRow : OpenClaim := { program := "ytcphpbhngnnpmaa", sum := "c7227b54ab8e382d91897c2f2f3ad08de927b2edee6bedcfbae0b091a55695fd", func := "dispatch/dispatchlaw13.LocalNear", spec := "localNear", apart := false, narrowed := true }
def LocalNearUptoSaid : Prop := localNearUptoRow.holds Try.pinned (OpenSpec.upto localNearSpec)

/-- 'dispatchlaw13.LocalOrder', WHERE WHAT IT READS IS OF BULK AT MOST 1048576: true; the input reads as it did. -/
def localOrderUptoRow : OpenClaim := { program := "ytcphpbhngnnpmaa", sum := "c7227b54ab8e382d91897c2f2f3ad08de927b2edee6bedcfbae0b091a55695fd", func := "dispatch/dispatchlaw13.LocalOrder", spec := "localOrder", apart := false, narrowed := true }
def LocalOrderUptoSaid : Prop := localOrderUptoRow.holds Try.pinned (OpenSpec.upto localOrderSpec)

/-- 'dispatchlaw13.LocalTwins', WHERE WHAT IT READS IS OF BULK AT MOST 1048576: true; the input reads as it did. -/
def localTwinsUptoRow : OpenClaim := { program := "ytcphpbhngnnpmaa", sum := "c7227b54ab8e382d91897c2f2f3ad08de927b2edee6bedcfbae0b091a55695fd", func := "dispatch/dispatchlaw13.LocalTwins", spec := "localTwins", apart := false, narrowed := true }
def LocalTwinsUptoSaid : Prop := localTwinsUptoRow.holds Try.pinned (OpenSpec.upto localTwinsSpec)

end Rows
end Go.Proofs.Ytcphpbhngnnpmaa
