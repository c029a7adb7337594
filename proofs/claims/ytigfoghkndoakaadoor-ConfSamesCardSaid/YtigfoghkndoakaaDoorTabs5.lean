/- A world for the witness: Go's tables lie in it as their initialisers lay them. -/
import Derived.Test.YtigfoghkndoakaaDoorCards
import Derived.Test.YtigfoghkndoakaaDoorTie
import Derived.WalkKit
import Derived.ProofKit
import Derived.OpenShut
import Derived.Deep.DeepHandedRow
import Derived.Lib.LaidTab
import Derived.JoinedOf
import Derived.JoinedAt
import Derived.RowKit3
import Derived.Lib.SmallJoins
namespace Go.Proofs.YtigfoghkndoakaaDoor
open Go.RowKit

def cellsAre (k : IntKind) (l : List Nat) : Obj → Obj
  | .cells _ t f => .cells (l.map fun (n : Nat) => Value.int k (n : Int)).toArray t f
  | o => o
noncomputable def laying (W : World) : World :=
  { W with heap := (W.heap.modify 1 (cellsAre .u8 Go.Pinned.utf8FirstZ)).modify 2 (cellsAre .u8 [128, 191, 160, 191, 128, 159, 144, 191, 128, 143, 0, 0, 0, 0, 0, 0, 0, 0, 0, 0, 0, 0, 0, 0, 0, 0, 0, 0, 0, 0, 0, 0])
  }
end Go.Proofs.YtigfoghkndoakaaDoor
