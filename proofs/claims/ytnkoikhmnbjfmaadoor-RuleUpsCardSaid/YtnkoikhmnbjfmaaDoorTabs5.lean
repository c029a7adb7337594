/- A world for the witness: Go's tables lie in it as their initialisers lay them. -/
import Derived.Test.YtnkoikhmnbjfmaaDoorCards
import Derived.Test.YtnkoikhmnbjfmaaDoorTie
import Derived.WalkKit
import Derived.ProofKit
import Derived.OpenShut
import Derived.Deep.DeepHandedRow
import Derived.Lib.LaidTab
import Derived.JoinedOf
import Derived.JoinedAt
import Derived.RowKit3
import Derived.Lib.SmallJoins
namespace Go.Proofs.YtnkoikhmnbjfmaaDoor
open Go.RowKit

def cellsAre (k : IntKind) (l : List Nat) : Obj → Obj
  | .cells _ t f => .cells (l.map fun (n : Nat) => Value.int k (n : Int)).toArray t f
  | o => o
noncomputable def laying (W : World) : World :=
  { W with heap := (W.heap.modify 1 (cellsAre .u8 Go.Pinned.utf8FirstZ)).modify 2 (cellsAre .u8 [128, 191, 160, 191, 128, 159, 144, 191, 128, 143, 0, 0, 0, 0, 0, 0, 0, 0, 0, 0, 0, 0, 0, 0, 0, 0, 0, 0, 0, 0, 0, 0])
   |>.modify 3 (cellsAre .u64 [1, 10, 100, 1000, 10000, 100000, 1000000, 10000000, 100000000, 1000000000, 10000000000, 100000000000, 1000000000000, 10000000000000, 100000000000000, 1000000000000000, 10000000000000000, 100000000000000000, 1000000000000000000, 10000000000000000000])
   |>.modify 4 (cellsAre .u8 [0, 1, 28, 2, 29, 14, 24, 3, 30, 22, 20, 15, 25, 17, 4, 8, 31, 27, 13, 23, 21, 19, 16, 7, 26, 12, 18, 6, 11, 5, 10, 9])
   |>.modify 5 (cellsAre .u8 [0, 1, 56, 2, 57, 49, 28, 3, 61, 58, 42, 50, 38, 29, 17, 4, 62, 47, 59, 36, 45, 43, 51, 22, 53, 39, 33, 30, 24, 18, 12, 5, 63, 55, 48, 27, 60, 41, 37, 16, 46, 35, 44, 21, 52, 32, 23, 11, 54, 26, 40, 15, 34, 20, 31, 10, 25, 14, 19, 9, 13, 8, 7, 6])
  }
end Go.Proofs.YtnkoikhmnbjfmaaDoor
