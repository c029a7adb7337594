/- Worlds with blocks more: plain facts. -/
import Derived.Test.YtffioglbgnbieaaModG
import Derived.Test.YtffioglbgnbieaaSub
import Derived.Test.YtffioglbgnbieaaOpenR
import Derived.ProofKit
import Derived.Lib.Hide
import Derived.IntWalk
import Derived.Outline
import Derived.Deep.QuietTactic
import Derived.BigQuiet
import Derived.WalkSmall
namespace Go.Proofs.Ytffioglbgnbieaa
open Go.RowKit

theorem ext_alloc (w : World) (o : Obj) : Ext w (w.alloc o) := (Below.refl _ _).alloc (Nat.le_refl _) o
theorem ext_drewN (w : World) (n : Nat) : Ext w (w.drewN n) := ⟨rfl, rfl, rfl, Nat.le_refl _, fun _ _ => rfl⟩

theorem ext_set {w w' : World} {b o : Nat} (h : Ext w w') (hb : w.heap.size ≤ b) (v : Value) : Ext w (w'.setCell ⟨b, o, none⟩ v) := Below.setCell h (p := ⟨b, o, none⟩) hb v
end Go.Proofs.Ytffioglbgnbieaa
