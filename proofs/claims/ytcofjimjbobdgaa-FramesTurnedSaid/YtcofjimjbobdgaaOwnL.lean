/- Blocks of the call's own that are read later, as one list: kept through every call that lays at most new blocks. -/
import Derived.Test.YtcofjimjbobdgaaRegJ
namespace Go.Proofs.Ytcofjimjbobdgaa
open Go.RowKit

def cellsL (w : World) (g : Nat) : Nat → List Value → Prop
  | _, [] => True
  | o, v :: vs => w.cell? ⟨g, o, none⟩ = some v ∧ cellsL w g (o + 1) vs

/-- Each block of the list is there, may be written, and holds what the list says. -/
def OwnL (w : World) : List (Nat × List Value) → Prop
  | [] => True
  | (g, vs) :: l => (g < w.heap.size ∧ (∀ o, w.frozen? ⟨g, o, none⟩ = false) ∧ cellsL w g 0 vs) ∧ OwnL w l

theorem cellsL.ext {w w' : World} (h : Ext w w') {g : Nat} : ∀ {vs : List Value} {o : Nat}, cellsL w g o vs → cellsL w' g o vs
  | [], _, _ => trivial
  | _ :: _, _, ⟨h1, h2⟩ => ⟨h.cell h1, cellsL.ext h h2⟩

theorem OwnL.ext {w w' : World} (h : Ext w w') : ∀ {l : List (Nat × List Value)}, OwnL w l → OwnL w' l
  | [], _ => trivial
  | (_, _) :: _, ⟨⟨h1, h2, h3⟩, h4⟩ => ⟨⟨Nat.lt_of_lt_of_le h1 h.size, fun o => h.free h1 (h2 o), h3.ext h⟩, h4.ext h⟩

/-- The world at hand of a call, under a name of its own. -/
theorem at_calls {P : Program} {f : FuncId} {args : Array Value} {w : World} {R : Ending → World → Prop} (h : ∀ W0, W0 = w → Calls P f args W0 R) : Calls P f args w R := h w rfl

end Go.Proofs.Ytcofjimjbobdgaa
