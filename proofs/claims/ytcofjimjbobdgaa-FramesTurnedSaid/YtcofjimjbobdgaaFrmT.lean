/- Rows that came in; appends in regions that draw their order: what lies below B stays. -/
import Derived.Test.YtcofjimjbobdgaaFrmH
import Derived.Test.YtcofjimjbobdgaaSched
namespace Go.Proofs.Ytcofjimjbobdgaa
open Go.RowKit

theorem rows_of {w : World} : ∀ (rows : List Value), (∀ u ∈ rows, ∃ l : List UInt8, Rd w u (bvs l)) →
    ∃ ls : List (List UInt8), rows.length = ls.length ∧ ∀ k (h : k < ls.length), ∃ u, rows[k]? = some u ∧ Rd w u (bvs ls[k])
  | [], _ => ⟨[], rfl, fun k h => absurd h (by simp)⟩
  | u :: rows, h => by
    obtain ⟨ls, h1, h2⟩ := rows_of rows (fun x hx => h x (List.mem_cons_of_mem _ hx))
    obtain ⟨l, hl⟩ := h u List.mem_cons_self
    refine ⟨l :: ls, by simp [h1], fun k hk => ?_⟩
    cases k with
    | zero => exact ⟨u, rfl, hl⟩
    | succ k => exact h2 k (by simpa using hk)
theorem rdR_of {w : World} {v : Value} {rows : List Value} (hr : Rd w v rows) (h : ∀ u ∈ rows, ∃ l : List UInt8, Rd w u (bvs l)) : ∃ ls, RdR w v ls := by
  obtain ⟨ls, h1, h2⟩ := rows_of rows h
  exact ⟨ls, rows, hr, h1, h2⟩

/-- What lies below B stays. -/
def LB (B : Nat) (a b : World) : Prop := B ≤ a.heap.size → Below B a b
theorem LB_way (B : Nat) : Way (LB B) := ⟨fun h hB => Below.mono h hB, fun h k hB => (h hB).trans (k (Nat.le_trans hB (h hB).size))⟩
theorem LB.ext {B : Nat} {a b : World} (h : Ext a b) : LB B a b := fun hB => Below.mono h hB
theorem LB.grown {B : Nat} {a b : World} {r : Option Nat} (h : a.grownBy b r) (hr : ∀ k, r = some k → B ≤ k) : LB B a b := fun hB => grown_below h hB hr
/-- From the start's world: new blocks alone. -/
theorem LB.from {w a b : World} (h : Ext w a) (k : LB w.heap.size a b) : Ext w b := h.trans' (k h.size)

end Go.Proofs.Ytcofjimjbobdgaa
