/- Rows of queues that lie at the head of a block, as they are read. -/
import Derived.Test.YtigfoghkndoakaaDoorRuleQ
import Derived.Test.YtigfoghkndoakaaDoorRdK
namespace Go.Proofs.YtigfoghkndoakaaDoor
open Go.RowKit

/-- The k-th queue of a row at block g. -/
structure QCell (w : World) (g k : Nat) (q : QD) : Prop where
  ex : ∃ (P : ByteArray) (A : Option Addr) (c : Nat), w.cell? ⟨g, k * 3, none⟩ = some (.string P) ∧ w.cell? ⟨g, k * 3 + 1, none⟩ = some (.slice A q.caps.length c) ∧ w.cell? ⟨g, k * 3 + 2, none⟩ = some (.int .i64 q.user) ∧ P.data.toList = q.path ∧ RdK 2 w (.slice A q.caps.length c) q.caps.length (capCells q.caps)
theorem QCell.ext {w w' : World} {g k : Nat} {q : QD} (h : QCell w g k q) (x : Ext w w') : QCell w' g k q := by
  obtain ⟨P, A, c, h1, h2, h3, h4, h5⟩ := h.ex
  exact ⟨P, A, c, x.cell h1, x.cell h2, x.cell h3, h4, h5.ext x⟩
def QAt (w : World) (v : Value) (ds : List QD) : Prop := ∃ A c, v = .slice A ds.length c ∧ ds.length ≤ c ∧ c ≤ maxLen ∧ (0 < ds.length → ∃ g, A = some ⟨g, 0, none⟩ ∧ g < w.heap.size ∧ ∀ k (h : k < ds.length), QCell w g k ds[k])
theorem QAt.ext {w w' : World} {v : Value} {ds : List QD} (h : QAt w v ds) (x : Ext w w') : QAt w' v ds := by
  obtain ⟨A, c, rfl, h1, h2, h3⟩ := h
  refine ⟨A, c, rfl, h1, h2, fun hn => ?_⟩
  obtain ⟨g, rfl, hg, hc⟩ := h3 hn
  exact ⟨g, rfl, Nat.lt_of_lt_of_le hg x.size, fun k hk => (hc k hk).ext x⟩
/-- Opened, its length under a name of its own. -/
theorem QAt.open {w : World} {v : Value} {ds : List QD} (h : QAt w v ds) : ∃ A N c, v = .slice A N c ∧ N = ds.length ∧ N ≤ c ∧ c ≤ 9223372036854775807 ∧ (0 < N → ∃ g, A = some ⟨g, 0, none⟩ ∧ g < w.heap.size ∧ ∀ k (h : k < ds.length), QCell w g k ds[k]) := by
  obtain ⟨A, c, rfl, h1, h2, h3⟩ := h
  unfold maxLen at h2
  exact ⟨A, _, c, rfl, rfl, h1, by omega, h3⟩
end Go.Proofs.YtigfoghkndoakaaDoor
