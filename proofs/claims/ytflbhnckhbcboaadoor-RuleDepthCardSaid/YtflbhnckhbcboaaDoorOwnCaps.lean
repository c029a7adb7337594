/- Queues of the call's own: their parts lie at the heads of blocks. -/
import Derived.Test.YtflbhnckhbcboaaDoorQueues
import Derived.Test.YtflbhnckhbcboaaDoorOwnC
namespace Go.Proofs.YtflbhnckhbcboaaDoor
open Go.RowKit

theorem capsV_of_own {w : World} {B n : Nat} {A : Option Addr} {c : Nat} {cs : List (Int × Int)} (hn : n = cs.length) (h : w.ownsRow B 29 2 (.slice A n c) n (capCells cs)) : CapsV w (.slice A n c) cs := by
  subst hn
  refine ⟨A, c, rfl, fun h0 => ?_⟩
  rcases h.2 with ⟨_, e⟩ | ⟨g, c', cur', ev, _⟩
  · omega
  · injection ev with eA eN eC
    subst eA
    refine ⟨g, rfl, fun k hk => ?_⟩
    obtain ⟨k1, k2⟩ := capCells_get cs k hk
    have c1 := h.cellAt (g := g) (k * 2) (by omega)
    have c2 := h.cellAt (g := g) (k * 2 + 1) (by omega)
    rw [k1] at c1
    rw [k2] at c2
    exact ⟨c1, c2⟩
theorem OwnQs.capsQ {w : World} {B : Nat} {v : Value} {ds : List QD} {qs : List QC} (h : OwnQs w B v ds qs) : CapsQ w v ds := by
  intro g N c e k hk
  have hl := h.len
  obtain ⟨q, hq⟩ : ∃ q, qs[k]? = some q := ⟨qs[k]'(by omega), by rw [List.getElem?_eq_getElem]⟩
  obtain ⟨h1, h2, h3, h4⟩ := h.each k q hk hq
  rcases h.row.2 with ⟨_, h0⟩ | ⟨g', cap, cur, ev, _⟩
  · omega
  have e2 := e.symm.trans ev
  injection e2 with eA eN eC
  injection eA with eA
  injection eA with eG
  subst eG
  have hr := h.row
  rw [ev] at hr
  have c1 := hr.cellAt (k * 3 + 1) (show k * 3 + 1 < ds.length * 3 by omega)
  rw [(qcells_get' qs k q hq).2.1] at c1
  exact ⟨_, c1, capsV_of_own h3 h4⟩
end Go.Proofs.YtflbhnckhbcboaaDoor
