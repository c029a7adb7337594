/- A cell of one's own row is set. -/
import Derived.Test.YtcofjimjbobdgaaFrmT
import Derived.Test.YtcofjimjbobdgaaOwnL
namespace Go.Proofs.Ytcofjimjbobdgaa
open Go.RowKit

theorem own_set {w : World} {base : Nat} {e : TypeId} {n cap g : Nat} {xs : List Value} (h : w.ownsRow base e 1 (.slice (some ⟨g, 0, none⟩) n cap) n xs) (k : Nat) (u : Value) :
    (w.setCell ⟨g, k, none⟩ u).ownsRow base e 1 (.slice (some ⟨g, 0, none⟩) n cap) n (xs.set k u) := by
  refine ⟨by rw [List.length_set]; exact h.1, ?_⟩
  rcases h.2 with ⟨h0, _⟩ | ⟨g', cap', cur, h0, hb, hg, hn, hm, hc, ht⟩
  · cases h0
  · injection h0 with e1 _ e3
    injection e1 with e1
    injection e1 with e1
    subst e1 e3
    refine .inr ⟨g, cap, cur.setIfInBounds k u, rfl, hb, ?_, hn, hm, by simpa using hc, ?_⟩
    · simp [World.setCell, Array.getElem?_modify, hg]
    · rw [Array.toList_setIfInBounds, ← ht]
      simp [List.take_set]
theorem own_free {w : World} {base : Nat} {e : TypeId} {n cap g : Nat} {xs : List Value} (h : w.ownsRow base e 1 (.slice (some ⟨g, 0, none⟩) n cap) n xs) (k : Nat) : w.frozen? ⟨g, k, none⟩ = false := by
  rcases h.2 with ⟨h0, _⟩ | ⟨g', cap', cur, h0, hb, hg, _⟩
  · cases h0
  · injection h0 with e1 _ e3
    injection e1 with e1
    injection e1 with e1
    subst e1
    simp [World.frozen?, hg]
theorem own_cell {w : World} {base n cap g : Nat} {l : List UInt8} (h : w.ownsRow base 5 1 (.slice (some ⟨g, 0, none⟩) n cap) n (bvs l)) (k : Nat) (hk : k < l.length) : w.cell? ⟨g, k, none⟩ = some (.int .u8 (l[k].toNat : Int)) := by
  have := h.cells (g := g) rfl k (bv l[k]) (by simp [bvs, hk])
  rwa [show (⟨g, 0, none⟩ : Addr).add k = ⟨g, k, none⟩ from by unfold Addr.add; split <;> simp_all] at this
theorem bvs_set (l : List UInt8) (k : Nat) (y : UInt8) : (bvs l).set k (bv y) = bvs (l.set k y) := by simp [bvs, List.map_set]
theorem LB.set {w : World} {B g k : Nat} {u : Value} (hg : B ≤ g) : LB B w (w.setCell ⟨g, k, none⟩ u) := fun _ => (Below.refl _ _).setCell hg _
theorem byte_sum (a b : UInt8) : (((a.toNat : Int) + (b.toNat : Int)) % 256) = ((a + b).toNat : Int) := by
  rw [UInt8.toNat_add]; omega

end Go.Proofs.Ytcofjimjbobdgaa
