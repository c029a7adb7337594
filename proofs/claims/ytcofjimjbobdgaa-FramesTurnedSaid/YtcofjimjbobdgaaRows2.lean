/- A slice of slices of bytes, as a list of lists. -/
import Derived.Test.YtcofjimjbobdgaaSub
import Derived.Test.YtcofjimjbobdgaaOpenR
namespace Go.Proofs.Ytcofjimjbobdgaa
open Go.RowKit

/-- In world w the value v reads as these rows of bytes. -/
def RdR (w : World) (v : Value) (ls : List (List UInt8)) : Prop :=
  ∃ xs : List Value, Rd w v xs ∧ xs.length = ls.length ∧ ∀ k (h : k < ls.length), ∃ u, xs[k]? = some u ∧ Rd w u (bvs ls[k])
theorem RdR.ext {w w' : World} {v : Value} {ls : List (List UInt8)} (h : RdR w v ls) (k : Ext w w') : RdR w' v ls := by
  obtain ⟨xs, h1, h2, h3⟩ := h
  exact ⟨xs, h1.ext k, h2, fun i hi => by obtain ⟨u, h4, h5⟩ := h3 i hi; exact ⟨u, h4, h5.ext k⟩⟩
theorem RdR.nil (w : World) : RdR w (.slice none 0 0) [] := ⟨[], Rd.nil w, rfl, fun k h => absurd h (by simp)⟩
/-- Its length under a name of its own; each row's cell. -/
theorem RdR.open {w : World} {v : Value} {ls : List (List UInt8)} (h : RdR w v ls) : ∃ A N c, v = .slice A N c ∧ N = ls.length ∧ N ≤ c ∧ c ≤ 9223372036854775807 ∧
    (0 < N → ∃ a, A = some a ∧ a.block < w.heap.size ∧ ∀ k (hk : k < ls.length), ∃ u, w.cell? (a.add k) = some u ∧ Rd w u (bvs ls[k])) := by
  obtain ⟨xs, ⟨A, c, rfl, h1, h2, h3⟩, hl, hx⟩ := h
  unfold maxLen at h2
  refine ⟨A, _, c, rfl, hl, h1, by omega, fun hn => ?_⟩
  obtain ⟨a, rfl, hb, hc⟩ := h3 hn
  refine ⟨a, rfl, hb, fun k hk => ?_⟩
  obtain ⟨u, h4, h5⟩ := hx k hk
  exact ⟨u, hc k u h4, h5⟩

/-- Rows that the call has laid itself: the outer row from block B on; no row lies in it. -/
def RowsAt (w : World) (B : Nat) (v : Value) (ls : List (List UInt8)) : Prop :=
  ∃ xs : List Value, w.ownsRow B 22 1 v ls.length xs ∧ xs.length = ls.length ∧ ∀ k (h : k < ls.length), ∃ u, xs[k]? = some u ∧ Rd w u (bvs ls[k]) ∧ (∀ g, u.ownBlock = some g → v.ownBlock ≠ some g ∧ g < w.heap.size)
theorem RowsAt.rd {w : World} {B : Nat} {v : Value} {ls : List (List UInt8)} (h : RowsAt w B v ls) : RdR w v ls := by
  obtain ⟨xs, h1, h2, h3⟩ := h
  exact ⟨xs, Rd.of_own h1, h2, fun k hk => by obtain ⟨u, h4, h5, _⟩ := h3 k hk; exact ⟨u, h4, h5⟩⟩
theorem RowsAt.nil (w : World) (B : Nat) : RowsAt w B (.slice none 0 0) [] := ⟨[], World.ownsRow_nil w _ _ 1, rfl, fun k h => absurd h (by simp)⟩
theorem RowsAt.ext {w w' : World} {B : Nat} {v : Value} {ls : List (List UInt8)} (h : RowsAt w B v ls) (k : Ext w w') : RowsAt w' B v ls := by
  obtain ⟨xs, h1, h2, h3⟩ := h
  exact ⟨xs, own_Ext h1 k, h2, fun i hi => by obtain ⟨u, h4, h5, h6⟩ := h3 i hi; exact ⟨u, h4, h5.ext k, fun g hg => ⟨(h6 g hg).1, Nat.lt_of_lt_of_le (h6 g hg).2 k.size⟩⟩⟩
/-- One row more, which lies elsewhere. -/
theorem RowsAt.snoc {w w' : World} {B : Nat} {v v' u : Value} {ls : List (List UInt8)} {l : List UInt8} {xs : List Value} (h1 : w.ownsRow B 22 1 v ls.length xs) (h2 : xs.length = ls.length)
    (h3 : ∀ k (h : k < ls.length), ∃ u, xs[k]? = some u ∧ Rd w u (bvs ls[k]) ∧ (∀ g, u.ownBlock = some g → v.ownBlock ≠ some g ∧ g < w.heap.size))
    (hu : Rd w u (bvs l)) (hb : ∀ g, u.ownBlock = some g → v.ownBlock ≠ some g ∧ g < w.heap.size)
    (hown : w'.ownsRow B 22 1 v' (ls.length + 1) (xs ++ [u])) (hg : w.grownBy w' v.ownBlock) (hat : v'.ownBlock = v.ownBlock ∨ ∀ k, v'.ownBlock = some k → w.heap.size ≤ k) : RowsAt w' B v' (ls ++ [l]) := by
  have keep : ∀ u : Value, (∀ g, u.ownBlock = some g → v.ownBlock ≠ some g ∧ g < w.heap.size) → ∀ g, u.ownBlock = some g → v'.ownBlock ≠ some g ∧ g < w'.heap.size := by
    intro u hu g hg'
    have h := hu g hg'
    refine ⟨?_, Nat.lt_of_lt_of_le h.2 hg.size⟩
    rcases hat with e | e
    · rw [e]; exact h.1
    · intro e'; have := e g e'; omega
  refine ⟨xs ++ [u], by simpa using hown, by simp [h2], fun k hk => ?_⟩
  rw [List.length_append, List.length_singleton] at hk
  by_cases hlt : k < ls.length
  · obtain ⟨u', h4, h5, h6⟩ := h3 k hlt
    refine ⟨u', by rw [List.getElem?_append_left (by omega)]; exact h4, ?_, keep u' h6⟩
    rw [List.getElem_append_left hlt]
    exact h5.grown hg (fun g e e' => (h6 g e').1 e)
  · obtain rfl : k = ls.length := by omega
    refine ⟨u, by rw [List.getElem?_append_right (by omega), h2]; simp, ?_, keep u hb⟩
    rw [List.getElem_append_right (by omega)]
    simp only [Nat.sub_self, List.getElem_cons_zero]
    exact hu.grown hg (fun g e e' => (hb g e').1 e)

end Go.Proofs.Ytcofjimjbobdgaa
