/- Rows at the heads of blocks. -/
import Derived.Test.YtffioglbgnbieaaRdG
namespace Go.Proofs.Ytffioglbgnbieaa
open Go.RowKit

theorem flat_get {α : Type} (f : α → List Value) (n : Nat) (hn : ∀ a, (f a).length = n) : ∀ (l : List α) (k j : Nat) (hk : k < l.length), j < n → (l.flatMap f)[k * n + j]? = (f l[k])[j]?
  | [], k, j, hk, _ => by simp at hk
  | x :: l, 0, j, _, hj => by
    rw [List.flatMap_cons, Nat.zero_mul, Nat.zero_add, List.getElem?_append_left (by rw [hn]; exact hj)]
    rfl
  | x :: l, k + 1, j, hk, hj => by
    have ih := flat_get f n hn l k j (by simpa using hk) hj
    rw [List.flatMap_cons, List.getElem?_append_right (by rw [hn, Nat.succ_mul]; omega), hn, Nat.succ_mul]
    rw [show k * n + n + j - n = k * n + j by omega, ih]
    rfl
theorem flat_len {α : Type} (f : α → List Value) (n : Nat) (hn : ∀ a, (f a).length = n) : ∀ (l : List α), (l.flatMap f).length = l.length * n
  | [] => by simp
  | x :: l => by rw [List.flatMap_cons, List.length_append, flat_len f n hn l, hn, List.length_cons, Nat.succ_mul]; omega

/-- v reads as n elements at the head of a block, with cells xs. -/
def Hd (w : World) (v : Value) (n : Nat) (xs : List Value) : Prop := ∃ A c, v = .slice A n c ∧ n ≤ c ∧ c ≤ maxLen ∧ (0 < n → ∃ g, A = some ⟨g, 0, none⟩ ∧ g < w.heap.size ∧ ∀ j u, xs[j]? = some u → w.cell? ⟨g, j, none⟩ = some u)
theorem Hd.ext {w w' : World} {v : Value} {n : Nat} {xs : List Value} (h : Hd w v n xs) (x : Ext w w') : Hd w' v n xs := by
  obtain ⟨A, c, rfl, h1, h2, h3⟩ := h
  refine ⟨A, c, rfl, h1, h2, fun hn => ?_⟩
  obtain ⟨g, rfl, hg, hc⟩ := h3 hn
  exact ⟨g, rfl, Nat.lt_of_lt_of_le hg x.size, fun j u hu => x.cell (hc j u hu)⟩
theorem Hd.nil (w : World) : Hd w (.slice none 0 0) 0 [] := ⟨none, 0, rfl, Nat.le_refl _, by simp [maxLen], fun h => by omega⟩
theorem Hd.of_own {k : Nat} {w : World} {base : Nat} {e : TypeId} {v : Value} {n : Nat} {xs : List Value} (h : w.ownsRow base e k v n xs) : Hd w v n xs := by
  have hl := h.1
  rcases id h.2 with ⟨rfl, h0⟩ | ⟨g, cap, cur, rfl, hb, hg, hc, hm, _⟩
  · exact ⟨none, 0, by rw [h0], by omega, by simp [maxLen], fun hn => by omega⟩
  · refine ⟨_, cap, rfl, hc, hm, fun _ => ⟨g, rfl, (Array.getElem?_eq_some_iff.1 hg).1, fun j u hu => ?_⟩⟩
    rw [h.cellAt (g := g) j (by have := (List.getElem?_eq_some_iff.1 hu).1; omega), hu]
end Go.Proofs.Ytffioglbgnbieaa
