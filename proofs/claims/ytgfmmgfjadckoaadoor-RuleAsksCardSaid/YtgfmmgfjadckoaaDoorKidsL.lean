/- The shapes' kids, and what is above them: plain facts. -/
import Derived.Test.YtgfmmgfjadckoaaDoorGoodP
import Derived.Test.YtgfmmgfjadckoaaDoorOrd5
namespace Go.Proofs.YtgfmmgfjadckoaaDoor

theorem tree_sorted (y : Nat) : (tree y).Pairwise fun a b => lt8 a b = true := by
  unfold tree
  split <;> decide
theorem kidsT_sorted (y : Nat) (p : Tx) : (kidsT p (tree y)).Pairwise fun a b => lt8 a b = true := (tree_sorted y).sublist List.filter_sublist
theorem kidsT_up {p x : Tx} {ps : List Tx} (h : x ∈ kidsT p ps) : ∃ r, ups x = x :: p :: r := by
  have := (List.mem_filter.1 h).2
  simp at this
  have hx : x ≠ [] := by
    intro e
    rw [e] at this
    exact this.1 this.2.symm
  refine ⟨ups (above p), ?_⟩
  rw [ups_cons hx, this.2, ups_cons this.1]
def kcount (ps : List Tx) (i : Nat) : Nat := ((ps.take i).map fun p => (kidsT p ps).length).sum
theorem kcount_zero (ps : List Tx) : kcount ps 0 = 0 := rfl
theorem kcount_succ (ps : List Tx) (i : Nat) (h : i < ps.length) : kcount ps (i + 1) = kcount ps i + (kidsT ps[i] ps).length := by
  unfold kcount
  rw [List.take_succ_eq_append_getElem h, List.map_append, List.sum_append]
  simp
theorem kcount_all (y : Nat) : kcount (tree y) (tree y).length + 1 = (tree y).length := by
  unfold tree
  split <;> decide
theorem kcount_le (y i : Nat) : kcount (tree y) i ≤ 49 := by
  have h : ∀ (ps : List Tx) (i : Nat), kcount ps i ≤ ps.length * ps.length := by
    intro ps i
    unfold kcount
    have : ∀ l : List Tx, (l.map fun p => (kidsT p ps).length).sum ≤ l.length * ps.length := by
      intro l
      induction l with
      | nil => simp
      | cons a l ih =>
        have h1 : (kidsT a ps).length ≤ ps.length := List.length_filter_le _ _
        simp only [List.map_cons, List.sum_cons, List.length_cons, Nat.add_mul]
        omega
    refine Nat.le_trans (this _) (Nat.mul_le_mul_right _ ?_)
    rw [List.length_take]
    exact Nat.min_le_right _ _
  refine Nat.le_trans (h _ _) ?_
  have := tree_len y
  exact Nat.le_trans (Nat.mul_le_mul this this) (by omega)
def nobody : Tx := [110, 111, 98, 111, 100, 121]
theorem tree_nobody (y : Nat) : nobody ∉ tree y := by
  unfold tree
  split <;> decide
theorem tree_ne (y : Nat) : ∀ p ∈ tree y, p ≠ [] := by
  unfold tree
  split <;> decide
theorem tree_pos (y : Nat) : 0 < (tree y).length := by
  unfold tree
  split <;> decide
/-- What the ups of a shape's paths are. -/
theorem tree_ups (y : Nat) : ∀ p ∈ tree y, (ups p).getLast? = some sRoot ∧ ∀ x ∈ (ups p).drop 1, x ∈ tree y ∧ kidsT x (tree y) ≠ [] := by
  unfold tree
  split <;> decide
end Go.Proofs.YtgfmmgfjadckoaaDoor
