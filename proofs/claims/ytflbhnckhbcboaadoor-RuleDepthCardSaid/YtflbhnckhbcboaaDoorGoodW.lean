/- dispatchlaw6.pick; the world in which Good begins to lay queues. -/
import Derived.Test.YtflbhnckhbcboaaDoorIndex
import Derived.Test.YtflbhnckhbcboaaDoorOwnC
import Derived.Test.YtflbhnckhbcboaaDoorGoodP
namespace Go.Proofs.YtflbhnckhbcboaaDoor
open Go.RowKit

theorem blk_cell {w : World} {b : Nat} {cs : Array Value} {t : TypeId} (h : w.heap[b]? = some (.cells cs t (0, 0))) (j : Nat) (v : Value) (hv : cs[j]? = some v) : w.cell? ⟨b, j, none⟩ = some v := by
  rw [cell_of_row w b j cs t (0, 0) h, hv]
theorem blk_free {w : World} {b : Nat} {cs : Array Value} {t : TypeId} (h : w.heap[b]? = some (.cells cs t (0, 0))) (j : Nat) : w.frozen? ⟨b, j, none⟩ = false := by
  simp [World.frozen?, h]

/-- The world in which the queues begin. -/
noncomputable def goodW (w : World) : World := ((((((((w.alloc (Obj.cells #[Value.slice none 0 0, Value.slice none 0 0] 27)).alloc (Obj.cells #[Value.string { data := #[114, 111, 111, 116] }] 9)).alloc (Obj.cells #[Value.string { data := #[114, 111, 111, 116] }, Value.string { data := #[114, 111, 111, 116, 46, 97] }, Value.string { data := #[114, 111, 111, 116, 46, 98] }] 9)).alloc (Obj.cells #[Value.string { data := #[114, 111, 111, 116] }, Value.string { data := #[114, 111, 111, 116, 46, 97] }, Value.string { data := #[114, 111, 111, 116, 46, 97, 46, 120] }, Value.string { data := #[114, 111, 111, 116, 46, 97, 46, 121] }, Value.string { data := #[114, 111, 111, 116, 46, 98] }] 9)).alloc (Obj.cells #[Value.string { data := #[114, 111, 111, 116] }, Value.string { data := #[114, 111, 111, 116, 46, 97] }, Value.string { data := #[114, 111, 111, 116, 46, 98] }, Value.string { data := #[114, 111, 111, 116, 46, 98, 46, 120] }, Value.string { data := #[114, 111, 111, 116, 46, 98, 46, 120, 46, 112] }, Value.string { data := #[114, 111, 111, 116, 46, 98, 46, 120, 46, 113] }, Value.string { data := #[114, 111, 111, 116, 46, 99] }] 9)).alloc (Obj.cells #[Value.string { data := #[114, 111, 111, 116] }, Value.string { data := #[114, 111, 111, 116, 46, 97] }] 9)).alloc (Obj.cells #[Value.slice (some { block := w.heap.size + 1, off := 0 }) 1 1, Value.slice (some { block := w.heap.size + 1 + 1, off := 0 }) 3 3, Value.slice (some { block := w.heap.size + 1 + 1 + 1, off := 0 }) 5 5, Value.slice (some { block := w.heap.size + 1 + 1 + 1 + 1, off := 0 }) 7 7, Value.slice (some { block := w.heap.size + 1 + 1 + 1 + 1 + 1, off := 0 }) 2 2] 24)).alloc (Obj.cells #[Value.string { data := #[] }, Value.string { data := #[103, 112, 117] }] 9))

theorem goodW_ext (w : World) : Ext w (goodW w) := (((((((ext_alloc w _).trans (ext_alloc _ _)).trans (ext_alloc _ _)).trans (ext_alloc _ _)).trans (ext_alloc _ _)).trans (ext_alloc _ _)).trans (ext_alloc _ _)).trans (ext_alloc _ _)
theorem goodW_size (w : World) : (goodW w).heap.size = w.heap.size + 8 := by simp [goodW]
theorem goodW_res (w : World) : (goodW w).heap[w.heap.size]? = some (.cells #[.slice none 0 0, .slice none 0 0] 27 (0, 0)) := by
  have h := heap_alloc_new w (.cells #[.slice none 0 0, .slice none 0 0] 27 (0, 0))
  have x : Ext (w.alloc (.cells #[.slice none 0 0, .slice none 0 0] 27 (0, 0))) (goodW w) := ((((((ext_alloc _ _).trans (ext_alloc _ _)).trans (ext_alloc _ _)).trans (ext_alloc _ _)).trans (ext_alloc _ _)).trans (ext_alloc _ _)).trans (ext_alloc _ _)
  exact (x.block _ (Array.getElem?_eq_some_iff.1 h).1).trans h
theorem goodW_labs (w : World) : (goodW w).heap[w.heap.size + 1 + 1 + 1 + 1 + 1 + 1 + 1]? = some (.cells #[.string ⟨#[]⟩, .string ⟨#[103, 112, 117]⟩] 9 (0, 0)) := by
  have e : ∀ (W1 : World) (o : Obj) (n : Nat), W1.heap.size = n → (W1.alloc o).heap[n]? = some o := by intro W1 o n h; subst h; exact heap_alloc_new W1 o
  unfold goodW
  exact e _ _ _ (by simp)
theorem goodW_tree (w : World) (y : Nat) (hy : y < 5) : (goodW w).cell? ⟨w.heap.size + 1 + 1 + 1 + 1 + 1 + 1, y, none⟩ = some (.slice (some ⟨w.heap.size + 1 + y, 0, none⟩) (tree y).length (tree y).length) := by
  unfold goodW
  rcases y with _ | _ | _ | _ | _ | y
  all_goals first | omega | (simp [go_sem, tree, Nat.add_assoc])
theorem goodW_path (w : World) (y : Nat) (hy : y < 5) (i : Nat) (hi : i < (tree y).length) : (goodW w).cell? ⟨w.heap.size + 1 + y, i, none⟩ = some (.string ⟨((tree y)[i]).toArray⟩) := by
  unfold goodW
  rcases y with _ | _ | _ | _ | _ | y
  all_goals first | omega | skip
  all_goals (rcases i with _ | _ | _ | _ | _ | _ | _ | i)
  all_goals first | (exfalso; simp [tree] at hi; done) | (exfalso; simp [tree] at hi; omega) | (simp [go_sem, tree, Nat.add_assoc])

theorem pick_any (v : Value) (xs : List Int) (i : Int) (w : World) (r0 : Rd w v (xs.map (Value.int .i64))) (hn : xs.length ≤ 1000000) (h0 : 0 ≤ i) (h1 : i ≤ 1000000) :
    Calls Tryd.prog 25 #[v, .int .i64 i] w fun e w' => (∃ a : Int, e = .returned (.int .i64 a)) ∧ w = w' := by
  obtain ⟨A, N, c, rfl, hN, hc1, hc2, hcell⟩ := ints_open r0
  have HC := Lib.hid hcell
  have HN := Lib.hid hN
  have hN1 : N ≤ 1000000 := by omega
  clear hcell hN r0
  by_cases hz : N = 0
  · subst hz
    go_enter Tryd.func25, Tryd.ntmps25
    go_wp2
    go_ret
    exact ⟨⟨_, rfl⟩, rfl⟩
  · have q0 : ((N : Int) == 0) = false := by simp; omega
    obtain ⟨m, hm⟩ : ∃ m : Nat, i % (N : Int) = (m : Int) := ⟨(i % (N : Int)).toNat, by have := Int.emod_nonneg i (show (N : Int) ≠ 0 by omega); omega⟩
    have hmN : m < N := by have := Int.emod_lt_of_pos i (show (0 : Int) < N by omega); omega
    obtain ⟨a, rfl, hb, hcs⟩ := HC.out (by omega)
    have h3 := hcs m (by have := HN.out; omega)
    have n1 : (1 : Int) ≤ (N : Int) := by omega
    have m0 : (0 : Int) ≤ (m : Int) := by omega
    have m1 : (m : Int) < (N : Int) := by omega
    generalize xs[m]'(by have := HN.out; omega) = x at h3
    clear hcs
    go_enter Tryd.func25, Tryd.ntmps25
    go_wp2
    go_ret
    exact ⟨⟨_, rfl⟩, rfl⟩
end Go.Proofs.YtflbhnckhbcboaaDoor
