/- dispatchlaw5.ConfRows: the walk. -/
import Derived.Test.YtonbplofbcnijaaDoorKnown5
import Derived.ChangeSlices
import Derived.OpenShut
import Derived.ChangeOld
import Derived.ChangeSame
import Derived.ChangeMaps
import Derived.JoinedOf
import Derived.JoinedAt
import Derived.RowKit3
import Derived.Lib.SmallJoins
namespace Go.Proofs.YtonbplofbcnijaaDoor.ConfRows
open Go.ChangeShapes Go.WideShapes Go.ChangeAt Go.RowKit Go.Joins

def rowsL : List Tx := [
  [108, 97, 98, 101, 108, 115],
  [],
  [113, 117, 101, 117, 101, 32, 114, 111, 111, 116, 32, 49, 32, 49, 47, 49],
  [108, 97, 98, 101, 108, 115, 10, 108, 97, 98, 101, 108, 115],
  [108, 97, 98, 101, 108, 115, 10, 113, 117, 101, 117, 101],
  [108, 97, 98, 101, 108, 115, 10, 113, 117, 101, 117, 101, 32, 114, 111, 111, 116],
  [108, 97, 98, 101, 108, 115, 10, 113, 117, 101, 117, 101, 32, 114, 111, 111, 116, 32, 49],
  [108, 97, 98, 101, 108, 115, 10, 113, 117, 101, 117, 101, 32, 114, 111, 111, 116, 32, 49, 32, 49, 47, 49],
  [108, 97, 98, 101, 108, 115, 10, 113, 117, 101, 117, 101, 32, 114, 111, 111, 116, 32, 49, 32, 49, 47, 49, 32, 49, 47, 49],
  [108, 97, 98, 101, 108, 115, 32, 103, 10, 113, 117, 101, 117, 101, 32, 114, 111, 111, 116, 32, 49, 32, 49, 47, 49],
  [108, 97, 98, 101, 108, 115, 32, 103, 10, 113, 117, 101, 117, 101, 32, 114, 111, 111, 116, 32, 49, 32, 49, 47, 49, 32, 50, 47, 50],
  [108, 97, 98, 101, 108, 115, 10, 113, 117, 101, 117, 101, 32, 114, 111, 111, 116, 32, 48, 49, 32, 49, 47, 49],
  [108, 97, 98, 101, 108, 115, 10, 113, 117, 101, 117, 101, 32, 114, 111, 111, 116, 32, 49, 32, 49],
  [108, 97, 98, 101, 108, 115, 10, 113, 117, 101, 117, 101, 32, 114, 111, 111, 116, 32, 49, 32, 47, 49],
  [108, 97, 98, 101, 108, 115, 10, 113, 117, 101, 117, 101, 32, 114, 111, 111, 116, 32, 49, 32, 49, 47, 49, 47, 49],
  [108, 97, 98, 101, 108, 115, 10, 113, 117, 101, 117, 101, 32, 114, 111, 111, 116, 32, 49, 32, 49, 50, 51, 52, 53, 54, 55, 56, 47, 49],
  [108, 97, 98, 101, 108, 115, 32, 97, 32, 98, 10],
  [108, 97, 98, 101, 108, 115, 32, 97, 32, 98, 32, 99, 10],
  [108, 97, 98, 101, 108, 115, 10, 113, 117, 101, 117, 101, 32, 119, 104, 97, 116, 32, 101, 118, 101, 114, 32, 49, 47, 49],
  [108, 97, 98, 101, 108, 115, 10, 113, 117, 101, 117, 101, 32, 65, 78, 89, 32, 55, 32, 48, 47, 48],
  [108, 97, 98, 101, 108, 115, 10, 113, 117, 101, 117, 101, 32, 114, 111, 111, 116, 32, 49, 32, 45, 49, 47, 49]]
def wantsL : List Int := [0, 6, 6, 6, 6, 6, 6, 0, 6, 6, 0, 6, 6, 6, 6, 6, 0, 4, 6, 0, 6]
theorem right_all : ∀ k, k < 21 → (parseC (rowsL.getD k [])).1 = wantsL.getD k 0 := by decide +kernel
theorem row_at (k : Nat) (h : k < 21) : (rowsL.map sv).toArray[k]? = some (sv (rowsL.getD k [])) := by
  match k, h with
  | 0, _ => rfl
  | 1, _ => rfl
  | 2, _ => rfl
  | 3, _ => rfl
  | 4, _ => rfl
  | 5, _ => rfl
  | 6, _ => rfl
  | 7, _ => rfl
  | 8, _ => rfl
  | 9, _ => rfl
  | 10, _ => rfl
  | 11, _ => rfl
  | 12, _ => rfl
  | 13, _ => rfl
  | 14, _ => rfl
  | 15, _ => rfl
  | 16, _ => rfl
  | 17, _ => rfl
  | 18, _ => rfl
  | 19, _ => rfl
  | 20, _ => rfl
  | n + 21, h => exact absurd h (by omega)
theorem want_at (k : Nat) (h : k < 21) : (wantsL.map (Value.int .i64)).toArray[k]? = some (.int .i64 (wantsL.getD k 0)) := by
  match k, h with
  | 0, _ => rfl
  | 1, _ => rfl
  | 2, _ => rfl
  | 3, _ => rfl
  | 4, _ => rfl
  | 5, _ => rfl
  | 6, _ => rfl
  | 7, _ => rfl
  | 8, _ => rfl
  | 9, _ => rfl
  | 10, _ => rfl
  | 11, _ => rfl
  | 12, _ => rfl
  | 13, _ => rfl
  | 14, _ => rfl
  | 15, _ => rfl
  | 16, _ => rfl
  | 17, _ => rfl
  | 18, _ => rfl
  | 19, _ => rfl
  | 20, _ => rfl
  | n + 21, h => exact absurd h (by omega)

set_option maxRecDepth 100000 in
set_option maxHeartbeats 3200000 in
theorem walk (a : Int) (_ : (Lit.int .i64 a).wf = true) (w : World) :
    Calls Tryd.prog 6 #[.int .i64 a] w fun e w' => e = .returned (.bool true) ∧ Below w.heap.size w w' := by
  go_enter Tryd.func6, Tryd.ntmps6
  go_wp2_with fail
  refine (known_any _).mono ?_
  rintro e w1 ⟨rfl, hx1⟩
  have X1 := Lib.hid hx1
  clear hx1
  go_wp2_with fail
  (with_reducible refine (within_some a 21 21 _ rfl (by omega)).mono ?_)
  rintro e w2 ⟨k, rfl, hk, hw2⟩
  have hx2 : Ext w1 w2 := by rw [← hw2]; exact (ext_alloc _ _).trans (ext_alloc _ _)
  have h1 : w2.heap[w1.heap.size]? = some (.cells (rowsL.map sv).toArray 9 (0, 0)) := by
    rw [← hw2, (ext_alloc _ _).block _ (by simp), World.alloc_heap_new]; rfl
  have h2 : w2.heap[w1.heap.size + 1]? = some (.cells (wantsL.map (Value.int .i64)).toArray 36 (0, 0)) := by
    rw [← hw2]
    have := World.alloc_heap_new (w1.alloc (.cells (rowsL.map sv).toArray 9)) (.cells (wantsL.map (Value.int .i64)).toArray 36)
    rw [World.size_alloc] at this
    exact this
  have c1 := (cell_of_row w2 w1.heap.size k _ _ _ h1).trans (row_at k hk)
  have c2 := (cell_of_row w2 (w1.heap.size + 1) k _ _ _ h2).trans (want_at k hk)
  have hr := right_all k hk
  have hz := (Array.getElem?_eq_some_iff.1 h2).1
  have i0 : (0 : Int) ≤ (k : Int) := by omega
  have i1 : (k : Int) < 21 := by omega
  have X2 := Lib.hid (X1.out.trans hx2)
  generalize rowsL.getD k [] = l at c1 hr
  generalize wantsL.getD k 0 = wt at c2 hr
  unfold sv at c1
  obtain ⟨S, hS⟩ : ∃ S : ByteArray, S = ⟨l.toArray⟩ := ⟨_, rfl⟩
  rw [← hS] at c1
  have HSL := Lib.hid (show S.data.toList = l by rw [hS])
  have HR := Lib.hid hr
  clear hw2 h1 h2 hx2 hS hr
  go_wp2_with fail
  (with_reducible refine (parse_any S _).mono ?_)
  unfold ParsePost
  rw [HSL.out, HR.out]
  rintro e w3 ⟨v, rfl, hv, hx3⟩
  obtain ⟨A, c, A', c', rfl, _⟩ := hv.shape
  have c2 := hx3.cell c2
  have hz := Nat.lt_of_lt_of_le hz hx3.size
  have X3 := Lib.hid (X2.out.trans hx3)
  clear hv hx3
  go_wp2
  go_ret
  exact ⟨by simp, X3.out.trans (ext_alloc _ _)⟩

end Go.Proofs.YtonbplofbcnijaaDoor.ConfRows
