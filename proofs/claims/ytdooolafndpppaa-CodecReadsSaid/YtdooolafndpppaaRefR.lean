/- dispatchref2's reader: New, has, two, Int, Fail, End. -/
import Derived.Test.YtdooolafndpppaaRead
import Derived.Test.YtdooolafndpppaaReadB
import Derived.Deep.QuietTactic
import Derived.BigQuiet
namespace Go.Proofs.Ytdooolafndpppaa
open Go.RowKit

/-- Block X is the other reader: all bytes, the place, the error. -/
def XAt (w : World) (X : Nat) (v : Value) (p : Nat) (e : Int) : Prop := w.heap[X]? = some (.cells #[v, .int .i64 p, .int .i64 e] 55 (0, 0))

section
variable {w w' : World} {X : Nat} {v : Value} {p : Nat} {e : Int}
theorem XAt.lt (h : XAt w X v p e) : X < w.heap.size := (Array.getElem?_eq_some_iff.1 h).1
theorem XAt.c0 (h : XAt w X v p e) : w.cell? ⟨X, 0, none⟩ = some v := by rw [cell_of_row w X 0 _ _ (0, 0) h]; rfl
theorem XAt.c1 (h : XAt w X v p e) : w.cell? ⟨X, 1, none⟩ = some (.int .i64 p) := by rw [cell_of_row w X 1 _ _ (0, 0) h]; rfl
theorem XAt.c2 (h : XAt w X v p e) : w.cell? ⟨X, 2, none⟩ = some (.int .i64 e) := by rw [cell_of_row w X 2 _ _ (0, 0) h]; rfl
theorem XAt.fr (h : XAt w X v p e) (i : Nat) : w.frozen? ⟨X, i, none⟩ = false := by unfold XAt at h; simp [World.frozen?, h]
theorem XAt.ext (h : XAt w X v p e) (k : Ext w w') : XAt w' X v p e := (k.block X h.lt).trans h
theorem XAt.grown {row : Option Nat} (h : XAt w X v p e) (k : w.grownBy w' row) (hr : row ≠ some X) : XAt w' X v p e := (k.block X h.lt (fun e => hr e.symm)).trans h
theorem XAt.set1 (h : XAt w X v p e) (q : Nat) : XAt (w.setCell ⟨X, 1, none⟩ (.int .i64 q)) X v q e := by
  unfold XAt at *
  simp [World.setCell, Array.getElem?_modify, h]
theorem XAt.set2 (h : XAt w X v p e) (f : Int) : XAt (w.setCell ⟨X, 2, none⟩ (.int .i64 f)) X v p f := by
  unfold XAt at *
  simp [World.setCell, Array.getElem?_modify, h]
theorem XAt.drewN (h : XAt w X v p e) (n : Nat) : XAt (w.drewN n) X v p e := h
end
theorem grown_drewN (w : World) (n : Nat) (r : Option Nat) : w.grownBy (w.drewN n) r := ⟨rfl, rfl, rfl, Nat.le_refl _, fun _ _ _ => rfl⟩

theorem rNew_any (v : Value) (A : Option Addr) (n c : Nat) (hv : v = .slice A n c) (w : World) :
    Calls Try.prog 17 #[v] w fun e w' => e = .returned (.pointer (some ⟨w.heap.size, 0, none⟩)) ∧ Ext w w' ∧ XAt w' w.heap.size v 0 0 := by
  subst hv
  go_enter Try.func17, Try.ntmps17
  go_wp2
  go_ret
  exact ⟨rfl, (Below.refl _ _).alloc (Nat.le_refl _) _, heap_alloc_new w _⟩

theorem rFail_any (X : Nat) (v : Value) (p : Nat) (e f : Int) (w : World) (h : XAt w X v p e) :
    Calls Try.prog 27 #[.pointer (some ⟨X, 0, none⟩), .int .i64 f] w fun r w' => r = .returned (.tuple #[]) ∧ w.grownBy w' (some X) ∧ XAt w' X v p (if e = 0 then f else e) := by
  have h2 := h.c2
  have f2 := h.fr 2
  have HS := Lib.hid (h.set2 f)
  have H := Lib.hid h
  clear h
  by_cases he : e = 0
  · rw [if_pos he]
    subst he
    go_enter Try.func27, Try.ntmps27
    go_wp2
    go_end0
    exact ⟨rfl, grown_setCell _ _ _ _, HS.out⟩
  · rw [if_neg he]
    have he' : (e == 0) = false := by simpa using he
    go_enter Try.func27, Try.ntmps27
    go_wp2
    go_end0
    exact ⟨rfl, World.grownBy.refl _ _, H.out⟩

/-- Nothing but the error. -/
theorem has_err (X : Nat) (v : Value) (p : Nat) (e k : Int) (w : World) (h : XAt w X v p e) (he : ¬ e = 0) :
    Calls Try.prog 37 #[.pointer (some ⟨X, 0, none⟩), .int .i64 k] w fun r w' => r = .returned (.bool false) ∧ ∃ n, w' = w.drewN n := by
  have h2 := h.c2
  have he' : (e == 0) = false := by simpa using he
  clear h
  go_enter Try.func37, Try.ntmps37
  go_wp2
  go_quiet (fail)
  go_wp2
  go_ret
  exact ⟨rfl, _, rfl⟩

theorem has_ok (X : Nat) (A : Option Addr) (n c p : Nat) (k : Int) (w : World) (h : XAt w X (.slice A n c) p 0) (hm : n ≤ maxLen) (hp : p ≤ n) (hk : k ≤ (n : Int) - (p : Int)) :
    Calls Try.prog 37 #[.pointer (some ⟨X, 0, none⟩), .int .i64 k] w fun r w' => r = .returned (.bool true) ∧ ∃ n, w' = w.drewN n := by
  have h0 := h.c0
  have h1 := h.c1
  have h2 := h.c2
  unfold maxLen at hm
  have hd : decide ((n : Int) - (p : Int) < k) = false := by simp; omega
  clear h
  go_enter Try.func37, Try.ntmps37
  go_wp2
  go_quiet (fail)
  go_wp2
  go_ret
  exact ⟨rfl, _, rfl⟩

theorem has_cut (X : Nat) (A : Option Addr) (n c p : Nat) (k : Int) (w : World) (h : XAt w X (.slice A n c) p 0) (hm : n ≤ maxLen) (hp : p ≤ n) (hk : (n : Int) - (p : Int) < k) :
    Calls Try.prog 37 #[.pointer (some ⟨X, 0, none⟩), .int .i64 k] w fun r w' => r = .returned (.bool false) ∧ w.grownBy w' (some X) ∧ XAt w' X (.slice A n c) p 8 := by
  have h0 := h.c0
  have h1 := h.c1
  have h2 := h.c2
  have f2 := h.fr 2
  unfold maxLen at hm
  have HS := Lib.hid (fun m => (h.drewN m).set2 8)
  clear h
  go_enter Try.func37, Try.ntmps37
  go_wp2
  go_quiet (fail)
  go_wp2
  go_ret
  exact ⟨rfl, World.grownBy.trans (grown_drewN _ _ _) (grown_setCell _ _ _ _), HS.out _⟩

theorem rEnd_err (X : Nat) (v : Value) (p : Nat) (e : Int) (w : World) (h : XAt w X v p e) (he : ¬ e = 0) :
    Calls Try.prog 29 #[.pointer (some ⟨X, 0, none⟩)] w fun r w' => r = .returned (.int .i64 e) ∧ ∃ n, w' = w.drewN n := by
  have h2 := h.c2
  have he' : (e == 0) = false := by simpa using he
  clear h
  go_enter Try.func29, Try.ntmps29
  go_wp2
  go_quiet (fail)
  go_wp2
  go_ret
  exact ⟨rfl, _, rfl⟩

theorem rEnd_ok (X : Nat) (A : Option Addr) (n c p : Nat) (w : World) (h : XAt w X (.slice A n c) p 0) :
    Calls Try.prog 29 #[.pointer (some ⟨X, 0, none⟩)] w fun r w' => r = .returned (.int .i64 (if p < n then 9 else 0)) ∧ ∃ n, w' = w.drewN n := by
  have h0 := h.c0
  have h1 := h.c1
  have h2 := h.c2
  clear h
  by_cases hp : p < n
  · rw [if_pos hp]
    go_enter Try.func29, Try.ntmps29
    go_wp2
    go_quiet (fail)
    go_wp2
    go_ret
    exact ⟨rfl, _, rfl⟩
  · rw [if_neg hp]
    go_enter Try.func29, Try.ntmps29
    go_wp2
    go_quiet (fail)
    go_wp2
    go_ret
    exact ⟨rfl, _, rfl⟩

end Go.Proofs.Ytdooolafndpppaa
