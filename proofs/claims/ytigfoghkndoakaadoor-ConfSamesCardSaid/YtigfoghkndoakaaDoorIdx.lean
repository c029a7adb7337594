/- The first place of a byte: plain facts. -/
import Derived.Test.YtigfoghkndoakaaDoorBa
import Derived.Lib.IndexBytes
namespace Go.Proofs.YtigfoghkndoakaaDoor
open Go.RowKit

theorem idx_some : ∀ (l : Tx) (c : UInt8) (i : Nat), Lib.indexByte l c = (i : Int) → ∃ a t, l = a ++ c :: t ∧ a.length = i ∧ c ∉ a
  | [], c, i, h => by unfold Lib.indexByte at h; omega
  | b :: l, c, i, h => by
    unfold Lib.indexByte at h
    by_cases hb : b = c
    · subst hb
      simp at h
      exact ⟨[], l, rfl, by simp; omega, by simp⟩
    · have hb' : (b == c) = false := by simpa using hb
      rw [hb'] at h
      simp only [Bool.false_eq_true, if_false] at h
      split at h
      · omega
      · have hge := Lib.indexByte_ge l c
        obtain ⟨a, t, h1, h2, h3⟩ := idx_some l c (i - 1) (by rename_i hne; simp at hne; omega)
        refine ⟨b :: a, t, by rw [h1]; rfl, by simp; rename_i hne; simp at hne; omega, ?_⟩
        simp only [List.mem_cons, not_or]
        exact ⟨fun e => hb e.symm, h3⟩
theorem idx_none : ∀ (l : Tx) (c : UInt8), Lib.indexByte l c < 0 → c ∉ l
  | [], c, _ => by simp
  | b :: l, c, h => by
    unfold Lib.indexByte at h
    by_cases hb : b = c
    · subst hb; simp at h
    · have hb' : (b == c) = false := by simpa using hb
      rw [hb'] at h
      simp only [Bool.false_eq_true, if_false] at h
      have ih := idx_none l c
      split at h
      · rename_i he
        simp at he
        simp only [List.mem_cons, not_or]
        exact ⟨fun e => hb e.symm, ih (by omega)⟩
      · have := Lib.indexByte_ge l c
        rename_i hne; simp at hne; omega

end Go.Proofs.YtigfoghkndoakaaDoor
