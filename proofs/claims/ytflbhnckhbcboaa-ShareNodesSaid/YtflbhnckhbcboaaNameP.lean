/- The last dot of a path: plain facts. -/
import Derived.Test.YtflbhnckhbcboaaRule
import Derived.Test.YtflbhnckhbcboaaBa
import Derived.Lib.LastIndexByte
namespace Go.Proofs.Ytflbhnckhbcboaa

theorem at_bang (s : ByteArray) (j : Nat) (hj : j < s.size) : s.data[j]! = s.data.toList[j]'(by rw [← ba_size]; exact hj) := by
  cases s with
  | mk d =>
    have h' : j < d.size := hj
    simp only [Array.getElem_toList]
    exact getElem!_pos d j h'
theorem lastDot (s : ByteArray) : (Lib.lastIndexByte s 46 = -1 ∧ above s.data.toList = []) ∨ ∃ i : Nat, i < s.size ∧ Lib.lastIndexByte s 46 = (i : Int) ∧ above s.data.toList = s.data.toList.take i := by
  unfold Lib.lastIndexByte
  have toN : ∀ b : UInt8, (b.toNat : Int) = 46 ↔ b = 46 := fun b => by
    constructor
    · intro h; exact UInt8.toNat.inj (by have : (46 : UInt8).toNat = 46 := rfl; omega)
    · intro h; subst h; rfl
  rcases Lib.lastIdx_spec s 46 s.size with ⟨h1, h2⟩ | ⟨i, hi, h1, h2, h3⟩
  · refine .inl ⟨h1, above_no fun hm => ?_⟩
    obtain ⟨j, hj, e⟩ := List.mem_iff_getElem.1 hm
    have hj' : j < s.size := by rw [ba_size]; exact hj
    exact h2 j hj' (by rw [at_bang s j hj', e]; rfl)
  · refine .inr ⟨i, hi, h1, ?_⟩
    have hl : i < s.data.toList.length := by rw [← ba_size]; exact hi
    have e : s.data.toList = s.data.toList.take i ++ 46 :: s.data.toList.drop (i + 1) := by
      have h4 : s.data.toList[i] = 46 := by rw [← at_bang s i hi]; exact (toN _).1 h2
      have := List.take_append_drop i s.data.toList
      rw [List.drop_eq_getElem_cons hl, h4] at this
      exact this.symm
    have hn : (46 : UInt8) ∉ s.data.toList.drop (i + 1) := fun hm => by
      obtain ⟨j, hj, e2⟩ := List.mem_iff_getElem.1 hm
      rw [List.length_drop] at hj
      have hj' : i + 1 + j < s.size := by rw [ba_size]; omega
      rw [List.getElem_drop] at e2
      exact h3 (i + 1 + j) (by omega) hj' (by rw [at_bang s _ hj', e2]; rfl)
    have := above_at (a := s.data.toList.take i) hn
    rw [← e] at this
    exact this
end Go.Proofs.Ytflbhnckhbcboaa
