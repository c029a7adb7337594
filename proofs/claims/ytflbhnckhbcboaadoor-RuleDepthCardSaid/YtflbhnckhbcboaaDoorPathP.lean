/- Paths, split at dots: plain facts. -/
import Derived.Test.YtflbhnckhbcboaaDoorGoodP
import Derived.Test.YtflbhnckhbcboaaDoorIdx
import Derived.Lib.Split
namespace Go.Proofs.YtflbhnckhbcboaaDoor

def pathB (l : Tx) : Bool := decide ((pcs 46 [] l).length ≤ 4) && decide ((pcs 46 [] l).head? = some sRoot) && (pcs 46 [] l).all nameB
theorem pcs_nonempty (c : UInt8) : ∀ (r cur : Tx), pcs c cur r ≠ []
  | [], cur => by simp [pcs]
  | b :: r, cur => by
    simp only [pcs]
    split
    · simp
    · exact pcs_nonempty c r _
theorem pcs_length (c : UInt8) : ∀ (r cur : Tx), (pcs c cur r).length ≤ r.length + 1
  | [], cur => by simp [pcs]
  | b :: r, cur => by
    simp only [pcs]
    split
    · have := pcs_length c r []; simp; omega
    · have := pcs_length c r (cur ++ [b]); simp; omega
/-- The pieces as the program takes them: at the first k dots. -/
def spl : Nat → Tx → List Tx
  | 0, l => [l]
  | k + 1, l => if 46 ∈ l then l.takeWhile (fun b => b != 46) :: spl k ((l.dropWhile (fun b => b != 46)).drop 1) else [l]
theorem dot_split {l : Tx} (h : (46 : UInt8) ∈ l) : ∃ a t, l = a ++ 46 :: t ∧ (46 : UInt8) ∉ a ∧ l.takeWhile (fun b => b != 46) = a ∧ (l.dropWhile (fun b => b != 46)).drop 1 = t := by
  induction l with
  | nil => cases h
  | cons b l ih =>
    by_cases hb : b = 46
    · subst hb
      exact ⟨[], l, rfl, by simp, by simp, by simp⟩
    · have hm : (46 : UInt8) ∈ l := by
        rcases List.mem_cons.1 h with e | e
        · exact absurd e.symm hb
        · exact e
      obtain ⟨a, t, h1, h2, h3, h4⟩ := ih hm
      refine ⟨b :: a, t, by rw [h1]; rfl, ?_, ?_, ?_⟩
      · simp only [List.mem_cons, not_or]
        exact ⟨fun e => hb e.symm, h2⟩
      · simp [hb, h3]
      · simp [hb, h4]
theorem splitK_spl : ∀ (k : Nat) (l : Tx), Lib.splitK [46] 0 k l = spl k l
  | 0, l => rfl
  | k + 1, l => by
    unfold Lib.splitK spl
    rw [Lib.index_one]
    by_cases h : (46 : UInt8) ∈ l
    · rw [if_pos h]
      have hn : ¬ Lib.indexByte l 46 < 0 := fun e => idx_none l 46 e h
      obtain ⟨i, hi⟩ : ∃ i : Nat, Lib.indexByte l 46 = (i : Int) := ⟨(Lib.indexByte l 46).toNat, by omega⟩
      obtain ⟨a, t, h1, h2, h3⟩ := idx_some l 46 i hi
      obtain ⟨a', t', g1, g2, g3, g4⟩ := dot_split h
      have e1 : l.take i = a := by rw [h1, ← h2]; simp
      have e2 : l.drop (i + 1) = t := by rw [h1, ← h2]; simp
      have hp : ∀ x ∈ a, (x != 46) = true := fun x hx => by simp; intro e; subst e; exact h3 hx
      have e3 : l.takeWhile (fun b => b != 46) = a := by rw [h1, List.takeWhile_append_of_pos hp]; simp
      have e4 : (l.dropWhile (fun b => b != 46)).drop 1 = t := by rw [h1, List.dropWhile_append_of_pos hp]; simp
      rw [hi, e3, e4]
      have : ((i : Int) == -1) = false := by rw [beq_eq_false_iff_ne]; omega
      rw [this]
      simp only [Bool.false_eq_true, if_false, Nat.add_zero]
      rw [show ((i : Int)).toNat = i by omega, e1, show ([46] : Tx).length = 1 from rfl, e2, splitK_spl k t]
    · rw [if_neg h]
      have : Lib.indexByte l 46 = -1 := by
        have h1 := Lib.indexByte_ge l 46
        rcases Int.lt_or_le (Lib.indexByte l 46) 0 with h2 | h2
        · omega
        · obtain ⟨i, hi⟩ : ∃ i : Nat, Lib.indexByte l 46 = (i : Int) := ⟨(Lib.indexByte l 46).toNat, by omega⟩
          obtain ⟨a, t, h3, _, _⟩ := idx_some l 46 i hi
          exact absurd (by rw [h3]; simp) h
      rw [this]
      rfl
theorem spl_pcs : ∀ (k : Nat) (l : Tx), ((pcs 46 [] l).length ≤ k + 1 → spl k l = pcs 46 [] l) ∧ (k + 1 < (pcs 46 [] l).length → ∃ x ∈ spl k l, (46 : UInt8) ∈ x) ∧ (spl k l).head? = (if k = 0 then some l else (pcs 46 [] l).head?)
  | 0, l => by
    refine ⟨fun h => ?_, fun h => ?_, rfl⟩
    · by_cases hm : (46 : UInt8) ∈ l
      · obtain ⟨a, t, h1, h2, _, _⟩ := dot_split hm
        rw [h1, pcs_at 46 a [] t h2] at h
        have : pcs 46 [] t ≠ [] := pcs_nonempty 46 t []
        have h3 : (pcs 46 [] t).length ≠ 0 := fun e => this (List.eq_nil_of_length_eq_zero e)
        simp at h
        exact absurd h this
      · rw [pcs_ne 46 l [] hm]; rfl
    · by_cases hm : (46 : UInt8) ∈ l
      · exact ⟨l, by simp [spl], hm⟩
      · rw [pcs_ne 46 l [] hm] at h; simp at h
  | k + 1, l => by
    by_cases hm : (46 : UInt8) ∈ l
    · obtain ⟨a, t, h1, h2, h3, h4⟩ := dot_split hm
      have e : spl (k + 1) l = a :: spl k t := by rw [spl, if_pos hm, h3, h4]
      have e2 : pcs 46 [] l = a :: pcs 46 [] t := by rw [h1, pcs_at 46 a [] t h2]; rfl
      obtain ⟨i1, i2, _⟩ := spl_pcs k t
      rw [e, e2]
      refine ⟨fun h => ?_, fun h => ?_, ?_⟩
      · rw [i1 (by simpa using h)]
      · obtain ⟨x, hx, hd⟩ := i2 (by simpa using h)
        exact ⟨x, List.mem_cons_of_mem _ hx, hd⟩
      · simp
    · have e : spl (k + 1) l = [l] := by rw [spl, if_neg hm]
      have e2 : pcs 46 [] l = [l] := by rw [pcs_ne 46 l [] hm]; rfl
      rw [e, e2]
      refine ⟨fun _ => rfl, fun h => by simp at h, by simp⟩
theorem dot_noname {x : Tx} (h : (46 : UInt8) ∈ x) : nameB x = false := by
  unfold nameB
  have : x.all inName = false := by
    rw [List.all_eq_false]
    exact ⟨46, h, by decide⟩
  rw [this]
  simp
theorem pathB_spl (k : Nat) (hk : 1 ≤ k) (l : Tx) (h3 : k = 3 ∨ (k < 3 ∧ l.length ≤ k)) : pathB l = (decide ((spl k l).head? = some sRoot) && (spl k l).all nameB) := by
  obtain ⟨h1, h2, h4⟩ := spl_pcs k l
  rw [if_neg (by omega)] at h4
  unfold pathB
  by_cases hl : (pcs 46 [] l).length ≤ k + 1
  · rw [h1 hl]
    have : decide ((pcs 46 [] l).length ≤ 4) = true := by simp; omega
    rw [this, Bool.true_and]
  · obtain ⟨x, hx, hd⟩ := h2 (by omega)
    have hall : (spl k l).all nameB = false := by
      rw [List.all_eq_false]
      exact ⟨x, hx, by rw [dot_noname hd]; simp⟩
    rw [hall, Bool.and_false]
    rcases h3 with h3 | ⟨_, h3⟩
    · have : decide ((pcs 46 [] l).length ≤ 4) = false := by simp; omega
      rw [this]
      rfl
    · exfalso
      have := pcs_length 46 l []
      omega
end Go.Proofs.YtflbhnckhbcboaaDoor
