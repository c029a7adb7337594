/- Shares in a row: what the order of the first two and of the last two says of the first and the last. -/
import Derived.Test.YtlifgdhieelihaaOrdC
namespace Go.Proofs.Ytlifgdhieelihaa
open Go.RowKit

theorem cmpI_le {x y : Int} : cmpI x y ≤ 0 ↔ x ≤ y := by unfold cmpI; split <;> (try split) <;> omega
theorem cmpI_ge {x y : Int} : 0 ≤ cmpI x y ↔ y ≤ x := by unfold cmpI; split <;> (try split) <;> omega
theorem cmpI_lt {x y : Int} : cmpI x y < 0 ↔ x < y := by unfold cmpI; split <;> (try split) <;> omega
theorem cmpI_gt {x y : Int} : 0 < cmpI x y ↔ y < x := by unfold cmpI; split <;> (try split) <;> omega

/-- Shares as points: a over n, never nought over nought. -/
theorem chain {a m b n c p : Int} (_ : 0 ≤ a) (hm : 0 ≤ m) (_ : 0 ≤ b) (hn : 0 ≤ n) (hc : 0 ≤ c) (hp : 0 ≤ p) (h1 : 0 < a ∨ 0 < m) (h2 : 0 < b ∨ 0 < n) (h3 : 0 < c ∨ 0 < p)
    (hx : a * n ≤ b * m) (hy : b * p ≤ c * n) : a * p ≤ c * m ∧ (a * p < c * m ↔ a * n < b * m ∨ b * p < c * n) := by
  rcases Int.lt_or_eq_of_le hn with hn0 | hn0
  · -- n is above nought
    have hm0 : 0 < m := by
      rcases Int.lt_or_eq_of_le hm with h | h
      · exact h
      · subst h
        have ha0 : 0 < a := h1.resolve_right (by omega)
        have := Int.mul_pos ha0 hn0
        rw [Int.mul_zero] at hx
        omega
    have e1 : a * p * n = a * n * p := Int.mul_right_comm _ _ _
    have e2 : b * m * p = b * p * m := Int.mul_right_comm _ _ _
    have e3 : c * m * n = c * n * m := Int.mul_right_comm _ _ _
    have l1 : a * n * p ≤ b * m * p := Int.mul_le_mul_of_nonneg_right hx hp
    have l2 : b * p * m ≤ c * n * m := Int.mul_le_mul_of_nonneg_right hy hm
    have hz : a * p ≤ c * m := by
      apply Int.le_of_mul_le_mul_right (a := n) _ hn0
      omega
    refine ⟨hz, fun h => ?_, fun h => ?_⟩
    · refine Decidable.byContradiction fun hk => ?_
      have k1 : a * n = b * m := by omega
      have k2 : b * p = c * n := by omega
      have h' := Int.mul_lt_mul_of_pos_right h hn0
      rw [e1, e3, k1, e2, k2] at h'
      omega
    · apply Int.lt_of_mul_lt_mul_right (a := n) _ hn
      rcases Decidable.em (b * p < c * n) with hy' | hy'
      · have := Int.mul_lt_mul_of_pos_right hy' hm0
        omega
      · have hx' := h.resolve_right hy'
        have hp0 : 0 < p := by
          rcases Int.lt_or_eq_of_le hp with h | h
          · exact h
          · subst h
            have hc0 : 0 < c := h3.resolve_right (by omega)
            have := Int.mul_pos hc0 hn0
            rw [Int.mul_zero] at hy'
            omega
        have := Int.mul_lt_mul_of_pos_right hx' hp0
        omega
  · subst hn0
    have hb0 : 0 < b := h2.resolve_right (by omega)
    rw [Int.mul_zero] at hx
    rw [Int.mul_zero] at hy
    have hp0 : p = 0 := by
      rcases Int.lt_or_eq_of_le hp with h | h
      · have := Int.mul_pos hb0 h
        omega
      · exact h.symm
    subst hp0
    have hc0 : 0 < c := h3.resolve_right (by omega)
    simp only [Int.mul_zero]
    refine ⟨Int.mul_nonneg hc hm, fun h => .inl ?_, fun h => ?_⟩
    · have : 0 < m := by
        rcases Int.lt_or_eq_of_le hm with k | k
        · exact k
        · subst k; rw [Int.mul_zero] at h; omega
      exact Int.mul_pos hb0 this
    · have h := h.resolve_right (by omega)
      have : 0 < m := by
        rcases Int.lt_or_eq_of_le hm with k | k
        · exact k
        · subst k; rw [Int.mul_zero] at h; omega
      exact Int.mul_pos hc0 this

/-- What the law asks of three orders. -/
theorem chain_le {a m b n c p : Int} (ha : 0 ≤ a) (hm : 0 ≤ m) (hb : 0 ≤ b) (hn : 0 ≤ n) (hc : 0 ≤ c) (hp : 0 ≤ p) (h1 : 0 < a ∨ 0 < m) (h2 : 0 < b ∨ 0 < n) (h3 : 0 < c ∨ 0 < p)
    (hx : cmpI (a * n) (b * m) ≤ 0) (hy : cmpI (b * p) (c * n) ≤ 0) : cmpI (a * p) (c * m) ≤ 0 ∧ (cmpI (a * p) (c * m) < 0 ↔ cmpI (a * n) (b * m) < 0 ∨ cmpI (b * p) (c * n) < 0) := by
  rw [cmpI_le] at *
  rw [cmpI_lt, cmpI_lt, cmpI_lt]
  exact chain ha hm hb hn hc hp h1 h2 h3 hx hy
theorem chain_ge {a m b n c p : Int} (ha : 0 ≤ a) (hm : 0 ≤ m) (hb : 0 ≤ b) (hn : 0 ≤ n) (hc : 0 ≤ c) (hp : 0 ≤ p) (h1 : 0 < a ∨ 0 < m) (h2 : 0 < b ∨ 0 < n) (h3 : 0 < c ∨ 0 < p)
    (hx : 0 ≤ cmpI (a * n) (b * m)) (hy : 0 ≤ cmpI (b * p) (c * n)) : 0 ≤ cmpI (a * p) (c * m) ∧ (0 < cmpI (a * p) (c * m) ↔ 0 < cmpI (a * n) (b * m) ∨ 0 < cmpI (b * p) (c * n)) := by
  rw [cmpI_ge] at *
  rw [cmpI_gt, cmpI_gt, cmpI_gt]
  have := chain hc hp hb hn ha hm h3 h2 h1 hy hx
  exact ⟨this.1, this.2.trans Or.comm⟩

end Go.Proofs.Ytlifgdhieelihaa
