/- Remainders; a slice of bytes as a string. -/
import Derived.Test.YteeebhiabpabdaaByt
import Derived.ProofKit
import Derived.Lib.Hide
import Derived.Laws.BytesArg
import Derived.Laws.IdiomStrings
namespace Go.Proofs.Yteeebhiabpabdaa
open Go.RowKit

theorem at_world {P : Program} {code : Code} {Q : Exit → Act → World → Prop} {a : Act} {w : World} (h : ∀ W0, W0 = w → code.wp P Q a W0) : code.wp P Q a w := h w rfl

theorem emod_neg {a n : Int} (hn : 0 < n) (h : a.tmod n < 0) : a % n = a.tmod n + n := by
  have h2 := @Int.tmod_eq_emod a n
  have h0 : ¬ 0 ≤ a := fun h0 => by have := Int.tmod_nonneg n h0; omega
  rw [h2]; rw [h2] at h
  split at h
  · have := Int.emod_nonneg a (show n ≠ 0 by omega); omega
  · rw [if_neg (by assumption)]; omega
theorem emod_pos {a n : Int} (hn : 0 < n) (h : ¬ a.tmod n < 0) : a % n = a.tmod n := by
  have h2 := @Int.tmod_eq_emod a n
  rw [h2]; rw [h2] at h
  split at h
  · rw [if_pos (by assumption)]; omega
  · have := Int.emod_lt_of_pos a hn; omega

theorem Rd.str {w : World} {v : Value} {l : List UInt8} (h : Rd w v (bvs l)) : (convert 99 9 v).run Try.prog w = .ok (.string ⟨l.toArray⟩) w := by
  obtain ⟨A, c, rfl, hc1, hc2, hcell⟩ := h
  rw [bvs_length] at *
  cases A with
  | none =>
    have hl : l = [] := by
      rcases Nat.eq_zero_or_pos l.length with h0 | h0
      · exact List.eq_nil_of_length_eq_zero h0
      · obtain ⟨a, h, _⟩ := hcell h0; cases h
    subst hl
    exact run_convert_bytes_nil w 99 5 Try.underlying99 Try.underlying5 _ _ 9 Try.underlying9
  | some a =>
    refine run_convert_bytes_back w 99 9 5 a c l Try.underlying99 Try.underlying5 Try.underlying9 (fun j hj => ?_)
    obtain ⟨a', h, _, hcs⟩ := hcell (by omega)
    injection h with h
    subst h
    exact hcs j _ (by simp [bvs, bv, hj])

end Go.Proofs.Yteeebhiabpabdaa
