/- Remainders; a world under a name. -/
import Derived.Test.YtffioglbgnbieaaByt
import Derived.ProofKit
import Derived.Lib.Hide
import Derived.Laws.BytesArg
import Derived.Laws.IdiomStrings
namespace Go.Proofs.Ytffioglbgnbieaa
open Go.RowKit

theorem at_world {P : Program} {code : Code} {Q : Exit → Act → World → Prop} {a : Act} {w : World} (h : ∀ W0, W0 = w → code.wp P Q a W0) : code.wp P Q a w := h w rfl

theorem emod_neg {a n : Int} (hn : 0 < n) (h : a.tmod n < 0) : a % n = a.tmod n + n := by
  have h2 := @Int.tmod_eq_emod a n
  have h0 : ¬ 0 ≤ a := fun h0 => by have := Int.tmod_nonneg n h0; omega
  rw [h2]; rw [h2] at h
  split at h
  · have := Int.emod_nonneg a (show n ≠ 0 by omega); omega
  · rw [if_neg (by assumption)]; omega
theorem emod_pos {a n : Int} (hn : 0 < n) (h : ¬ a.tmod n < 0) : a % n = a.tmod n := by
  have h2 := @Int.tmod_eq_emod a n
  rw [h2]; rw [h2] at h
  split at h
  · rw [if_pos (by assumption)]; omega
  · have := Int.emod_lt_of_pos a hn; omega
end Go.Proofs.Ytffioglbgnbieaa
