/- Remainders; a slice of bytes as a string. -/
import Derived.Test.YtffioglbgnbieaaModG
import Derived.Test.YtffioglbgnbieaaByt
import Derived.ProofKit
import Derived.Lib.Hide
import Derived.Laws.BytesArg
import Derived.Laws.IdiomStrings
namespace Go.Proofs.Ytffioglbgnbieaa
open Go.RowKit

theorem Rd.str {w : World} {v : Value} {l : List UInt8} (h : Rd w v (bvs l)) : (convert 99 9 v).run Try.prog w = .ok (.string ⟨l.toArray⟩) w := by
  obtain ⟨A, c, rfl, hc1, hc2, hcell⟩ := h
  rw [bvs_length] at *
  cases A with
  | none =>
    have hl : l = [] := by
      rcases Nat.eq_zero_or_pos l.length with h0 | h0
      · exact List.eq_nil_of_length_eq_zero h0
      · obtain ⟨a, h, _⟩ := hcell h0; cases h
    subst hl
    exact run_convert_bytes_nil w 99 5 Try.underlying99 Try.underlying5 _ _ 9 Try.underlying9
  | some a =>
    refine run_convert_bytes_back w 99 9 5 a c l Try.underlying99 Try.underlying5 Try.underlying9 (fun j hj => ?_)
    obtain ⟨a', h, _, hcs⟩ := hcell (by omega)
    injection h with h
    subst h
    exact hcs j _ (by simp [bvs, bv, hj])

end Go.Proofs.Ytffioglbgnbieaa
