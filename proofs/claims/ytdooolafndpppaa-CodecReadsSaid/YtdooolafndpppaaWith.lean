/- dispatchlaw2: within; a slice of bytes as a string. -/
import Derived.Test.YtdooolafndpppaaByt
import Derived.ProofKit
import Derived.Lib.Hide
import Derived.Laws.BytesArg
import Derived.Laws.IdiomStrings
namespace Go.Proofs.Ytdooolafndpppaa
open Go.RowKit

theorem emod_neg {a n : Int} (hn : 0 < n) (h : a.tmod n < 0) : a % n = a.tmod n + n := by
  have h2 := @Int.tmod_eq_emod a n
  have h0 : ¬ 0 ≤ a := fun h0 => by have := Int.tmod_nonneg n h0; omega
  rw [h2]; rw [h2] at h
  split at h
  · have := Int.emod_nonneg a (show n ≠ 0 by omega); omega
  · rw [if_neg (by assumption)]; omega
theorem emod_pos {a n : Int} (hn : 0 < n) (h : ¬ a.tmod n < 0) : a % n = a.tmod n := by
  have h2 := @Int.tmod_eq_emod a n
  rw [h2]; rw [h2] at h
  split at h
  · rw [if_pos (by assumption)]; omega
  · have := Int.emod_lt_of_pos a hn; omega

theorem within_any (a n : Int) (w : World) (hn : 0 < n ∧ n ≤ 1125899906842625) :
    Calls Try.prog 18 #[.int .i64 a, .int .i64 n] w fun e w' => e = .returned (.int .i64 (a % n)) ∧ w = w' := by
  obtain ⟨n0, n1⟩ := hn
  have hz : (n == 0) = false := by simp; omega
  have l1 : a.tmod n < n := Int.tmod_lt_of_pos a n0
  have l2 : -n < a.tmod n := by have := Int.lt_tmod_of_pos a n0; omega
  by_cases hneg : a.tmod n < 0
  · rw [emod_neg n0 hneg]
    go_enter Try.func18, Try.ntmps18
    go_wp2
    go_ret
    exact ⟨rfl, rfl⟩
  · rw [emod_pos n0 hneg]
    go_enter Try.func18, Try.ntmps18
    go_wp2
    go_ret
    exact ⟨rfl, rfl⟩


theorem Rd.str {w : World} {v : Value} {l : List UInt8} (h : Rd w v (bvs l)) : (convert 22 9 v).run Try.prog w = .ok (.string ⟨l.toArray⟩) w := by
  obtain ⟨A, c, rfl, hc1, hc2, hcell⟩ := h
  rw [bvs_length] at *
  cases A with
  | none =>
    have hl : l = [] := by
      rcases Nat.eq_zero_or_pos l.length with h0 | h0
      · exact List.eq_nil_of_length_eq_zero h0
      · obtain ⟨a, h, _⟩ := hcell h0; cases h
    subst hl
    exact run_convert_bytes_nil w 22 5 Try.underlying22 Try.underlying5 _ _ 9 Try.underlying9
  | some a =>
    refine run_convert_bytes_back w 22 9 5 a c l Try.underlying22 Try.underlying5 Try.underlying9 (fun j hj => ?_)
    obtain ⟨a', h, _, hcs⟩ := hcell (by omega)
    injection h with h
    subst h
    exact hcs j _ (by simp [bvs, bv, hj])

end Go.Proofs.Ytdooolafndpppaa
