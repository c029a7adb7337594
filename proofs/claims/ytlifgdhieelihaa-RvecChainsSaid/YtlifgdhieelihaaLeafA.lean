/- Leaves of rvec: contracts. -/
import Derived.Test.YtlifgdhieelihaaRows
import Derived.Test.YtlifgdhieelihaaRegJ
import Derived.WalkKit
import Derived.ProofKit
import Derived.Handy
import Derived.BigQuiet
import Derived.Deep.QuietTactic
import Derived.StillTailTactics
import Derived.Lib.Hide
import Derived.Deep.RegionWith
import Derived.Deep.RegionHeld3
namespace Go.Proofs.Ytlifgdhieelihaa
open Go.RowKit

def okI (n : Int) : Bool := decide (0 ≤ n ∧ n ≤ 1125899906842624)
theorem okI_true {n : Int} (h : okI n = true) : 0 ≤ n ∧ n ≤ 1125899906842624 := by simpa [okI] using h
theorem okI_false {n : Int} (h : okI n = false) : n < 0 ∨ 1125899906842624 < n := by simp [okI] at h; omega

theorem inBounds_any (n : Int) (w : World) :
    Calls Try.prog 31 #[.int .i64 n] w fun e w' => e = .returned (.bool (okI n)) ∧ w = w' := by
  by_cases h0 : 0 ≤ n
  · by_cases h1 : n ≤ 1125899906842624
    · have hk : okI n = true := by simp [okI, h0, h1]
      rw [hk]; clear hk
      go_enter Try.func31, Try.ntmps31
      go_wp2
      go_ret
      exact ⟨rfl, rfl⟩
    · have hk : okI n = false := by simp [okI]; omega
      rw [hk]; clear hk
      go_enter Try.func31, Try.ntmps31
      go_wp2
      go_ret
      exact ⟨rfl, rfl⟩
  · have hk : okI n = false := by simp [okI]; omega
    rw [hk]; clear hk
    go_enter Try.func31, Try.ntmps31
    go_wp2
    go_ret
    exact ⟨rfl, rfl⟩

def okV (a b : Int) : Bool := okI a && okI b

theorem bounded_any (a b : Int) (w : World) :
    Calls Try.prog 24 #[.agg #[.int .i64 a, .int .i64 b]] w fun e w' => e = .returned (.bool (okV a b)) ∧ Below w.heap.size w w' := by
  unfold okV
  cases ha : okI a <;>
  · go_enter Try.func24, Try.ntmps24
    go_wp2_with (go_at_call 31; refine (inBounds_any _ _).mono ?_; rintro e w' ⟨rfl, rfl⟩)
    go_ret
    exact ⟨by simp, by go_grown⟩

end Go.Proofs.Ytlifgdhieelihaa
