/- dispatchref1: part, may, Add, Sub, Fits: contracts. -/
import Derived.Test.YtlifgdhieelihaaLeafC
import Derived.Test.YtlifgdhieelihaaScale
namespace Go.Proofs.Ytlifgdhieelihaa
open Go.RowKit

theorem rpart_any (n : Int) (w : World) :
    Calls Try.prog 30 #[.int .i64 n] w fun e w' => e = .returned (.bool (okI n)) ∧ w = w' := by
  by_cases h0 : 0 ≤ n
  · by_cases h1 : n ≤ 1125899906842624
    · have hk : okI n = true := by simp [okI, h0, h1]
      rw [hk]; clear hk
      go_enter Try.func30, Try.ntmps30
      go_wp2
      go_ret
      exact ⟨rfl, rfl⟩
    · have hk : okI n = false := by simp [okI]; omega
      rw [hk]; clear hk
      go_enter Try.func30, Try.ntmps30
      go_wp2
      go_ret
      exact ⟨rfl, rfl⟩
  · have hk : okI n = false := by simp [okI]; omega
    rw [hk]; clear hk
    go_enter Try.func30, Try.ntmps30
    go_wp2
    go_ret
    exact ⟨rfl, rfl⟩

theorem may_any (a b : Int) (w : World) :
    Calls Try.prog 22 #[.agg #[.int .i64 a, .int .i64 b]] w fun e w' => e = .returned (.bool (okV a b)) ∧ Below w.heap.size w w' := by
  unfold okV
  cases ha : okI a <;>
  · go_enter Try.func22, Try.ntmps22
    go_wp2_with (go_at_call 30; refine (rpart_any _ _).mono ?_; rintro e w' ⟨rfl, rfl⟩)
    go_ret
    exact ⟨by simp, by go_grown⟩

theorem resE_ok (x y : Int) : resE true x y = (if okV x y then 0 else 11) := by simp [resE]

set_option maxHeartbeats 1000000 in
theorem rAdd_any (a b c d : Int) (w : World) :
    Calls Try.prog 10 #[.agg #[.int .i64 a, .int .i64 b], .agg #[.int .i64 c, .int .i64 d]] w fun e w' => e = .returned (.tuple #[.agg #[.int .i64 (sumX a b c d (a+c) (b+d) (a+c)), .int .i64 (sumX a b c d (a+c) (b+d) (b+d))], .int .i64 (sumE a b c d (a+c) (b+d))]) ∧ Below w.heap.size w w' := by
  unfold sumX sumE
  cases h1 : okV a b
  · simp only [Bool.false_and, resP, resE]
    go_enter Try.func10, Try.ntmps10
    go_wp2_with (go_at_call 22; (with_reducible refine (may_any _ _ _).mono ?_); rintro e w1 ⟨rfl, hb⟩; obtain ⟨hc, hf⟩ := bcell hb; have hz := hb.size; (try simp at hz); have hB := step_below (B := w.heap.size) (w := w) (by go_grown) (by go_size) hb; have z0 : w.heap.size < w1.heap.size := (by omega); have z1 : w.heap.size + 1 < w1.heap.size := (by omega); have z2 : w.heap.size + 1 + 1 < w1.heap.size := (by omega))
    refine bodyPost_ret (by simp [results, Try.results10, go_sem, *]; try rfl) rfl ?_
    exact ⟨rfl, by go_grown⟩
  · cases h2 : okV c d
    · simp only [Bool.and_false, Bool.false_and, resP, resE]
      go_enter Try.func10, Try.ntmps10
      go_wp2_with (go_at_call 22; (with_reducible refine (may_any _ _ _).mono ?_); rintro e w1 ⟨rfl, hb⟩; obtain ⟨hc, hf⟩ := bcell hb; have hz := hb.size; (try simp at hz); have hB := step_below (B := w.heap.size) (w := w) (by go_grown) (by go_size) hb; have z0 : w.heap.size < w1.heap.size := (by omega); have z1 : w.heap.size + 1 < w1.heap.size := (by omega); have z2 : w.heap.size + 1 + 1 < w1.heap.size := (by omega))
      refine bodyPost_ret (by simp [results, Try.results10, go_sem, *]; try rfl) rfl ?_
      exact ⟨rfl, by go_grown⟩
    · obtain ⟨⟨a0, a1⟩, b0, b1⟩ := okV_true h1
      obtain ⟨⟨c0, c1⟩, d0, d1⟩ := okV_true h2
      cases h3 : okV (a + c) (b + d) <;> simp only [Bool.and_true, Bool.true_and, Bool.and_self, resP, resE, h3, if_true, Bool.false_eq_true, if_false] <;>
      · go_enter Try.func10, Try.ntmps10
        go_wp2_with (go_at_call 22; (with_reducible refine (may_any _ _ _).mono ?_); rintro e w1 ⟨rfl, hb⟩; obtain ⟨hc, hf⟩ := bcell hb; have hz := hb.size; (try simp at hz); have hB := step_below (B := w.heap.size) (w := w) (by go_grown) (by go_size) hb; have z0 : w.heap.size < w1.heap.size := (by omega); have z1 : w.heap.size + 1 < w1.heap.size := (by omega); have z2 : w.heap.size + 1 + 1 < w1.heap.size := (by omega))
        refine bodyPost_ret (by simp [results, Try.results10, go_sem, *]; try rfl) rfl ?_
        exact ⟨rfl, by go_grown⟩

set_option maxHeartbeats 1000000 in
theorem rSub_any (a b c d : Int) (w : World) :
    Calls Try.prog 12 #[.agg #[.int .i64 a, .int .i64 b], .agg #[.int .i64 c, .int .i64 d]] w fun e w' => e = .returned (.tuple #[.agg #[.int .i64 (sumX a b c d (a-c) (b-d) (a-c)), .int .i64 (sumX a b c d (a-c) (b-d) (b-d))], .int .i64 (sumE a b c d (a-c) (b-d))]) ∧ Below w.heap.size w w' := by
  unfold sumX sumE
  cases h1 : okV a b
  · simp only [Bool.false_and, resP, resE]
    go_enter Try.func12, Try.ntmps12
    go_wp2_with (go_at_call 22; (with_reducible refine (may_any _ _ _).mono ?_); rintro e w1 ⟨rfl, hb⟩; obtain ⟨hc, hf⟩ := bcell hb; have hz := hb.size; (try simp at hz); have hB := step_below (B := w.heap.size) (w := w) (by go_grown) (by go_size) hb; have z0 : w.heap.size < w1.heap.size := (by omega); have z1 : w.heap.size + 1 < w1.heap.size := (by omega); have z2 : w.heap.size + 1 + 1 < w1.heap.size := (by omega))
    refine bodyPost_ret (by simp [results, Try.results12, go_sem, *]; try rfl) rfl ?_
    exact ⟨rfl, by go_grown⟩
  · cases h2 : okV c d
    · simp only [Bool.and_false, Bool.false_and, resP, resE]
      go_enter Try.func12, Try.ntmps12
      go_wp2_with (go_at_call 22; (with_reducible refine (may_any _ _ _).mono ?_); rintro e w1 ⟨rfl, hb⟩; obtain ⟨hc, hf⟩ := bcell hb; have hz := hb.size; (try simp at hz); have hB := step_below (B := w.heap.size) (w := w) (by go_grown) (by go_size) hb; have z0 : w.heap.size < w1.heap.size := (by omega); have z1 : w.heap.size + 1 < w1.heap.size := (by omega); have z2 : w.heap.size + 1 + 1 < w1.heap.size := (by omega))
      refine bodyPost_ret (by simp [results, Try.results12, go_sem, *]; try rfl) rfl ?_
      exact ⟨rfl, by go_grown⟩
    · obtain ⟨⟨a0, a1⟩, b0, b1⟩ := okV_true h1
      obtain ⟨⟨c0, c1⟩, d0, d1⟩ := okV_true h2
      cases h3 : okV (a - c) (b - d) <;> simp only [Bool.and_true, Bool.true_and, Bool.and_self, resP, resE, h3, if_true, Bool.false_eq_true, if_false] <;>
      · go_enter Try.func12, Try.ntmps12
        go_wp2_with (go_at_call 22; (with_reducible refine (may_any _ _ _).mono ?_); rintro e w1 ⟨rfl, hb⟩; obtain ⟨hc, hf⟩ := bcell hb; have hz := hb.size; (try simp at hz); have hB := step_below (B := w.heap.size) (w := w) (by go_grown) (by go_size) hb; have z0 : w.heap.size < w1.heap.size := (by omega); have z1 : w.heap.size + 1 < w1.heap.size := (by omega); have z2 : w.heap.size + 1 + 1 < w1.heap.size := (by omega))
        refine bodyPost_ret (by simp [results, Try.results12, go_sem, *]; try rfl) rfl ?_
        exact ⟨rfl, by go_grown⟩

theorem rFits_any (a b c d : Int) (w : World) :
    Calls Try.prog 14 #[.agg #[.int .i64 a, .int .i64 b], .agg #[.int .i64 c, .int .i64 d]] w fun e w' => e = .returned (.bool (fitB a b c d)) ∧ Below w.heap.size w w' := by
  unfold fitB
  by_cases h1 : a ≤ c <;> by_cases h2 : b ≤ d <;> simp only [h1, h2, decide_true, decide_false, Bool.and_true, Bool.and_false, Bool.and_self] <;>
  · go_enter Try.func14, Try.ntmps14
    go_wp2
    go_ret
    exact ⟨rfl, by go_grown⟩

end Go.Proofs.Ytlifgdhieelihaa
