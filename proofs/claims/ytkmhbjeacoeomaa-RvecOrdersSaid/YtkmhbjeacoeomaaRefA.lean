/- dispatchref1: part, may, Add, Sub, Fits, scale, Scale: contracts. -/
import Derived.Test.YtkmhbjeacoeomaaLeafC
import Derived.Test.YtkmhbjeacoeomaaScale
namespace Go.Proofs.Ytkmhbjeacoeomaa
open Go.RowKit

theorem rpart_any (n : Int) (w : World) :
    Calls Try.prog 40 #[.int .i64 n] w fun e w' => e = .returned (.bool (okI n)) ∧ w = w' := by
  by_cases h0 : 0 ≤ n
  · by_cases h1 : n ≤ 1125899906842624
    · have hk : okI n = true := by simp [okI, h0, h1]
      rw [hk]; clear hk
      go_enter Try.func40, Try.ntmps40
      go_wp2
      go_ret
      exact ⟨rfl, rfl⟩
    · have hk : okI n = false := by simp [okI]; omega
      rw [hk]; clear hk
      go_enter Try.func40, Try.ntmps40
      go_wp2
      go_ret
      exact ⟨rfl, rfl⟩
  · have hk : okI n = false := by simp [okI]; omega
    rw [hk]; clear hk
    go_enter Try.func40, Try.ntmps40
    go_wp2
    go_ret
    exact ⟨rfl, rfl⟩

theorem may_any (a b : Int) (w : World) :
    Calls Try.prog 29 #[.agg #[.int .i64 a, .int .i64 b]] w fun e w' => e = .returned (.bool (okV a b)) ∧ Below w.heap.size w w' := by
  unfold okV
  cases ha : okI a <;>
  · go_enter Try.func29, Try.ntmps29
    go_wp2_with (go_at_call 40; refine (rpart_any _ _).mono ?_; rintro e w' ⟨rfl, rfl⟩)
    go_ret
    exact ⟨by simp, by go_grown⟩

theorem resE_ok (x y : Int) : resE true x y = (if okV x y then 0 else 11) := by simp [resE]

set_option maxHeartbeats 1000000 in
theorem rAdd_any (a b c d : Int) (w : World) :
    Calls Try.prog 15 #[.agg #[.int .i64 a, .int .i64 b], .agg #[.int .i64 c, .int .i64 d]] w fun e w' => e = .returned (.tuple #[.agg #[.int .i64 (sumX a b c d (a+c) (b+d) (a+c)), .int .i64 (sumX a b c d (a+c) (b+d) (b+d))], .int .i64 (sumE a b c d (a+c) (b+d))]) ∧ Below w.heap.size w w' := by
  unfold sumX sumE
  cases h1 : okV a b
  · simp only [Bool.false_and, resP, resE]
    go_enter Try.func15, Try.ntmps15
    go_wp2_with (go_at_call 29; (with_reducible refine (may_any _ _ _).mono ?_); rintro e w1 ⟨rfl, hb⟩; obtain ⟨hc, hf⟩ := bcell hb; have hz := hb.size; (try simp at hz); have hB := step_below (B := w.heap.size) (w := w) (by go_grown) (by go_size) hb; have z0 : w.heap.size < w1.heap.size := (by omega); have z1 : w.heap.size + 1 < w1.heap.size := (by omega); have z2 : w.heap.size + 1 + 1 < w1.heap.size := (by omega))
    refine bodyPost_ret (by simp [results, Try.results15, go_sem, *]; try rfl) rfl ?_
    exact ⟨rfl, by go_grown⟩
  · cases h2 : okV c d
    · simp only [Bool.and_false, Bool.false_and, resP, resE]
      go_enter Try.func15, Try.ntmps15
      go_wp2_with (go_at_call 29; (with_reducible refine (may_any _ _ _).mono ?_); rintro e w1 ⟨rfl, hb⟩; obtain ⟨hc, hf⟩ := bcell hb; have hz := hb.size; (try simp at hz); have hB := step_below (B := w.heap.size) (w := w) (by go_grown) (by go_size) hb; have z0 : w.heap.size < w1.heap.size := (by omega); have z1 : w.heap.size + 1 < w1.heap.size := (by omega); have z2 : w.heap.size + 1 + 1 < w1.heap.size := (by omega))
      refine bodyPost_ret (by simp [results, Try.results15, go_sem, *]; try rfl) rfl ?_
      exact ⟨rfl, by go_grown⟩
    · obtain ⟨⟨a0, a1⟩, b0, b1⟩ := okV_true h1
      obtain ⟨⟨c0, c1⟩, d0, d1⟩ := okV_true h2
      cases h3 : okV (a + c) (b + d) <;> simp only [Bool.and_true, Bool.true_and, Bool.and_self, resP, resE, h3, if_true, Bool.false_eq_true, if_false] <;>
      · go_enter Try.func15, Try.ntmps15
        go_wp2_with (go_at_call 29; (with_reducible refine (may_any _ _ _).mono ?_); rintro e w1 ⟨rfl, hb⟩; obtain ⟨hc, hf⟩ := bcell hb; have hz := hb.size; (try simp at hz); have hB := step_below (B := w.heap.size) (w := w) (by go_grown) (by go_size) hb; have z0 : w.heap.size < w1.heap.size := (by omega); have z1 : w.heap.size + 1 < w1.heap.size := (by omega); have z2 : w.heap.size + 1 + 1 < w1.heap.size := (by omega))
        refine bodyPost_ret (by simp [results, Try.results15, go_sem, *]; try rfl) rfl ?_
        exact ⟨rfl, by go_grown⟩

set_option maxHeartbeats 1000000 in
theorem rSub_any (a b c d : Int) (w : World) :
    Calls Try.prog 17 #[.agg #[.int .i64 a, .int .i64 b], .agg #[.int .i64 c, .int .i64 d]] w fun e w' => e = .returned (.tuple #[.agg #[.int .i64 (sumX a b c d (a-c) (b-d) (a-c)), .int .i64 (sumX a b c d (a-c) (b-d) (b-d))], .int .i64 (sumE a b c d (a-c) (b-d))]) ∧ Below w.heap.size w w' := by
  unfold sumX sumE
  cases h1 : okV a b
  · simp only [Bool.false_and, resP, resE]
    go_enter Try.func17, Try.ntmps17
    go_wp2_with (go_at_call 29; (with_reducible refine (may_any _ _ _).mono ?_); rintro e w1 ⟨rfl, hb⟩; obtain ⟨hc, hf⟩ := bcell hb; have hz := hb.size; (try simp at hz); have hB := step_below (B := w.heap.size) (w := w) (by go_grown) (by go_size) hb; have z0 : w.heap.size < w1.heap.size := (by omega); have z1 : w.heap.size + 1 < w1.heap.size := (by omega); have z2 : w.heap.size + 1 + 1 < w1.heap.size := (by omega))
    refine bodyPost_ret (by simp [results, Try.results17, go_sem, *]; try rfl) rfl ?_
    exact ⟨rfl, by go_grown⟩
  · cases h2 : okV c d
    · simp only [Bool.and_false, Bool.false_and, resP, resE]
      go_enter Try.func17, Try.ntmps17
      go_wp2_with (go_at_call 29; (with_reducible refine (may_any _ _ _).mono ?_); rintro e w1 ⟨rfl, hb⟩; obtain ⟨hc, hf⟩ := bcell hb; have hz := hb.size; (try simp at hz); have hB := step_below (B := w.heap.size) (w := w) (by go_grown) (by go_size) hb; have z0 : w.heap.size < w1.heap.size := (by omega); have z1 : w.heap.size + 1 < w1.heap.size := (by omega); have z2 : w.heap.size + 1 + 1 < w1.heap.size := (by omega))
      refine bodyPost_ret (by simp [results, Try.results17, go_sem, *]; try rfl) rfl ?_
      exact ⟨rfl, by go_grown⟩
    · obtain ⟨⟨a0, a1⟩, b0, b1⟩ := okV_true h1
      obtain ⟨⟨c0, c1⟩, d0, d1⟩ := okV_true h2
      cases h3 : okV (a - c) (b - d) <;> simp only [Bool.and_true, Bool.true_and, Bool.and_self, resP, resE, h3, if_true, Bool.false_eq_true, if_false] <;>
      · go_enter Try.func17, Try.ntmps17
        go_wp2_with (go_at_call 29; (with_reducible refine (may_any _ _ _).mono ?_); rintro e w1 ⟨rfl, hb⟩; obtain ⟨hc, hf⟩ := bcell hb; have hz := hb.size; (try simp at hz); have hB := step_below (B := w.heap.size) (w := w) (by go_grown) (by go_size) hb; have z0 : w.heap.size < w1.heap.size := (by omega); have z1 : w.heap.size + 1 < w1.heap.size := (by omega); have z2 : w.heap.size + 1 + 1 < w1.heap.size := (by omega))
        refine bodyPost_ret (by simp [results, Try.results17, go_sem, *]; try rfl) rfl ?_
        exact ⟨rfl, by go_grown⟩

theorem rFits_any (a b c d : Int) (w : World) :
    Calls Try.prog 19 #[.agg #[.int .i64 a, .int .i64 b], .agg #[.int .i64 c, .int .i64 d]] w fun e w' => e = .returned (.bool (fitB a b c d)) ∧ Below w.heap.size w w' := by
  unfold fitB
  by_cases h1 : a ≤ c <;> by_cases h2 : b ≤ d <;> simp only [h1, h2, decide_true, decide_false, Bool.and_true, Bool.and_false, Bool.and_self] <;>
  · go_enter Try.func19, Try.ntmps19
    go_wp2
    go_ret
    exact ⟨rfl, by go_grown⟩

theorem rscale_any (n bp : Int) (w : World) (hn : 0 ≤ n ∧ n ≤ 1125899906842624) (hb : 0 ≤ bp ∧ bp ≤ 1000000) :
    Calls Try.prog 35 #[.int .i64 n, .int .i64 bp] w fun e w' => e = .returned (.int .i64 (scI n bp)) ∧ w = w' := by
  obtain ⟨⟨p0, p1⟩, r0, r1⟩ := scI_parts hn hb
  obtain ⟨n0, n1⟩ := hn
  obtain ⟨b0, b1⟩ := hb
  unfold scI
  go_enter Try.func35, Try.ntmps35
  go_wp2
  go_ret
  exact ⟨rfl, rfl⟩

end Go.Proofs.Ytkmhbjeacoeomaa
