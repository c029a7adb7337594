/- rvec: combine, Add, Sub, Fits: contracts. -/
import Derived.Test.YtlifgdhieelihaaLeafB
namespace Go.Proofs.Ytlifgdhieelihaa
open Go.RowKit

def sumX (a b c d x y p : Int) : Int := resP (okV a b && okV c d) x y p
def sumE (a b c d x y : Int) : Int := resE (okV a b && okV c d) x y

theorem combine_plus (a b c d : Int) (w : World) :
    Calls Try.prog 20 #[.agg #[.int .i64 a, .int .i64 b], .agg #[.int .i64 c, .int .i64 d], .func (.func 21) #[] #[]] w fun e w' => e = .returned (.tuple #[.agg #[.int .i64 (sumX a b c d (a+c) (b+d) (a+c)), .int .i64 (sumX a b c d (a+c) (b+d) (b+d))], .int .i64 (sumE a b c d (a+c) (b+d))]) ∧ Below w.heap.size w w' := by
  unfold sumX sumE
  cases h1 : okV a b <;> cases h2 : okV c d <;> (simp only [Bool.and_true, Bool.and_false]) <;>
  · go_enter Try.func20, Try.ntmps20
    go_wp2_with (first
     | (go_at_call 24; (with_reducible refine (bounded_any _ _ _).mono ?_); rintro e w1 ⟨rfl, hb⟩; obtain ⟨hc, hf⟩ := bcell hb; have hz := hb.size; (try simp at hz); have hB := step_below (B := w.heap.size) (w := w) (by go_grown) (by go_size) hb; have z0 : w.heap.size < w1.heap.size := (by omega); have z1 : w.heap.size + 1 < w1.heap.size := (by omega); have z2 : w.heap.size + 1 + 1 < w1.heap.size := (by omega))
     | (go_at_call 21; (with_reducible refine (plus_any _ _ _ _ _ h1 h2).mono ?_); rintro e w1 ⟨rfl, hb⟩; obtain ⟨hc, hf⟩ := bcell hb; have hz := hb.size; (try simp at hz); have hB := step_below (B := w.heap.size) (w := w) (by go_grown) (by go_size) hb; have z0 : w.heap.size < w1.heap.size := (by omega); have z1 : w.heap.size + 1 < w1.heap.size := (by omega); have z2 : w.heap.size + 1 + 1 < w1.heap.size := (by omega))
     | (go_at_call 27; (with_reducible refine (rwithin_any _ _ _).mono ?_); rintro e w1 ⟨rfl, hb⟩; obtain ⟨hc, hf⟩ := bcell hb; have hz := hb.size; (try simp at hz); have hB := step_below (B := w.heap.size) (w := w) (by go_grown) (by go_size) hb; have z0 : w.heap.size < w1.heap.size := (by omega); have z1 : w.heap.size + 1 < w1.heap.size := (by omega); have z2 : w.heap.size + 1 + 1 < w1.heap.size := (by omega)))
    refine bodyPost_ret (by simp [results, Try.results20, go_sem, *]; try rfl) rfl ?_
    exact ⟨by simp [resE, resP, h1, h2, *], by go_grown⟩

theorem combine_minus (a b c d : Int) (w : World) :
    Calls Try.prog 20 #[.agg #[.int .i64 a, .int .i64 b], .agg #[.int .i64 c, .int .i64 d], .func (.func 23) #[] #[]] w fun e w' => e = .returned (.tuple #[.agg #[.int .i64 (sumX a b c d (a-c) (b-d) (a-c)), .int .i64 (sumX a b c d (a-c) (b-d) (b-d))], .int .i64 (sumE a b c d (a-c) (b-d))]) ∧ Below w.heap.size w w' := by
  unfold sumX sumE
  cases h1 : okV a b <;> cases h2 : okV c d <;> (simp only [Bool.and_true, Bool.and_false]) <;>
  · go_enter Try.func20, Try.ntmps20
    go_wp2_with (first
     | (go_at_call 24; (with_reducible refine (bounded_any _ _ _).mono ?_); rintro e w1 ⟨rfl, hb⟩; obtain ⟨hc, hf⟩ := bcell hb; have hz := hb.size; (try simp at hz); have hB := step_below (B := w.heap.size) (w := w) (by go_grown) (by go_size) hb; have z0 : w.heap.size < w1.heap.size := (by omega); have z1 : w.heap.size + 1 < w1.heap.size := (by omega); have z2 : w.heap.size + 1 + 1 < w1.heap.size := (by omega))
     | (go_at_call 23; (with_reducible refine (minus_any _ _ _ _ _ h1 h2).mono ?_); rintro e w1 ⟨rfl, hb⟩; obtain ⟨hc, hf⟩ := bcell hb; have hz := hb.size; (try simp at hz); have hB := step_below (B := w.heap.size) (w := w) (by go_grown) (by go_size) hb; have z0 : w.heap.size < w1.heap.size := (by omega); have z1 : w.heap.size + 1 < w1.heap.size := (by omega); have z2 : w.heap.size + 1 + 1 < w1.heap.size := (by omega))
     | (go_at_call 27; (with_reducible refine (rwithin_any _ _ _).mono ?_); rintro e w1 ⟨rfl, hb⟩; obtain ⟨hc, hf⟩ := bcell hb; have hz := hb.size; (try simp at hz); have hB := step_below (B := w.heap.size) (w := w) (by go_grown) (by go_size) hb; have z0 : w.heap.size < w1.heap.size := (by omega); have z1 : w.heap.size + 1 < w1.heap.size := (by omega); have z2 : w.heap.size + 1 + 1 < w1.heap.size := (by omega)))
    refine bodyPost_ret (by simp [results, Try.results20, go_sem, *]; try rfl) rfl ?_
    exact ⟨by simp [resE, resP, h1, h2, *], by go_grown⟩

theorem Add_any (a b c d : Int) (w : World) :
    Calls Try.prog 9 #[.agg #[.int .i64 a, .int .i64 b], .agg #[.int .i64 c, .int .i64 d]] w fun e w' => e = .returned (.tuple #[.agg #[.int .i64 (sumX a b c d (a+c) (b+d) (a+c)), .int .i64 (sumX a b c d (a+c) (b+d) (b+d))], .int .i64 (sumE a b c d (a+c) (b+d))]) ∧ Below w.heap.size w w' := by
  go_enter Try.func9, Try.ntmps9
  go_wp2_with (go_at_call 20; (with_reducible refine (combine_plus _ _ _ _ _).mono ?_); rintro e w1 ⟨rfl, hb⟩; obtain ⟨hc, hf⟩ := bcell hb; have hz := hb.size; (try simp at hz); have hB := step_below (B := w.heap.size) (w := w) (by go_grown) (by go_size) hb; have z0 : w.heap.size < w1.heap.size := (by omega); have z1 : w.heap.size + 1 < w1.heap.size := (by omega); have z2 : w.heap.size + 1 + 1 < w1.heap.size := (by omega))
  refine bodyPost_ret (by simp [results, Try.results9, go_sem, hc]; try rfl) rfl ?_
  exact ⟨rfl, by go_grown⟩

theorem Sub_any (a b c d : Int) (w : World) :
    Calls Try.prog 11 #[.agg #[.int .i64 a, .int .i64 b], .agg #[.int .i64 c, .int .i64 d]] w fun e w' => e = .returned (.tuple #[.agg #[.int .i64 (sumX a b c d (a-c) (b-d) (a-c)), .int .i64 (sumX a b c d (a-c) (b-d) (b-d))], .int .i64 (sumE a b c d (a-c) (b-d))]) ∧ Below w.heap.size w w' := by
  go_enter Try.func11, Try.ntmps11
  go_wp2_with (go_at_call 20; (with_reducible refine (combine_minus _ _ _ _ _).mono ?_); rintro e w1 ⟨rfl, hb⟩; obtain ⟨hc, hf⟩ := bcell hb; have hz := hb.size; (try simp at hz); have hB := step_below (B := w.heap.size) (w := w) (by go_grown) (by go_size) hb; have z0 : w.heap.size < w1.heap.size := (by omega); have z1 : w.heap.size + 1 < w1.heap.size := (by omega); have z2 : w.heap.size + 1 + 1 < w1.heap.size := (by omega))
  refine bodyPost_ret (by simp [results, Try.results11, go_sem, hc]; try rfl) rfl ?_
  exact ⟨rfl, by go_grown⟩

def fitB (a b c d : Int) : Bool := decide (a ≤ c) && decide (b ≤ d)

theorem Fits_any (a b c d : Int) (w : World) :
    Calls Try.prog 13 #[.agg #[.int .i64 a, .int .i64 b], .agg #[.int .i64 c, .int .i64 d]] w fun e w' => e = .returned (.bool (fitB a b c d)) ∧ Below w.heap.size w w' := by
  unfold fitB
  by_cases h1 : a ≤ c <;> by_cases h2 : b ≤ d <;> simp only [h1, h2, decide_true, decide_false, Bool.and_true, Bool.and_false, Bool.and_self] <;>
  · go_enter Try.func13, Try.ntmps13
    go_wp2
    go_ret
    exact ⟨rfl, by go_grown⟩

end Go.Proofs.Ytlifgdhieelihaa
