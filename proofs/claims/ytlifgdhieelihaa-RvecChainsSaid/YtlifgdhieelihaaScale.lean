/- rvec: of, each, Scale: contracts. -/
import Derived.Test.YtlifgdhieelihaaLeafB
namespace Go.Proofs.Ytlifgdhieelihaa
open Go.RowKit

def scI (n bp : Int) : Int := n / 10000 * bp + n % 10000 * bp / 10000

theorem scI_parts {n bp : Int} (hn : 0 ≤ n ∧ n ≤ 1125899906842624) (hb : 0 ≤ bp ∧ bp ≤ 1000000) :
    (0 ≤ n / 10000 * bp ∧ n / 10000 * bp ≤ 112589990684000000) ∧ (0 ≤ n % 10000 * bp ∧ n % 10000 * bp ≤ 10000000000) := by
  obtain ⟨n0, n1⟩ := hn
  obtain ⟨b0, b1⟩ := hb
  have q0 : 0 ≤ n / 10000 := by omega
  have q1 : n / 10000 ≤ 112589990684 := by omega
  have r0 : 0 ≤ n % 10000 := by omega
  have r1 : n % 10000 ≤ 10000 := by omega
  refine ⟨⟨Int.mul_nonneg q0 b0, ?_⟩, ⟨Int.mul_nonneg r0 b0, ?_⟩⟩
  · calc n / 10000 * bp ≤ 112589990684 * bp := Int.mul_le_mul_of_nonneg_right q1 b0
      _ ≤ 112589990684 * 1000000 := Int.mul_le_mul_of_nonneg_left b1 (by decide)
      _ = 112589990684000000 := by decide
  · calc n % 10000 * bp ≤ 10000 * bp := Int.mul_le_mul_of_nonneg_right r1 b0
      _ ≤ 10000 * 1000000 := Int.mul_le_mul_of_nonneg_left b1 (by decide)
      _ = 10000000000 := by decide

theorem of_any (bp n : Int) (w : World) (hn : 0 ≤ n ∧ n ≤ 1125899906842624) (hb : 0 ≤ bp ∧ bp ≤ 1000000) :
    Calls Try.prog 29 #[.int .i64 bp, .int .i64 n] w fun e w' => e = .returned (.int .i64 (scI n bp)) ∧ w = w' := by
  obtain ⟨⟨p0, p1⟩, r0, r1⟩ := scI_parts hn hb
  obtain ⟨n0, n1⟩ := hn
  obtain ⟨b0, b1⟩ := hb
  unfold scI
  go_enter Try.func29, Try.ntmps29
  go_wp2
  go_ret
  exact ⟨rfl, rfl⟩

set_option maxHeartbeats 1000000 in
theorem each_any (a b bp : Int) (w : World) (ha : 0 ≤ a ∧ a ≤ 1125899906842624) (hb : 0 ≤ b ∧ b ≤ 1125899906842624) (hp : 0 ≤ bp ∧ bp ≤ 1000000) :
    Calls Try.prog 28 #[.agg #[.int .i64 a, .int .i64 b], .func (.func 29) #[.int .i64 bp] #[]] w fun e w' => e = .returned (.agg #[.int .i64 (scI a bp), .int .i64 (scI b bp)]) ∧ Below w.heap.size w w' := by
  go_enter Try.func28, Try.ntmps28
  go_wp2
  go_region_held3 (fun w' => w'.cell? ⟨w.heap.size, 0, none⟩ = some (.int .i64 a) ∧ w'.cell? ⟨w.heap.size, 1, none⟩ = some (.int .i64 b)) (go_keep) (first
    | (go_at_call 29; (with_reducible refine (of_any _ a _ ha hp).mono ?_); rintro e w1 ⟨rfl, rfl⟩)
    | (go_at_call 29; (with_reducible refine (of_any _ b _ hb hp).mono ?_); rintro e w1 ⟨rfl, rfl⟩))
  go_wp2
  refine bodyPost_ret (by simp [results, Try.results28, go_sem]; try rfl) rfl ?_
  exact ⟨rfl, by go_grown⟩

def okS (a b bp : Int) : Bool := okV a b && decide (0 ≤ bp) && decide (bp ≤ 1000000)
def scX (a b bp p : Int) : Int := resP (okS a b bp) (scI a bp) (scI b bp) (scI p bp)
def scE (a b bp : Int) : Int := resE (okS a b bp) (scI a bp) (scI b bp)

set_option maxHeartbeats 1000000 in
theorem Scale_any (a b bp : Int) (w : World) :
    Calls Try.prog 17 #[.agg #[.int .i64 a, .int .i64 b], .int .i64 bp] w fun e w' => e = .returned (.tuple #[.agg #[.int .i64 (scX a b bp a), .int .i64 (scX a b bp b)], .int .i64 (scE a b bp)]) ∧ Below w.heap.size w w' := by
  cases h1 : okV a b
  · have hX : ∀ p, scX a b bp p = 0 := fun p => by simp [scX, okS, h1, resP]
    have hE : scE a b bp = 1 := by simp [scE, okS, h1, resE]
    rw [hX, hX, hE]; clear hX hE
    go_enter Try.func17, Try.ntmps17
    go_wp2_with (go_at_call 24; (with_reducible refine (bounded_any _ _ _).mono ?_); rintro e w1 ⟨rfl, hb⟩; obtain ⟨hc, hf⟩ := bcell hb; have hz := hb.size; (try simp at hz); have hB := step_below (B := w.heap.size) (w := w) (by go_grown) (by go_size) hb; have z0 : w.heap.size < w1.heap.size := (by omega); have z1 : w.heap.size + 1 < w1.heap.size := (by omega))
    refine bodyPost_ret (by simp [results, Try.results17, go_sem, *]; try rfl) rfl ?_
    exact ⟨rfl, by go_grown⟩
  · by_cases h2 : 0 ≤ bp
    · by_cases h3 : bp ≤ 1000000
      · have hX : ∀ p, scX a b bp p = resP true (scI a bp) (scI b bp) (scI p bp) := fun p => by simp [scX, okS, h1, h2, h3]
        have hE : scE a b bp = resE true (scI a bp) (scI b bp) := by simp [scE, okS, h1, h2, h3]
        rw [hX, hX, hE]; clear hX hE
        obtain ⟨ha, hb'⟩ := okV_true h1
        go_enter Try.func17, Try.ntmps17
        go_wp2_with (first
         | (go_at_call 24; (with_reducible refine (bounded_any _ _ _).mono ?_); rintro e w1 ⟨rfl, hb⟩; obtain ⟨hc, hf⟩ := bcell hb; have hz := hb.size; (try simp at hz); have hB := step_below (B := w.heap.size) (w := w) (by go_grown) (by go_size) hb; have z0 : w.heap.size < w1.heap.size := (by omega); have z1 : w.heap.size + 1 < w1.heap.size := (by omega))
         | (go_at_call 28; (with_reducible refine (each_any _ _ _ _ ha hb' ⟨h2, h3⟩).mono ?_); rintro e w1 ⟨rfl, hb⟩; obtain ⟨hc, hf⟩ := bcell hb; have hz := hb.size; (try simp at hz); have hB := step_below (B := w.heap.size) (w := w) (by go_grown) (by go_size) hb; have z0 : w.heap.size < w1.heap.size := (by omega); have z1 : w.heap.size + 1 < w1.heap.size := (by omega))
         | (go_at_call 27; (with_reducible refine (rwithin_any _ _ _).mono ?_); rintro e w1 ⟨rfl, hb⟩; obtain ⟨hc, hf⟩ := bcell hb; have hz := hb.size; (try simp at hz); have hB := step_below (B := w.heap.size) (w := w) (by go_grown) (by go_size) hb; have z0 : w.heap.size < w1.heap.size := (by omega); have z1 : w.heap.size + 1 < w1.heap.size := (by omega)))
        refine bodyPost_ret (by simp [results, Try.results17, go_sem, *]; try rfl) rfl ?_
        exact ⟨rfl, by go_grown⟩
      · have hX : ∀ p, scX a b bp p = 0 := fun p => by simp [scX, okS, h3, resP]
        have hE : scE a b bp = 1 := by simp [scE, okS, h3, resE]
        rw [hX, hX, hE]; clear hX hE
        go_enter Try.func17, Try.ntmps17
        go_wp2_with (go_at_call 24; (with_reducible refine (bounded_any _ _ _).mono ?_); rintro e w1 ⟨rfl, hb⟩; obtain ⟨hc, hf⟩ := bcell hb; have hz := hb.size; (try simp at hz); have hB := step_below (B := w.heap.size) (w := w) (by go_grown) (by go_size) hb; have z0 : w.heap.size < w1.heap.size := (by omega); have z1 : w.heap.size + 1 < w1.heap.size := (by omega))
        refine bodyPost_ret (by simp [results, Try.results17, go_sem, *]; try rfl) rfl ?_
        exact ⟨rfl, by go_grown⟩
    · have hX : ∀ p, scX a b bp p = 0 := fun p => by simp [scX, okS, h2, resP]
      have hE : scE a b bp = 1 := by simp [scE, okS, h2, resE]
      rw [hX, hX, hE]; clear hX hE
      go_enter Try.func17, Try.ntmps17
      go_wp2_with (go_at_call 24; (with_reducible refine (bounded_any _ _ _).mono ?_); rintro e w1 ⟨rfl, hb⟩; obtain ⟨hc, hf⟩ := bcell hb; have hz := hb.size; (try simp at hz); have hB := step_below (B := w.heap.size) (w := w) (by go_grown) (by go_size) hb; have z0 : w.heap.size < w1.heap.size := (by omega); have z1 : w.heap.size + 1 < w1.heap.size := (by omega))
      refine bodyPost_ret (by simp [results, Try.results17, go_sem, *]; try rfl) rfl ?_
      exact ⟨rfl, by go_grown⟩

end Go.Proofs.Ytlifgdhieelihaa
