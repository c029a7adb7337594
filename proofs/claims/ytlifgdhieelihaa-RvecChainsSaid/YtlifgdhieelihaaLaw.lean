/- dispatchlaw1: within, part, vec, known, times: contracts. -/
import Derived.Test.YtlifgdhieelihaaScale
namespace Go.Proofs.Ytlifgdhieelihaa
open Go.RowKit

theorem emod_neg {a n : Int} (hn : 0 < n) (h : a.tmod n < 0) : a % n = a.tmod n + n := by
  have h2 := @Int.tmod_eq_emod a n
  have h0 : ¬ 0 ≤ a := fun h0 => by have := Int.tmod_nonneg n h0; omega
  rw [h2]; rw [h2] at h
  split at h
  · have := Int.emod_nonneg a (show n ≠ 0 by omega); omega
  · rw [if_neg (by assumption)]; omega
theorem emod_pos {a n : Int} (hn : 0 < n) (h : ¬ a.tmod n < 0) : a % n = a.tmod n := by
  have h2 := @Int.tmod_eq_emod a n
  rw [h2]; rw [h2] at h
  split at h
  · rw [if_pos (by assumption)]; omega
  · have := Int.emod_lt_of_pos a hn; omega

theorem within_any (a n : Int) (w : World) (hn : 0 < n ∧ n ≤ 1125899906842625) :
    Calls Try.prog 16 #[.int .i64 a, .int .i64 n] w fun e w' => e = .returned (.int .i64 (a % n)) ∧ w = w' := by
  obtain ⟨n0, n1⟩ := hn
  have hz : (n == 0) = false := by simp; omega
  have l1 : a.tmod n < n := Int.tmod_lt_of_pos a n0
  have l2 : -n < a.tmod n := by have := Int.lt_tmod_of_pos a n0; omega
  by_cases hneg : a.tmod n < 0
  · rw [emod_neg n0 hneg]
    go_enter Try.func16, Try.ntmps16
    go_wp2
    go_ret
    exact ⟨rfl, rfl⟩
  · rw [emod_pos n0 hneg]
    go_enter Try.func16, Try.ntmps16
    go_wp2
    go_ret
    exact ⟨rfl, rfl⟩

theorem part_any (a : Int) (w : World) :
    Calls Try.prog 19 #[.int .i64 a] w fun e w' => e = .returned (.int .i64 (a % 1125899906842625)) ∧ w = w' := by
  go_enter Try.func19, Try.ntmps19
  go_wp2_with (go_at_call 16; (with_reducible refine (within_any _ _ _ ⟨by decide, by decide⟩).mono ?_); rintro e w1 ⟨rfl, rfl⟩)
  go_ret
  exact ⟨rfl, rfl⟩

def vp (how m : Int) : Int := if how.tmod 2 = 0 then m % 5 else m % 1125899906842625

theorem vp_bd (how m : Int) : 0 ≤ vp how m ∧ vp how m ≤ 1125899906842624 := by
  unfold vp; split <;> omega

theorem okV_vp (how m c : Int) : okV (vp how m) (vp how c) = true := by
  have h1 := vp_bd how m; have h2 := vp_bd how c
  simp [okV, okI]; omega

set_option maxHeartbeats 2000000 in
theorem vec_any (m c how : Int) (w : World) :
    Calls Try.prog 8 #[.agg #[.int .i64 m, .int .i64 c], .int .i64 how] w fun e w' => e = .returned (.agg #[.int .i64 (vp how m), .int .i64 (vp how c)]) ∧ Below w.heap.size w w' := by
  by_cases he : how.tmod 2 = 0
  · have e1 : ∀ x, vp how x = x % 5 := fun x => if_pos he
    rw [e1, e1]; clear e1
    have eb : (how.tmod 2 == 0) = true := by simpa using he
    clear he
    go_enter Try.func8, Try.ntmps8
    go_wp2
    go_region_held3 (fun w' => w'.cell? ⟨w.heap.size, 0, none⟩ = some (.int .i64 m) ∧ w'.cell? ⟨w.heap.size, 1, none⟩ = some (.int .i64 c)) (go_keep) (first
      | (go_at_call 16; (with_reducible refine (within_any m _ _ ⟨by decide, by decide⟩).mono ?_); rintro e w1 ⟨rfl, rfl⟩)
      | (go_at_call 16; (with_reducible refine (within_any c _ _ ⟨by decide, by decide⟩).mono ?_); rintro e w1 ⟨rfl, rfl⟩))
    go_wp2
    refine bodyPost_ret (by simp [results, Try.results8, go_sem]; try rfl) rfl ?_
    exact ⟨rfl, by go_grown⟩
  · have e1 : ∀ x, vp how x = x % 1125899906842625 := fun x => if_neg he
    rw [e1, e1]; clear e1
    have eb : (how.tmod 2 == 0) = false := by simpa using he
    clear he
    go_enter Try.func8, Try.ntmps8
    go_wp2
    go_region_held3 (fun w' => w'.cell? ⟨w.heap.size, 0, none⟩ = some (.int .i64 m) ∧ w'.cell? ⟨w.heap.size, 1, none⟩ = some (.int .i64 c)) (go_keep) (first
      | (go_at_call 19; (with_reducible refine (part_any m _).mono ?_); rintro e w1 ⟨rfl, rfl⟩)
      | (go_at_call 19; (with_reducible refine (part_any c _).mono ?_); rintro e w1 ⟨rfl, rfl⟩))
    go_wp2
    refine bodyPost_ret (by simp [results, Try.results8, go_sem]; try rfl) rfl ?_
    exact ⟨rfl, by go_grown⟩

theorem known_vals : scX 1000 3 5000 1000 = 500 ∧ scX 1000 3 5000 3 = 1 ∧ scE 1000 3 5000 = 0 := by decide

theorem known_any (w : World) :
    Calls Try.prog 7 #[] w fun e w' => e = .returned (.bool true) ∧ Below w.heap.size w w' := by
  go_enter Try.func7, Try.ntmps7
  go_wp2_with (go_at_call 17; (with_reducible refine (Scale_any _ _ _ _).mono ?_); rw [known_vals.1, known_vals.2.1, known_vals.2.2]; rintro e w1 ⟨rfl, hB1⟩; have hs1 := hB1.size)
  go_ret
  exact ⟨by simp, by go_grown⟩

theorem times_any (m c k : Int) (w : World) (hm : 0 ≤ m * k ∧ m * k ≤ 9223372036854775807) (hc : 0 ≤ c * k ∧ c * k ≤ 9223372036854775807) :
    Calls Try.prog 18 #[.agg #[.int .i64 m, .int .i64 c], .int .i64 k] w fun e w' => e = .returned (.agg #[.int .i64 (m * k), .int .i64 (c * k)]) ∧ Below w.heap.size w w' := by
  obtain ⟨m0, m1⟩ := hm
  obtain ⟨c0, c1⟩ := hc
  go_enter Try.func18, Try.ntmps18
  go_wp2
  refine bodyPost_ret (by simp [results, Try.results18, go_sem]; try rfl) rfl ?_
  exact ⟨rfl, by go_grown⟩

end Go.Proofs.Ytlifgdhieelihaa
