/- rvec: Order: contract. -/
import Derived.Test.YtlifgdhieelihaaOrdB
namespace Go.Proofs.Ytlifgdhieelihaa
open Go.RowKit

def ordV (a0 a1 p0 p1 b0 b1 q0 q1 : Int) : Int := cmpI (ldA a0 a1 p0 p1 * ldN b0 b1 q0 q1) (ldA b0 b1 q0 q1 * ldN a0 a1 p0 p1)
def orderF (a0 a1 p0 p1 b0 b1 q0 q1 : Int) : Int :=
  if okV a0 a1 then if okV p0 p1 then if okV b0 b1 then if okV q0 q1 then ordV a0 a1 p0 p1 b0 b1 q0 q1 else 0 else 0 else 0 else 0

theorem ldA_bd {a b p q : Int} (ha : Bd a) (hb : Bd b) : Bd (ldA a b p q) := by
  unfold ldA; split
  · exact hb
  · exact ha
theorem ldP_bd {a b p q : Int} (hp : Bd p) (hq : Bd q) : Bd (ldP a b p q) := by
  unfold ldP; split
  · exact hq
  · exact hp
theorem ldN_bd {a b p q : Int} (hp : Bd p) (hq : Bd q) : Bd (ldN a b p q) := nrm_bd (ldP_bd hp hq)

set_option maxHeartbeats 4000000 in
theorem Order_yes (a0 a1 p0 p1 b0 b1 q0 q1 : Int) (w : World) (h1 : okV a0 a1 = true) (h2 : okV p0 p1 = true) (h3 : okV b0 b1 = true) (h4 : okV q0 q1 = true) :
    Calls Try.prog 15 #[.agg #[.int .i64 a0, .int .i64 a1], .agg #[.int .i64 p0, .int .i64 p1], .agg #[.int .i64 b0, .int .i64 b1], .agg #[.int .i64 q0, .int .i64 q1]] w fun e w' => e = .returned (.int .i64 (ordV a0 a1 p0 p1 b0 b1 q0 q1)) ∧ Below w.heap.size w w' := by
  obtain ⟨ha0, ha1⟩ := okV_true h1
  obtain ⟨hp0, hp1⟩ := okV_true h2
  obtain ⟨hb0, hb1⟩ := okV_true h3
  obtain ⟨hq0, hq1⟩ := okV_true h4
  go_enter Try.func15, Try.ntmps15
  go_upto_region 3 with (go_at_call 24; (with_reducible refine (bounded_any _ _ _).mono ?_); rintro e w1 ⟨rfl, hb⟩; obtain ⟨hc, hf⟩ := bcell hb; have hz := hb.size; (try simp at hz); have hB := step_below (B := w.heap.size) (w := w) (by go_grown) (by go_size) hb; have z0 : w.heap.size < w1.heap.size := (by omega); have z1 : w.heap.size + 1 < w1.heap.size := (by omega); have z2 : w.heap.size + 1 + 1 < w1.heap.size := (by omega); have z3 : w.heap.size + 1 + 1 + 1 < w1.heap.size := (by omega))
  refine at_world (fun W0 hW0 => ?_)
  have hB0 : Below w.heap.size w W0 := by rw [hW0]; first | (with_reducible assumption) | go_grown
  have cc0 : W0.cell? ⟨w.heap.size, 0, none⟩ = some (.int .i64 a0) := by rw [hW0]; first | (with_reducible assumption) | (simp [go_sem]; done) | (simp [go_sem, *]; done)
  have cc1 : W0.cell? ⟨w.heap.size, 1, none⟩ = some (.int .i64 a1) := by rw [hW0]; first | (with_reducible assumption) | (simp [go_sem]; done) | (simp [go_sem, *]; done)
  have cc2 : W0.cell? ⟨w.heap.size + 1, 0, none⟩ = some (.int .i64 p0) := by rw [hW0]; first | (with_reducible assumption) | (simp [go_sem]; done) | (simp [go_sem, *]; done)
  have cc3 : W0.cell? ⟨w.heap.size + 1, 1, none⟩ = some (.int .i64 p1) := by rw [hW0]; first | (with_reducible assumption) | (simp [go_sem]; done) | (simp [go_sem, *]; done)
  have cc4 : W0.cell? ⟨w.heap.size + 1 + 1, 0, none⟩ = some (.int .i64 b0) := by rw [hW0]; first | (with_reducible assumption) | (simp [go_sem]; done) | (simp [go_sem, *]; done)
  have cc5 : W0.cell? ⟨w.heap.size + 1 + 1, 1, none⟩ = some (.int .i64 b1) := by rw [hW0]; first | (with_reducible assumption) | (simp [go_sem]; done) | (simp [go_sem, *]; done)
  have cc6 : W0.cell? ⟨w.heap.size + 1 + 1 + 1, 0, none⟩ = some (.int .i64 q0) := by rw [hW0]; first | (with_reducible assumption) | (simp [go_sem]; done) | (simp [go_sem, *]; done)
  have cc7 : W0.cell? ⟨w.heap.size + 1 + 1 + 1, 1, none⟩ = some (.int .i64 q1) := by rw [hW0]; first | (with_reducible assumption) | (simp [go_sem]; done) | (simp [go_sem, *]; done)
  have HC := Lib.hid (fun (w' : World) (h : Below W0.heap.size W0 w') => (⟨bcell_some h cc0, bcell_some h cc1, bcell_some h cc2, bcell_some h cc3, bcell_some h cc4, bcell_some h cc5, bcell_some h cc6, bcell_some h cc7⟩ : w'.cell? ⟨w.heap.size, 0, none⟩ = some (.int .i64 a0) ∧ w'.cell? ⟨w.heap.size, 1, none⟩ = some (.int .i64 a1) ∧ w'.cell? ⟨w.heap.size + 1, 0, none⟩ = some (.int .i64 p0) ∧ w'.cell? ⟨w.heap.size + 1, 1, none⟩ = some (.int .i64 p1) ∧ w'.cell? ⟨w.heap.size + 1 + 1, 0, none⟩ = some (.int .i64 b0) ∧ w'.cell? ⟨w.heap.size + 1 + 1, 1, none⟩ = some (.int .i64 b1) ∧ w'.cell? ⟨w.heap.size + 1 + 1 + 1, 0, none⟩ = some (.int .i64 q0) ∧ w'.cell? ⟨w.heap.size + 1 + 1 + 1, 1, none⟩ = some (.int .i64 q1)))
  have HB0 := Lib.hid hB0; have HW0 := Lib.hid hW0; clear hW0 hB0 cc0 cc1 cc2 cc3 cc4 cc5 cc6 cc7
  go_region_held3 (fun w' => Below W0.heap.size W0 w' ∧ W0.heap.size ≤ w'.heap.size ∧ Below w.heap.size w w' ∧ w.heap.size ≤ w'.heap.size ∧ w'.cell? ⟨w.heap.size, 0, none⟩ = some (.int .i64 a0) ∧ w'.cell? ⟨w.heap.size, 1, none⟩ = some (.int .i64 a1) ∧ w'.cell? ⟨w.heap.size + 1, 0, none⟩ = some (.int .i64 p0) ∧ w'.cell? ⟨w.heap.size + 1, 1, none⟩ = some (.int .i64 p1) ∧ w'.cell? ⟨w.heap.size + 1 + 1, 0, none⟩ = some (.int .i64 b0) ∧ w'.cell? ⟨w.heap.size + 1 + 1, 1, none⟩ = some (.int .i64 b1) ∧ w'.cell? ⟨w.heap.size + 1 + 1 + 1, 0, none⟩ = some (.int .i64 q0) ∧ w'.cell? ⟨w.heap.size + 1 + 1 + 1, 1, none⟩ = some (.int .i64 q1))
    ((refine keepT HB0.out HC.out ?_; go_split_ands; (go_grown; done))) (first
    | (go_at_call 25; (with_reducible refine (load_any a0 a1 p0 p1 _ ha0 ha1 hp0 hp1).mono ?_); rintro e w1 ⟨rfl, hB1⟩; have hT := held_step (by assumption) hB1)
    | (go_at_call 25; (with_reducible refine (load_any b0 b1 q0 q1 _ hb0 hb1 hq0 hq1).mono ?_); rintro e w1 ⟨rfl, hB1⟩; have hT := held_step (by assumption) hB1)
    | (go_at_call 26; (with_reducible refine (compare_any _ _ _ _ _ (ldA_bd ha0 ha1) (ldN_bd hp0 hp1) (ldA_bd hb0 hb1) (ldN_bd hq0 hq1)).mono ?_); rintro e w1 ⟨rfl, hB1⟩; have hT := held_step (by assumption) hB1))
  go_split_ands
  go_wp2
  go_ret
  exact ⟨rfl, by go_grown⟩

theorem Order_any (a0 a1 p0 p1 b0 b1 q0 q1 : Int) (w : World) :
    Calls Try.prog 15 #[.agg #[.int .i64 a0, .int .i64 a1], .agg #[.int .i64 p0, .int .i64 p1], .agg #[.int .i64 b0, .int .i64 b1], .agg #[.int .i64 q0, .int .i64 q1]] w fun e w' => e = .returned (.int .i64 (orderF a0 a1 p0 p1 b0 b1 q0 q1)) ∧ Below w.heap.size w w' := by
  unfold orderF
  cases h1 : okV a0 a1
  · simp only [Bool.false_eq_true, if_false]
    go_enter Try.func15, Try.ntmps15
    go_wp2_with (go_at_call 24; (with_reducible refine (bounded_any _ _ _).mono ?_); rintro e w1 ⟨rfl, hb⟩; obtain ⟨hc, hf⟩ := bcell hb; have hz := hb.size; (try simp at hz); have hB := step_below (B := w.heap.size) (w := w) (by go_grown) (by go_size) hb; have z0 : w.heap.size < w1.heap.size := (by omega); have z1 : w.heap.size + 1 < w1.heap.size := (by omega); have z2 : w.heap.size + 1 + 1 < w1.heap.size := (by omega); have z3 : w.heap.size + 1 + 1 + 1 < w1.heap.size := (by omega))
    go_ret
    exact ⟨rfl, by go_grown⟩
  cases h2 : okV p0 p1
  · simp only [Bool.false_eq_true, if_false, if_true]
    go_enter Try.func15, Try.ntmps15
    go_wp2_with (go_at_call 24; (with_reducible refine (bounded_any _ _ _).mono ?_); rintro e w1 ⟨rfl, hb⟩; obtain ⟨hc, hf⟩ := bcell hb; have hz := hb.size; (try simp at hz); have hB := step_below (B := w.heap.size) (w := w) (by go_grown) (by go_size) hb; have z0 : w.heap.size < w1.heap.size := (by omega); have z1 : w.heap.size + 1 < w1.heap.size := (by omega); have z2 : w.heap.size + 1 + 1 < w1.heap.size := (by omega); have z3 : w.heap.size + 1 + 1 + 1 < w1.heap.size := (by omega))
    go_ret
    exact ⟨rfl, by go_grown⟩
  cases h3 : okV b0 b1
  · simp only [Bool.false_eq_true, if_false, if_true]
    go_enter Try.func15, Try.ntmps15
    go_wp2_with (go_at_call 24; (with_reducible refine (bounded_any _ _ _).mono ?_); rintro e w1 ⟨rfl, hb⟩; obtain ⟨hc, hf⟩ := bcell hb; have hz := hb.size; (try simp at hz); have hB := step_below (B := w.heap.size) (w := w) (by go_grown) (by go_size) hb; have z0 : w.heap.size < w1.heap.size := (by omega); have z1 : w.heap.size + 1 < w1.heap.size := (by omega); have z2 : w.heap.size + 1 + 1 < w1.heap.size := (by omega); have z3 : w.heap.size + 1 + 1 + 1 < w1.heap.size := (by omega))
    go_ret
    exact ⟨rfl, by go_grown⟩
  cases h4 : okV q0 q1
  · simp only [Bool.false_eq_true, if_false, if_true]
    go_enter Try.func15, Try.ntmps15
    go_wp2_with (go_at_call 24; (with_reducible refine (bounded_any _ _ _).mono ?_); rintro e w1 ⟨rfl, hb⟩; obtain ⟨hc, hf⟩ := bcell hb; have hz := hb.size; (try simp at hz); have hB := step_below (B := w.heap.size) (w := w) (by go_grown) (by go_size) hb; have z0 : w.heap.size < w1.heap.size := (by omega); have z1 : w.heap.size + 1 < w1.heap.size := (by omega); have z2 : w.heap.size + 1 + 1 < w1.heap.size := (by omega); have z3 : w.heap.size + 1 + 1 + 1 < w1.heap.size := (by omega))
    go_ret
    exact ⟨rfl, by go_grown⟩
  exact Order_yes a0 a1 p0 p1 b0 b1 q0 q1 w h1 h2 h3 h4

end Go.Proofs.Ytlifgdhieelihaa
