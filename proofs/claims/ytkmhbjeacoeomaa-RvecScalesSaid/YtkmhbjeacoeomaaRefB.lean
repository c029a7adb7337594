/- dispatchref1: Scale: contract. -/
import Derived.Test.YtkmhbjeacoeomaaRefA
namespace Go.Proofs.Ytkmhbjeacoeomaa
open Go.RowKit

set_option maxHeartbeats 4000000 in
theorem rScale_yes (a b bp : Int) (w : World) (h1 : okV a b = true) (h2 : 0 ≤ bp) (h3 : bp ≤ 1000000) :
    Calls Try.prog 22 #[.agg #[.int .i64 a, .int .i64 b], .int .i64 bp] w fun e w' => e = .returned (.tuple #[.agg #[.int .i64 (resP true (scI a bp) (scI b bp) (scI a bp)), .int .i64 (resP true (scI a bp) (scI b bp) (scI b bp))], .int .i64 (resE true (scI a bp) (scI b bp))]) ∧ Below w.heap.size w w' := by
  obtain ⟨ha, hb'⟩ := okV_true h1
  cases h4 : okV (scI a bp) (scI b bp) <;> (simp only [resP, resE, h4]; simp only [Bool.and_true, Bool.and_false, if_true, Bool.false_eq_true, if_false]) <;>
  · go_enter Try.func22, Try.ntmps22
    go_upto_region 3 with (go_at_call 29; (with_reducible refine (may_any _ _ _).mono ?_); rintro e w1 ⟨rfl, hb⟩; obtain ⟨hc, hf⟩ := bcell hb; have hz := hb.size; (try simp at hz); have hB := step_below (B := w.heap.size) (w := w) (by go_grown) (by go_size) hb; have z0 : w.heap.size < w1.heap.size := (by omega); have z1 : w.heap.size + 1 < w1.heap.size := (by omega))
    go_cut [6] (fun s6 wx => ∃ g : Nat, s6 = .pointer (some ⟨g, 0, none⟩) ∧ wx.cell? ⟨g, 0, none⟩ = some (.int .i64 (scI a bp)) ∧ wx.cell? ⟨g, 1, none⟩ = some (.int .i64 (scI b bp)) ∧
      wx.cell? ⟨w.heap.size + 1, 0, none⟩ = some (.int .i64 0) ∧ wx.cell? ⟨w.heap.size + 1, 1, none⟩ = some (.int .i64 0) ∧ wx.frozen? ⟨w.heap.size + 1, 0, none⟩ = false ∧ wx.frozen? ⟨w.heap.size + 1, 1, none⟩ = false ∧ w.heap.size + 1 < wx.heap.size ∧ Below w.heap.size w wx)
    case first =>
      have d0 : w1.cell? ⟨w.heap.size + 1, 0, none⟩ = some (.int .i64 0) := by simp [go_sem, *]
      have d1 : w1.cell? ⟨w.heap.size + 1, 1, none⟩ = some (.int .i64 0) := by simp [go_sem, *]
      have f0 : w1.frozen? ⟨w.heap.size + 1, 0, none⟩ = false := by simp [go_sem, *]
      have f1 : w1.frozen? ⟨w.heap.size + 1, 1, none⟩ = false := by simp [go_sem, *]
      have HW : Hid (∀ w', Below w1.heap.size w1 w' → (w'.cell? ⟨w.heap.size + 1, 0, none⟩ = some (.int .i64 0) ∧ w'.cell? ⟨w.heap.size + 1, 1, none⟩ = some (.int .i64 0) ∧ w'.frozen? ⟨w.heap.size + 1, 0, none⟩ = false ∧ w'.frozen? ⟨w.heap.size + 1, 1, none⟩ = false ∧ w.heap.size + 1 < w'.heap.size ∧ Below w.heap.size w w')) :=
        fun w' h => ⟨bcell_some h d0, bcell_some h d1, (h.frozen (p := ⟨w.heap.size + 1, 0, none⟩) z1).trans f0, (h.frozen (p := ⟨w.heap.size + 1, 1, none⟩) z1).trans f1, Nat.lt_of_lt_of_le z1 h.size, hB.trans (h.mono hB.size)⟩
      refine at_world (fun W0 hW0 => ?_)
      have hB0 : Below w.heap.size w W0 := by rw [hW0]; first | (with_reducible assumption) | go_grown
      have cc0 : W0.cell? ⟨w.heap.size, 0, none⟩ = some (.int .i64 a) := by rw [hW0]; first | (with_reducible assumption) | (simp [go_sem]; done) | (simp [go_sem, *]; done)
      have cc1 : W0.cell? ⟨w.heap.size, 1, none⟩ = some (.int .i64 b) := by rw [hW0]; first | (with_reducible assumption) | (simp [go_sem]; done) | (simp [go_sem, *]; done)
      have HC := Lib.hid (fun (w' : World) (h : Below W0.heap.size W0 w') => (⟨bcell_some h cc0, bcell_some h cc1⟩ : w'.cell? ⟨w.heap.size, 0, none⟩ = some (.int .i64 a) ∧ w'.cell? ⟨w.heap.size, 1, none⟩ = some (.int .i64 b)))
      have HB0 := Lib.hid hB0; have HW0 := Lib.hid hW0; clear hW0 hB0 cc0 cc1
      go_region_held3 (fun w' => Below W0.heap.size W0 w' ∧ W0.heap.size ≤ w'.heap.size ∧ Below w.heap.size w w' ∧ w.heap.size ≤ w'.heap.size ∧ w'.cell? ⟨w.heap.size, 0, none⟩ = some (.int .i64 a) ∧ w'.cell? ⟨w.heap.size, 1, none⟩ = some (.int .i64 b))
        ((refine keepT HB0.out HC.out ?_; go_split_ands; (go_grown; done))) (first
        | (go_at_call 35; (with_reducible refine (rscale_any a bp _ ha ⟨h2, h3⟩).mono ?_); rintro e wx ⟨rfl, rfl⟩)
        | (go_at_call 35; (with_reducible refine (rscale_any b bp _ hb' ⟨h2, h3⟩).mono ?_); rintro e wx ⟨rfl, rfl⟩))
      all_goals
        obtain rfl := HW0.out
        go_split_ands
        go_wp2_with fail
        go_meet
        refine ⟨_, rfl, ?_, ?_, HW.out _ ?_⟩
        · (first | (simp [go_sem]; done) | (simp [go_sem, *]; done))
        · (first | (simp [go_sem]; done) | (simp [go_sem, *]; done))
        · (go_grown; done)
    case rest =>
      obtain ⟨g, rfl, c0, c1, d0, d1, f0, f1, hn, hBx⟩ := hcut
      have lg : g < wc.heap.size := World.block_lt_of_cell? wc _ c0
      have hs := hBx.size
      go_wp2_with (go_at_call 29; (with_reducible refine (may_any _ _ _).mono ?_); rintro e w2 ⟨rfl, hb2⟩; obtain ⟨hc2, hf2⟩ := bcell hb2; have hB2 := step_below hBx hBx.size hb2)
      refine bodyPost_ret (by simp [results, Try.results22, go_sem, *]; try rfl) rfl ?_
      exact ⟨rfl, by go_grown⟩

theorem rScale_any (a b bp : Int) (w : World) :
    Calls Try.prog 22 #[.agg #[.int .i64 a, .int .i64 b], .int .i64 bp] w fun e w' => e = .returned (.tuple #[.agg #[.int .i64 (scX a b bp a), .int .i64 (scX a b bp b)], .int .i64 (scE a b bp)]) ∧ Below w.heap.size w w' := by
  cases h1 : okV a b
  · have hX : ∀ p, scX a b bp p = 0 := fun p => by simp [scX, okS, h1, resP]
    have hE : scE a b bp = 1 := by simp [scE, okS, h1, resE]
    rw [hX, hX, hE]; clear hX hE
    go_enter Try.func22, Try.ntmps22
    go_wp2_with (go_at_call 29; (with_reducible refine (may_any _ _ _).mono ?_); rintro e w1 ⟨rfl, hb⟩; obtain ⟨hc, hf⟩ := bcell hb; have hz := hb.size; (try simp at hz); have hB := step_below (B := w.heap.size) (w := w) (by go_grown) (by go_size) hb; have z0 : w.heap.size < w1.heap.size := (by omega); have z1 : w.heap.size + 1 < w1.heap.size := (by omega))
    refine bodyPost_ret (by simp [results, Try.results22, go_sem, *]; try rfl) rfl ?_
    exact ⟨rfl, by go_grown⟩
  · by_cases h2 : 0 ≤ bp
    · by_cases h3 : bp ≤ 1000000
      · have hX : ∀ p, scX a b bp p = resP true (scI a bp) (scI b bp) (scI p bp) := fun p => by simp [scX, okS, h1, h2, h3]
        have hE : scE a b bp = resE true (scI a bp) (scI b bp) := by simp [scE, okS, h1, h2, h3]
        rw [hX, hX, hE]; clear hX hE
        exact rScale_yes a b bp w h1 h2 h3
      · have hX : ∀ p, scX a b bp p = 0 := fun p => by simp [scX, okS, h3, resP]
        have hE : scE a b bp = 1 := by simp [scE, okS, h3, resE]
        rw [hX, hX, hE]; clear hX hE
        go_enter Try.func22, Try.ntmps22
        go_wp2_with (go_at_call 29; (with_reducible refine (may_any _ _ _).mono ?_); rintro e w1 ⟨rfl, hb⟩; obtain ⟨hc, hf⟩ := bcell hb; have hz := hb.size; (try simp at hz); have hB := step_below (B := w.heap.size) (w := w) (by go_grown) (by go_size) hb; have z0 : w.heap.size < w1.heap.size := (by omega); have z1 : w.heap.size + 1 < w1.heap.size := (by omega))
        refine bodyPost_ret (by simp [results, Try.results22, go_sem, *]; try rfl) rfl ?_
        exact ⟨rfl, by go_grown⟩
    · have hX : ∀ p, scX a b bp p = 0 := fun p => by simp [scX, okS, h2, resP]
      have hE : scE a b bp = 1 := by simp [scE, okS, h2, resE]
      rw [hX, hX, hE]; clear hX hE
      go_enter Try.func22, Try.ntmps22
      go_wp2_with (go_at_call 29; (with_reducible refine (may_any _ _ _).mono ?_); rintro e w1 ⟨rfl, hb⟩; obtain ⟨hc, hf⟩ := bcell hb; have hz := hb.size; (try simp at hz); have hB := step_below (B := w.heap.size) (w := w) (by go_grown) (by go_size) hb; have z0 : w.heap.size < w1.heap.size := (by omega); have z1 : w.heap.size + 1 < w1.heap.size := (by omega))
      refine bodyPost_ret (by simp [results, Try.results22, go_sem, *]; try rfl) rfl ?_
      exact ⟨rfl, by go_grown⟩

end Go.Proofs.Ytkmhbjeacoeomaa
