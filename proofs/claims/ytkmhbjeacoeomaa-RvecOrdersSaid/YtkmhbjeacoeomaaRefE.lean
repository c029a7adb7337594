/- dispatchref1: load, Order: contracts. -/
import Derived.Test.YtkmhbjeacoeomaaRefD
namespace Go.Proofs.Ytkmhbjeacoeomaa
open Go.RowKit

set_option maxHeartbeats 4000000 in
theorem rload_any (a b p q : Int) (w : World) (ha : Bd a) (hb : Bd b) (hp : Bd p) (hq : Bd q) :
    Calls Try.prog 39 #[.agg #[.int .i64 a, .int .i64 b], .agg #[.int .i64 p, .int .i64 q]] w fun e w' => e = .returned (.agg #[.int .i64 (ldA a b p q), .int .i64 (ldP a b p q)]) ∧ Below w.heap.size w w' := by
  go_enter Try.func39, Try.ntmps39
  go_upto_region 1 with fail
  go_cut [5, 6] (fun s5 s6 wx => ∃ g h : Nat, s5 = .pointer (some ⟨g, 0, none⟩) ∧ s6 = .pointer (some ⟨h, 0, none⟩) ∧
    wx.cell? ⟨g, 0, none⟩ = some (.int .i64 a) ∧ wx.cell? ⟨g, 1, none⟩ = some (.int .i64 p) ∧ wx.cell? ⟨h, 0, none⟩ = some (.int .i64 b) ∧ wx.cell? ⟨h, 1, none⟩ = some (.int .i64 q) ∧
    wx.cell? ⟨w.heap.size + 1 + 1, 0, none⟩ = some (.int .i64 0) ∧ wx.cell? ⟨w.heap.size + 1 + 1, 1, none⟩ = some (.int .i64 0) ∧ wx.frozen? ⟨w.heap.size + 1 + 1, 0, none⟩ = false ∧ wx.frozen? ⟨w.heap.size + 1 + 1, 1, none⟩ = false ∧ w.heap.size + 1 + 1 < wx.heap.size ∧ Below w.heap.size w wx)
  case first =>
    refine at_world (fun Wa hWa => ?_)
    have c4 : Wa.cell? ⟨w.heap.size + 1 + 1, 0, none⟩ = some (.int .i64 0) := by rw [hWa]; simp [go_sem]
    have c5 : Wa.cell? ⟨w.heap.size + 1 + 1, 1, none⟩ = some (.int .i64 0) := by rw [hWa]; simp [go_sem]
    have f4 : ∀ o, Wa.frozen? ⟨w.heap.size + 1 + 1, o, none⟩ = false := by intro o; rw [hWa]; simp [go_sem]
    have hBa : Below w.heap.size w Wa := by rw [hWa]; go_grown
    have hn : Wa.heap.size = w.heap.size + 3 := by rw [hWa]; simp
    have HR := Lib.hid (fun (w' : World) (h : Below Wa.heap.size Wa w') => (⟨bcell_some h c4, bcell_some h c5, (h.frozen (p := ⟨w.heap.size + 1 + 1, 0, none⟩) (by rw [hn]; simp)).trans (f4 0), (h.frozen (p := ⟨w.heap.size + 1 + 1, 1, none⟩) (by rw [hn]; simp)).trans (f4 1), by have := h.size; omega, hBa.trans (h.mono (by omega))⟩ :
      w'.cell? ⟨w.heap.size + 1 + 1, 0, none⟩ = some (.int .i64 0) ∧ w'.cell? ⟨w.heap.size + 1 + 1, 1, none⟩ = some (.int .i64 0) ∧ w'.frozen? ⟨w.heap.size + 1 + 1, 0, none⟩ = false ∧ w'.frozen? ⟨w.heap.size + 1 + 1, 1, none⟩ = false ∧ w.heap.size + 1 + 1 < w'.heap.size ∧ Below w.heap.size w w'))
    clear hn c4 c5 f4 hBa
    subst hWa
    refine at_world (fun W0 hW0 => ?_)
    have hB0 : Below w.heap.size w W0 := by rw [hW0]; first | (with_reducible assumption) | go_grown
    have cc0 : W0.cell? ⟨w.heap.size, 0, none⟩ = some (.int .i64 a) := by rw [hW0]; first | (with_reducible assumption) | (simp [go_sem]; done) | (simp [go_sem, *]; done)
    have cc1 : W0.cell? ⟨w.heap.size, 1, none⟩ = some (.int .i64 b) := by rw [hW0]; first | (with_reducible assumption) | (simp [go_sem]; done) | (simp [go_sem, *]; done)
    have cc2 : W0.cell? ⟨w.heap.size + 1, 0, none⟩ = some (.int .i64 p) := by rw [hW0]; first | (with_reducible assumption) | (simp [go_sem]; done) | (simp [go_sem, *]; done)
    have cc3 : W0.cell? ⟨w.heap.size + 1, 1, none⟩ = some (.int .i64 q) := by rw [hW0]; first | (with_reducible assumption) | (simp [go_sem]; done) | (simp [go_sem, *]; done)
    have HC := Lib.hid (fun (w' : World) (h : Below W0.heap.size W0 w') => (⟨bcell_some h cc0, bcell_some h cc1, bcell_some h cc2, bcell_some h cc3⟩ : w'.cell? ⟨w.heap.size, 0, none⟩ = some (.int .i64 a) ∧ w'.cell? ⟨w.heap.size, 1, none⟩ = some (.int .i64 b) ∧ w'.cell? ⟨w.heap.size + 1, 0, none⟩ = some (.int .i64 p) ∧ w'.cell? ⟨w.heap.size + 1, 1, none⟩ = some (.int .i64 q)))
    have HB0 := Lib.hid hB0; have HW0 := Lib.hid hW0; clear hW0 hB0 cc0 cc1 cc2 cc3
    go_region_held3 (fun w' => Below W0.heap.size W0 w' ∧ W0.heap.size ≤ w'.heap.size ∧ Below w.heap.size w w' ∧ w.heap.size ≤ w'.heap.size ∧ w'.cell? ⟨w.heap.size, 0, none⟩ = some (.int .i64 a) ∧ w'.cell? ⟨w.heap.size, 1, none⟩ = some (.int .i64 b) ∧ w'.cell? ⟨w.heap.size + 1, 0, none⟩ = some (.int .i64 p) ∧ w'.cell? ⟨w.heap.size + 1, 1, none⟩ = some (.int .i64 q))
      ((refine keepT HB0.out HC.out ?_; go_split_ands; (go_grown; done))) (fail)
    all_goals
      obtain rfl := HW0.out
      go_split_ands
      go_wp2_with fail
      go_meet
      refine ⟨_, _, rfl, rfl, ?_, ?_, ?_, ?_, HR.out _ ?_⟩
      · (first | (simp [go_sem]; done) | (simp [go_sem, *]; done))
      · (first | (simp [go_sem]; done) | (simp [go_sem, *]; done))
      · (first | (simp [go_sem]; done) | (simp [go_sem, *]; done))
      · (first | (simp [go_sem]; done) | (simp [go_sem, *]; done))
      · (go_grown; done)
  case rest =>
    obtain ⟨g, h, rfl, rfl, c0, c1, c2, c3, c4, c5, f4, f5, hn, hB⟩ := hcut
    have lg : g < wc.heap.size := World.block_lt_of_cell? wc _ c0
    have lh : h < wc.heap.size := World.block_lt_of_cell? wc _ c2
    by_cases hlt : ordI a p b q < 0
    · have eA : ldA a b p q = b := if_pos hlt
      have eN : ldP a b p q = q := if_pos hlt
      have HE := Lib.hid (And.intro eA eN); clear eA eN
      go_wp2_with (go_at_call 38; refine (rorder_any _ _ _ _ _ ha hp hb hq).mono ?_; rintro e w1 ⟨rfl, hb1⟩; obtain ⟨hc, hf⟩ := bcell hb1; have hB1 := step_below hB hB.size hb1; have hs1 := hB1.size)
      refine bodyPost_ret (by simp [results, Try.results39, go_sem, hc, *]; try rfl) rfl ?_
      exact ⟨by rw [HE.out.1, HE.out.2], by go_grown⟩
    · have eA : ldA a b p q = a := if_neg hlt
      have eN : ldP a b p q = p := if_neg hlt
      have HE := Lib.hid (And.intro eA eN); clear eA eN
      go_wp2_with (go_at_call 38; refine (rorder_any _ _ _ _ _ ha hp hb hq).mono ?_; rintro e w1 ⟨rfl, hb1⟩; obtain ⟨hc, hf⟩ := bcell hb1; have hB1 := step_below hB hB.size hb1; have hs1 := hB1.size)
      refine bodyPost_ret (by simp [results, Try.results39, go_sem, hc, *]; try rfl) rfl ?_
      exact ⟨by rw [HE.out.1, HE.out.2], by go_grown⟩

set_option maxHeartbeats 4000000 in
theorem rOrder_yes (a0 a1 p0 p1 b0 b1 q0 q1 : Int) (w : World) (h1 : okV a0 a1 = true) (h2 : okV p0 p1 = true) (h3 : okV b0 b1 = true) (h4 : okV q0 q1 = true) :
    Calls Try.prog 24 #[.agg #[.int .i64 a0, .int .i64 a1], .agg #[.int .i64 p0, .int .i64 p1], .agg #[.int .i64 b0, .int .i64 b1], .agg #[.int .i64 q0, .int .i64 q1]] w fun e w' => e = .returned (.int .i64 (ordV a0 a1 p0 p1 b0 b1 q0 q1)) ∧ Below w.heap.size w w' := by
  obtain ⟨ha0, ha1⟩ := okV_true h1
  obtain ⟨hp0, hp1⟩ := okV_true h2
  obtain ⟨hb0, hb1⟩ := okV_true h3
  obtain ⟨hq0, hq1⟩ := okV_true h4
  go_enter Try.func24, Try.ntmps24
  go_upto_region 3 with (go_at_call 29; (with_reducible refine (may_any _ _ _).mono ?_); rintro e w1 ⟨rfl, hb⟩; obtain ⟨hc, hf⟩ := bcell hb; have hz := hb.size; (try simp at hz); have hB := step_below (B := w.heap.size) (w := w) (by go_grown) (by go_size) hb; have z0 : w.heap.size < w1.heap.size := (by omega); have z1 : w.heap.size + 1 < w1.heap.size := (by omega); have z2 : w.heap.size + 1 + 1 < w1.heap.size := (by omega); have z3 : w.heap.size + 1 + 1 + 1 < w1.heap.size := (by omega))
  refine at_world (fun W0 hW0 => ?_)
  have hB0 : Below w.heap.size w W0 := by rw [hW0]; first | (with_reducible assumption) | go_grown
  have cc0 : W0.cell? ⟨w.heap.size, 0, none⟩ = some (.int .i64 a0) := by rw [hW0]; first | (with_reducible assumption) | (simp [go_sem]; done) | (simp [go_sem, *]; done)
  have cc1 : W0.cell? ⟨w.heap.size, 1, none⟩ = some (.int .i64 a1) := by rw [hW0]; first | (with_reducible assumption) | (simp [go_sem]; done) | (simp [go_sem, *]; done)
  have cc2 : W0.cell? ⟨w.heap.size + 1, 0, none⟩ = some (.int .i64 p0) := by rw [hW0]; first | (with_reducible assumption) | (simp [go_sem]; done) | (simp [go_sem, *]; done)
  have cc3 : W0.cell? ⟨w.heap.size + 1, 1, none⟩ = some (.int .i64 p1) := by rw [hW0]; first | (with_reducible assumption) | (simp [go_sem]; done) | (simp [go_sem, *]; done)
  have cc4 : W0.cell? ⟨w.heap.size + 1 + 1, 0, none⟩ = some (.int .i64 b0) := by rw [hW0]; first | (with_reducible assumption) | (simp [go_sem]; done) | (simp [go_sem, *]; done)
  have cc5 : W0.cell? ⟨w.heap.size + 1 + 1, 1, none⟩ = some (.int .i64 b1) := by rw [hW0]; first | (with_reducible assumption) | (simp [go_sem]; done) | (simp [go_sem, *]; done)
  have cc6 : W0.cell? ⟨w.heap.size + 1 + 1 + 1, 0, none⟩ = some (.int .i64 q0) := by rw [hW0]; first | (with_reducible assumption) | (simp [go_sem]; done) | (simp [go_sem, *]; done)
  have cc7 : W0.cell? ⟨w.heap.size + 1 + 1 + 1, 1, none⟩ = some (.int .i64 q1) := by rw [hW0]; first | (with_reducible assumption) | (simp [go_sem]; done) | (simp [go_sem, *]; done)
  have HC := Lib.hid (fun (w' : World) (h : Below W0.heap.size W0 w') => (⟨bcell_some h cc0, bcell_some h cc1, bcell_some h cc2, bcell_some h cc3, bcell_some h cc4, bcell_some h cc5, bcell_some h cc6, bcell_some h cc7⟩ : w'.cell? ⟨w.heap.size, 0, none⟩ = some (.int .i64 a0) ∧ w'.cell? ⟨w.heap.size, 1, none⟩ = some (.int .i64 a1) ∧ w'.cell? ⟨w.heap.size + 1, 0, none⟩ = some (.int .i64 p0) ∧ w'.cell? ⟨w.heap.size + 1, 1, none⟩ = some (.int .i64 p1) ∧ w'.cell? ⟨w.heap.size + 1 + 1, 0, none⟩ = some (.int .i64 b0) ∧ w'.cell? ⟨w.heap.size + 1 + 1, 1, none⟩ = some (.int .i64 b1) ∧ w'.cell? ⟨w.heap.size + 1 + 1 + 1, 0, none⟩ = some (.int .i64 q0) ∧ w'.cell? ⟨w.heap.size + 1 + 1 + 1, 1, none⟩ = some (.int .i64 q1)))
  have HB0 := Lib.hid hB0; have HW0 := Lib.hid hW0; clear hW0 hB0 cc0 cc1 cc2 cc3 cc4 cc5 cc6 cc7
  go_region_held3 (fun w' => Below W0.heap.size W0 w' ∧ W0.heap.size ≤ w'.heap.size ∧ Below w.heap.size w w' ∧ w.heap.size ≤ w'.heap.size ∧ w'.cell? ⟨w.heap.size, 0, none⟩ = some (.int .i64 a0) ∧ w'.cell? ⟨w.heap.size, 1, none⟩ = some (.int .i64 a1) ∧ w'.cell? ⟨w.heap.size + 1, 0, none⟩ = some (.int .i64 p0) ∧ w'.cell? ⟨w.heap.size + 1, 1, none⟩ = some (.int .i64 p1) ∧ w'.cell? ⟨w.heap.size + 1 + 1, 0, none⟩ = some (.int .i64 b0) ∧ w'.cell? ⟨w.heap.size + 1 + 1, 1, none⟩ = some (.int .i64 b1) ∧ w'.cell? ⟨w.heap.size + 1 + 1 + 1, 0, none⟩ = some (.int .i64 q0) ∧ w'.cell? ⟨w.heap.size + 1 + 1 + 1, 1, none⟩ = some (.int .i64 q1))
    ((refine keepT HB0.out HC.out ?_; go_split_ands; (go_grown; done))) (first
    | (go_at_call 39; (with_reducible refine (rload_any a0 a1 p0 p1 _ ha0 ha1 hp0 hp1).mono ?_); rintro e w1 ⟨rfl, hB1⟩; have hT := held_step (by assumption) hB1)
    | (go_at_call 39; (with_reducible refine (rload_any b0 b1 q0 q1 _ hb0 hb1 hq0 hq1).mono ?_); rintro e w1 ⟨rfl, hB1⟩; have hT := held_step (by assumption) hB1)
    | (go_at_call 38; (with_reducible refine (rorder_any _ _ _ _ _ (ldA_bd ha0 ha1) (ldP_bd hp0 hp1) (ldA_bd hb0 hb1) (ldP_bd hq0 hq1)).mono ?_); rintro e w1 ⟨rfl, hB1⟩; have hT := held_step (by assumption) hB1))
  go_split_ands
  go_wp2
  go_ret
  exact ⟨rfl, by go_grown⟩

theorem rOrder_any (a0 a1 p0 p1 b0 b1 q0 q1 : Int) (w : World) :
    Calls Try.prog 24 #[.agg #[.int .i64 a0, .int .i64 a1], .agg #[.int .i64 p0, .int .i64 p1], .agg #[.int .i64 b0, .int .i64 b1], .agg #[.int .i64 q0, .int .i64 q1]] w fun e w' => e = .returned (.int .i64 (orderF a0 a1 p0 p1 b0 b1 q0 q1)) ∧ Below w.heap.size w w' := by
  unfold orderF
  cases h1 : okV a0 a1
  · simp only [Bool.false_eq_true, if_false]
    go_enter Try.func24, Try.ntmps24
    go_wp2_with (go_at_call 29; (with_reducible refine (may_any _ _ _).mono ?_); rintro e w1 ⟨rfl, hb⟩; obtain ⟨hc, hf⟩ := bcell hb; have hz := hb.size; (try simp at hz); have hB := step_below (B := w.heap.size) (w := w) (by go_grown) (by go_size) hb; have z0 : w.heap.size < w1.heap.size := (by omega); have z1 : w.heap.size + 1 < w1.heap.size := (by omega); have z2 : w.heap.size + 1 + 1 < w1.heap.size := (by omega); have z3 : w.heap.size + 1 + 1 + 1 < w1.heap.size := (by omega))
    go_ret
    exact ⟨rfl, by go_grown⟩
  cases h2 : okV p0 p1
  · simp only [Bool.false_eq_true, if_false, if_true]
    go_enter Try.func24, Try.ntmps24
    go_wp2_with (go_at_call 29; (with_reducible refine (may_any _ _ _).mono ?_); rintro e w1 ⟨rfl, hb⟩; obtain ⟨hc, hf⟩ := bcell hb; have hz := hb.size; (try simp at hz); have hB := step_below (B := w.heap.size) (w := w) (by go_grown) (by go_size) hb; have z0 : w.heap.size < w1.heap.size := (by omega); have z1 : w.heap.size + 1 < w1.heap.size := (by omega); have z2 : w.heap.size + 1 + 1 < w1.heap.size := (by omega); have z3 : w.heap.size + 1 + 1 + 1 < w1.heap.size := (by omega))
    go_ret
    exact ⟨rfl, by go_grown⟩
  cases h3 : okV b0 b1
  · simp only [Bool.false_eq_true, if_false, if_true]
    go_enter Try.func24, Try.ntmps24
    go_wp2_with (go_at_call 29; (with_reducible refine (may_any _ _ _).mono ?_); rintro e w1 ⟨rfl, hb⟩; obtain ⟨hc, hf⟩ := bcell hb; have hz := hb.size; (try simp at hz); have hB := step_below (B := w.heap.size) (w := w) (by go_grown) (by go_size) hb; have z0 : w.heap.size < w1.heap.size := (by omega); have z1 : w.heap.size + 1 < w1.heap.size := (by omega); have z2 : w.heap.size + 1 + 1 < w1.heap.size := (by omega); have z3 : w.heap.size + 1 + 1 + 1 < w1.heap.size := (by omega))
    go_ret
    exact ⟨rfl, by go_grown⟩
  cases h4 : okV q0 q1
  · simp only [Bool.false_eq_true, if_false, if_true]
    go_enter Try.func24, Try.ntmps24
    go_wp2_with (go_at_call 29; (with_reducible refine (may_any _ _ _).mono ?_); rintro e w1 ⟨rfl, hb⟩; obtain ⟨hc, hf⟩ := bcell hb; have hz := hb.size; (try simp at hz); have hB := step_below (B := w.heap.size) (w := w) (by go_grown) (by go_size) hb; have z0 : w.heap.size < w1.heap.size := (by omega); have z1 : w.heap.size + 1 < w1.heap.size := (by omega); have z2 : w.heap.size + 1 + 1 < w1.heap.size := (by omega); have z3 : w.heap.size + 1 + 1 + 1 < w1.heap.size := (by omega))
    go_ret
    exact ⟨rfl, by go_grown⟩
  exact rOrder_yes a0 a1 p0 p1 b0 b1 q0 q1 w h1 h2 h3 h4

end Go.Proofs.Ytkmhbjeacoeomaa
