/- rvec: within, plus, minus, combine, Add, Sub, Fits: contracts. -/
import Derived.Test.YtlifgdhieelihaaLeafA
import Derived.Deep.DeepCutAuto
namespace Go.Proofs.Ytlifgdhieelihaa
open Go.RowKit

theorem bcell {W w1 : World} (hb : Below W.heap.size W w1) : (∀ b o, b < W.heap.size → w1.cell? ⟨b, o, none⟩ = W.cell? ⟨b, o, none⟩) ∧ (∀ b o, b < W.heap.size → w1.frozen? ⟨b, o, none⟩ = W.frozen? ⟨b, o, none⟩) :=
  ⟨fun b o h => hb.cell (p := ⟨b, o, none⟩) h, fun b o h => hb.frozen (p := ⟨b, o, none⟩) h⟩

/-- The world at hand under a name of its own. -/
theorem at_world {P : Program} {code : Code} {Q : Exit → Act → World → Prop} {a : Act} {w : World} (h : ∀ W0, W0 = w → code.wp P Q a W0) : code.wp P Q a w := h w rfl

theorem bcell_some {W w' : World} (h : Below W.heap.size W w') {b o : Nat} {v : Value} (hc : W.cell? ⟨b, o, none⟩ = some v) : w'.cell? ⟨b, o, none⟩ = some v := by
  rw [h.cell (p := ⟨b, o, none⟩) (World.block_lt_of_cell? W _ hc)]; exact hc

theorem keepS {W0 : World} {S2 : World → Prop} (HC : ∀ w', Below W0.heap.size W0 w' → S2 w') {w' : World} (h : Below W0.heap.size W0 w') : Below W0.heap.size W0 w' ∧ W0.heap.size ≤ w'.heap.size ∧ S2 w' := ⟨h, h.size, HC _ h⟩

/-- As keepS, and the way from the call's own beginning. -/
theorem keepT {w W0 : World} {S2 : World → Prop} (hB0 : Below w.heap.size w W0) (HC : ∀ w', Below W0.heap.size W0 w' → S2 w') {w' : World} (h : Below W0.heap.size W0 w') :
    Below W0.heap.size W0 w' ∧ W0.heap.size ≤ w'.heap.size ∧ Below w.heap.size w w' ∧ w.heap.size ≤ w'.heap.size ∧ S2 w' := ⟨h, h.size, hB0.trans (h.mono hB0.size), Nat.le_trans hB0.size h.size, HC _ h⟩

theorem held_step {W0 wp w1 : World} {S3 : Prop} (h : Below W0.heap.size W0 wp ∧ S3) (hb : Below wp.heap.size wp w1) : Below W0.heap.size W0 w1 ∧ W0.heap.size ≤ w1.heap.size :=
  ⟨h.1.trans (hb.mono h.1.size), Nat.le_trans h.1.size hb.size⟩

theorem step_below {B : Nat} {w W w' : World} (h : Below B w W) (hB : B ≤ W.heap.size) (hb : Below W.heap.size W w') : Below B w w' := h.trans (hb.mono hB)

def resE (ok : Bool) (x y : Int) : Int := if ok then (if okV x y then 0 else 11) else 1
def resP (ok : Bool) (x y p : Int) : Int := if ok && okV x y then p else 0

theorem okV_true {a b : Int} (h : okV a b = true) : (0 ≤ a ∧ a ≤ 1125899906842624) ∧ (0 ≤ b ∧ b ≤ 1125899906842624) := by
  simp [okV] at h; exact ⟨okI_true h.1, okI_true h.2⟩

theorem plus_any (a b c d : Int) (w : World) (h1 : okV a b = true) (h2 : okV c d = true) :
    Calls Try.prog 21 #[.agg #[.int .i64 a, .int .i64 b], .agg #[.int .i64 c, .int .i64 d]] w fun e w' => e = .returned (.agg #[.int .i64 (a + c), .int .i64 (b + d)]) ∧ Below w.heap.size w w' := by
  obtain ⟨⟨a0, a1⟩, b0, b1⟩ := okV_true h1
  obtain ⟨⟨c0, c1⟩, d0, d1⟩ := okV_true h2
  clear h1 h2
  go_enter Try.func21, Try.ntmps21
  go_wp2
  go_returns
  exact ⟨rfl, by go_grown⟩

theorem minus_any (a b c d : Int) (w : World) (h1 : okV a b = true) (h2 : okV c d = true) :
    Calls Try.prog 23 #[.agg #[.int .i64 a, .int .i64 b], .agg #[.int .i64 c, .int .i64 d]] w fun e w' => e = .returned (.agg #[.int .i64 (a - c), .int .i64 (b - d)]) ∧ Below w.heap.size w w' := by
  obtain ⟨⟨a0, a1⟩, b0, b1⟩ := okV_true h1
  obtain ⟨⟨c0, c1⟩, d0, d1⟩ := okV_true h2
  clear h1 h2
  go_enter Try.func23, Try.ntmps23
  go_wp2
  go_returns
  exact ⟨rfl, by go_grown⟩

theorem rwithin_any (x y : Int) (w : World) :
    Calls Try.prog 27 #[.agg #[.int .i64 x, .int .i64 y]] w fun e w' => e = .returned (.tuple #[.agg #[.int .i64 (resP true x y x), .int .i64 (resP true x y y)], .int .i64 (resE true x y)]) ∧ Below w.heap.size w w' := by
  cases h : okV x y <;> (simp only [resP, resE, h]; simp only [Bool.and_true, Bool.and_false, if_true, Bool.false_eq_true, if_false]) <;>
  · go_enter Try.func27, Try.ntmps27
    go_wp2_with (go_at_call 24; refine (bounded_any _ _ _).mono ?_; rintro e w' ⟨rfl, hb⟩; obtain ⟨hc, hf⟩ := bcell hb; have hB := step_below (B := w.heap.size) (w := w) (by go_grown) (by go_size) hb)
    refine bodyPost_ret (by simp [results, Try.results27, go_sem, hc]; try rfl) rfl ?_
    exact ⟨rfl, by go_grown⟩

end Go.Proofs.Ytlifgdhieelihaa
