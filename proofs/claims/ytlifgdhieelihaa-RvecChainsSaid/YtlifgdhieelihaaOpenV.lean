/- A slice of vectors, opened: its length and the numbers of its cells. -/
import Derived.Test.YtlifgdhieelihaaRows
import Derived.ChangeSlices
import Derived.ChangeSame
import Derived.Deep.Slices
import Derived.Lib.SmallJoins
namespace Go.Proofs.Ytlifgdhieelihaa
open Go.ChangeShapes Go.WideShapes Go.ChangeAt Go.RowKit Go.Joins Go.Deep

theorem addV_block (a : Addr) (n : Nat) : (a.add n).block = a.block := by unfold Addr.add; split <;> rfl
theorem addV_add (a : Addr) (i j : Nat) : (a.add i).add j = a.add (i + j) := by rw [add_add]

/-- Rows of two numbers. -/
def RdV (w : World) (v : Value) (n : Nat) (f : Nat → Int) : Prop :=
  ∃ A c, v = .slice A n c ∧ n ≤ c ∧ c ≤ maxLen ∧ (0 < n → ∃ a, A = some a ∧ a.block < w.heap.size ∧ ∀ i, i < n → w.cell? (a.add (i * 2)) = some (.int .i64 (f (i * 2))) ∧ w.cell? (a.add (i * 2 + 1)) = some (.int .i64 (f (i * 2 + 1))))

section
variable {H : Type} {enc : TypeId × Value → H} {P : Program} {w : World} {base : Nat} {spare : Nat → Bool} {held : Bool} {r : Reach} {b0 : Nat}

theorem open_vecs {t e q : TypeId} {f0 f1 : Field} {v : Value} {d : DataW H} {ps : List MemPlace} (ht : P.underlying t = some (.slice e)) (he : P.underlying e = some (.struct #[f0, f1])) (hc : P.cellsOf e = 2)
    (t0 : f0.type = q) (t1 : f1.type = q) (o0 : f0.offset = 0) (o1 : f1.offset = 1) (hq : P.underlying q = some (.int .i64)) (hcq : P.cellsOf q = 1)
    (hv : Value.okWide P w r b0 t v) (h : DataW.Trod enc P w base spare held t v d ps) : ∃ n f, RdV w v n f := by
  obtain ⟨a0, len0, cap0, rfl⟩ := okWide_slice ht hv
  obtain ⟨fuel, hf⟩ := h
  simp only [Value.cells] at hf
  rcases open_slice ht hf with ⟨h0, _⟩ | ⟨a, len, cap, m, n, D, Pl, h0, hb, hl, hm, hmm, _, hx⟩
  · have h0 : a0 = none ∧ len0 = 0 ∧ cap0 = 0 := by simpa using h0
    obtain ⟨rfl, rfl, rfl⟩ := h0
    exact ⟨0, fun _ => 0, none, 0, rfl, Nat.le_refl _, by simp [maxLen], fun h => absurd h (by omega)⟩
  · have h0 : a0 = some a ∧ len0 = len ∧ cap0 = cap := by simpa using h0
    obtain ⟨rfl, rfl, rfl⟩ := h0
    have hlm : len0 ≤ m := by rw [hmm]; split <;> omega
    have each : ∀ i, i < m → ∃ q : Int × Int, w.cell? (a.add (i * 2)) = some (.int .i64 q.1) ∧ w.cell? (a.add (i * 2 + 1)) = some (.int .i64 q.2) := by
      intro i hi
      obtain ⟨cs', h1, h2⟩ := hx i hi
      rw [hc] at h1
      obtain ⟨_, hlen, hcell⟩ := World.cells?_some h1
      obtain ⟨y0, y1, k, hxy, _, u0, u1⟩ := trod_struct2 he h2
      match cs', hlen with
      | [v0, v1], _ =>
        rw [t0, o0, hcq] at u0
        rw [t1, o1, hcq] at u1
        simp only [List.drop, List.take] at u0 u1
        obtain ⟨q, e1, d1, _⟩ := DataW.trod_int hq u0
        obtain ⟨p, e2, d2, _⟩ := DataW.trod_int hq u1
        simp only [List.cons.injEq, and_true] at e1 e2
        subst e1; subst e2
        have c0 := hcell 0 (by omega)
        have c1 := hcell 1 (by omega)
        rw [add_add] at c0 c1
        exact ⟨(q, p), by simpa using c0, by simpa using c1⟩
    obtain ⟨q, hq⟩ := choose_lt each
    refine ⟨len0, fun j => if j % 2 = 0 then (q (j / 2)).1 else (q (j / 2)).2, some a, cap0, rfl, hl, hm, fun hn => ⟨a, rfl, ?_, fun i hi => ?_⟩⟩
    · have := World.block_lt_of_cell? w _ (hq 0 (by omega)).1
      rwa [addV_block] at this
    · have h := hq i (by omega)
      have e0 : i * 2 % 2 = 0 := by omega
      have e1 : i * 2 / 2 = i := by omega
      have e2 : ¬ (i * 2 + 1) % 2 = 0 := by omega
      have e3 : (i * 2 + 1) / 2 = i := by omega
      simp only [e0, e1, e2, e3, if_true, if_false]
      exact h
end
end Go.Proofs.Ytlifgdhieelihaa
