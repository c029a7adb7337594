/- A node that comes in, opened. -/
import Derived.Test.YtffioglbgnbieaaOpenS
import Derived.Lib.SmallJoins
namespace Go.Proofs.Ytffioglbgnbieaa
open Go.RowKit Go.ChangeShapes Go.WideShapes Go.ChangeAt Go.Joins

section
variable {P : Program} {H : Type} {enc : TypeId × Value → H} {w : World} {base : Nat} {spare : Nat → Bool} {held : Bool}
theorem array8 {cs : Array Value} (h : cs.size = 8) : ∃ c0 c1 c2 c3 c4 c5 c6 c7, cs = #[c0, c1, c2, c3, c4, c5, c6, c7] := by
  match cs, h with
  | ⟨[c0, c1, c2, c3, c4, c5, c6, c7]⟩, _ => exact ⟨c0, c1, c2, c3, c4, c5, c6, c7, rfl⟩

theorem open_node {r : Reach} {b0 : Nat} {t tv ti tb : TypeId} {f0 f1 f2 f3 f4 f5 f6 g0 g1 : Field} {v : Value} {d : DataW H} {p : List MemPlace}
    (ht : P.underlying t = some (.struct #[f0, f1, f2, f3, f4, f5, f6])) (hv3 : P.underlying tv = some (.struct #[g0, g1])) (hi : P.underlying ti = some (.int .i64)) (hb : P.underlying tb = some .bool) (hC : P.cellsOf t = 8)
    (ci : P.cellsOf ti = 1) (cb : P.cellsOf tb = 1) (cv : P.cellsOf tv = 2)
    (t0 : f0.type = ti) (t1 : f1.type = ti) (t2 : f2.type = ti) (t3 : f3.type = tv) (t4 : f4.type = ti) (t5 : f5.type = ti) (t6 : f6.type = tb) (s0 : g0.type = ti) (s1 : g1.type = ti)
    (o0 : f0.offset = 0) (o1 : f1.offset = 1) (o2 : f2.offset = 2) (o3 : f3.offset = 3) (o4 : f4.offset = 5) (o5 : f5.offset = 6) (o6 : f6.offset = 7) (q0 : g0.offset = 0) (q1 : g1.offset = 1)
    (hv : Value.okWide P w r b0 t v) (h : DataW.Trod enc P w base spare held t v d p) :
    ∃ (id label rack mem cores seen beat : Int) (up : Bool), v = .agg #[.int .i64 id, .int .i64 label, .int .i64 rack, .int .i64 mem, .int .i64 cores, .int .i64 seen, .int .i64 beat, .bool up] ∧ (Lit.int .i64 id).wf = true := by
  obtain ⟨cs, rfl, hsz⟩ := okWide_struct ht hv
  obtain ⟨c0, c1, c2, c3, c4, c5, c6, c7, rfl⟩ := array8 (hsz.trans hC)
  obtain ⟨fuel, hf⟩ := h
  obtain ⟨xs, n, _, _, _, hl, hx⟩ := DataW.trod_struct ht hf
  have some_of : ∀ i, i < 7 → ∃ y, xs[i]? = some y := fun i hi => ⟨_, List.getElem?_eq_getElem (by simp at hl; omega)⟩
  have h0 := hx 0 f0 rfl
  have h1 := hx 1 f1 rfl
  have h2 := hx 2 f2 rfl
  have h3 := hx 3 f3 rfl
  have h4 := hx 4 f4 rfl
  have h5 := hx 5 f5 rfl
  have h6 := hx 6 f6 rfl
  obtain ⟨y0, e0⟩ := some_of 0 (by omega)
  obtain ⟨y1, e1⟩ := some_of 1 (by omega)
  obtain ⟨y2, e2⟩ := some_of 2 (by omega)
  obtain ⟨y3, e3⟩ := some_of 3 (by omega)
  obtain ⟨y4, e4⟩ := some_of 4 (by omega)
  obtain ⟨y5, e5⟩ := some_of 5 (by omega)
  obtain ⟨y6, e6⟩ := some_of 6 (by omega)
  rw [e0, t0, o0, ci] at h0
  rw [e1, t1, o1, ci] at h1
  rw [e2, t2, o2, ci] at h2
  rw [e3, t3, o3, cv] at h3
  rw [e4, t4, o4, ci] at h4
  rw [e5, t5, o5, ci] at h5
  rw [e6, t6, o6, cb] at h6
  simp only [Value.cells, List.drop, List.take] at h0 h1 h2 h3 h4 h5 h6
  obtain ⟨z0, z1, m, _, _, k0, k1⟩ := trod_struct2 hv3 h3
  rw [s0, q0, ci] at k0
  rw [s1, q1, ci] at k1
  simp only [List.drop, List.take] at k0 k1
  obtain ⟨p0, a0, _, w0⟩ := DataW.trod_int hi h0
  obtain ⟨p1, a1, _, _⟩ := DataW.trod_int hi h1
  obtain ⟨p2, a2, _, _⟩ := DataW.trod_int hi h2
  obtain ⟨p3, a3, _, _⟩ := DataW.trod_int hi k0
  obtain ⟨p4, a4, _, _⟩ := DataW.trod_int hi k1
  obtain ⟨p5, a5, _, _⟩ := DataW.trod_int hi h4
  obtain ⟨p6, a6, _, _⟩ := DataW.trod_int hi h5
  obtain ⟨p7, a7, _⟩ := DataW.trod_bool hb h6
  simp only [List.cons.injEq, and_true] at a0 a1 a2 a3 a4 a5 a6 a7
  subst a0 a1 a2 a3 a4 a5 a6 a7
  exact ⟨p0, p1, p2, p3, p4, p5, p6, p7, rfl, w0⟩
end
end Go.Proofs.Ytffioglbgnbieaa
