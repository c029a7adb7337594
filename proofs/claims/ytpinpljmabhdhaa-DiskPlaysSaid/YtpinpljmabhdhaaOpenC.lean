/- A slice of calls of a disk, opened. -/
import Derived.Test.YtpinpljmabhdhaaOpenR
import Derived.Deep.Strs
import Derived.ChangeSame
namespace Go.Proofs.Ytpinpljmabhdhaa
open Go.ChangeShapes Go.WideShapes Go.ChangeAt Go.RowKit Go.Deep

/-- One call: what kind, its number, its bytes. -/
structure DCall where
  kind : Int
  n : Int
  v : Value
  b : List UInt8
instance : Inhabited DCall := ⟨⟨0, 0, .slice none 0 0, []⟩⟩

def RdC (w : World) (v : Value) (cs : List DCall) : Prop :=
  ∃ A c, v = .slice A cs.length c ∧ cs.length ≤ c ∧ c ≤ maxLen ∧ (0 < cs.length → ∃ a, A = some a ∧ a.block < w.heap.size ∧ ∀ i (h : i < cs.length), w.cell? (a.add (i * 3)) = some (.int .i64 cs[i].kind) ∧ w.cell? (a.add (i * 3 + 1)) = some (.int .i64 cs[i].n) ∧ w.cell? (a.add (i * 3 + 2)) = some cs[i].v) ∧
    ∀ x ∈ cs, Rd w x.v (bvs x.b) ∧ (Lit.int .i64 x.n).wf = true

section
variable {H : Type} {enc : TypeId × Value → H} {P : Program} {w : World} {base : Nat} {spare : Nat → Bool} {held : Bool} {r : Reach} {b0 : Nat}

theorem open_calls {t e q g u : TypeId} {f0 f1 f2 : Field} {v : Value} {d : DataW H} {ps : List MemPlace} (ht : P.underlying t = some (.slice e)) (he : P.underlying e = some (.struct #[f0, f1, f2])) (hc : P.cellsOf e = 3)
    (t0 : f0.type = q) (t1 : f1.type = q) (t2 : f2.type = g) (o0 : f0.offset = 0) (o1 : f1.offset = 1) (o2 : f2.offset = 2) (hq : P.underlying q = some (.int .i64)) (hg : P.underlying g = some (.slice u)) (hu : P.underlying u = some (.int .u8))
    (hcq : P.cellsOf q = 1) (hcg : P.cellsOf g = 1) (hcu : P.cellsOf u = 1)
    (hv : Value.okWide P w r b0 t v) (h : DataW.Trod enc P w base spare held t v d ps) : ∃ cs, RdC w v cs := by
  obtain ⟨a0, len0, cap0, rfl⟩ := okWide_slice ht hv
  obtain ⟨fuel, hf⟩ := h
  simp only [Value.cells] at hf
  rcases open_slice ht hf with ⟨h0, _⟩ | ⟨a, len, cap, m, n, D, Pl, h0, hb, hl, hm, hmm, _, hx⟩
  · have h0 : a0 = none ∧ len0 = 0 ∧ cap0 = 0 := by simpa using h0
    obtain ⟨rfl, rfl, rfl⟩ := h0
    exact ⟨[], none, 0, rfl, Nat.le_refl _, by simp [maxLen], fun h => absurd h (by simp), by simp⟩
  · have h0 : a0 = some a ∧ len0 = len ∧ cap0 = cap := by simpa using h0
    obtain ⟨rfl, rfl, rfl⟩ := h0
    have hlm : len0 ≤ m := by rw [hmm]; split <;> omega
    have each : ∀ i, i < m → ∃ x : DCall, (w.cell? (a.add (i * 3)) = some (.int .i64 x.kind) ∧ w.cell? (a.add (i * 3 + 1)) = some (.int .i64 x.n) ∧ w.cell? (a.add (i * 3 + 2)) = some x.v) ∧ Rd w x.v (bvs x.b) ∧ (Lit.int .i64 x.n).wf = true := by
      intro i hi
      obtain ⟨cs', h1, h2⟩ := hx i hi
      rw [hc] at h1
      obtain ⟨_, hlen, hcell⟩ := World.cells?_some h1
      obtain ⟨y0, y1, y2, k, hxy, _, u0, u1, u2⟩ := trod_struct3 he h2
      match cs', hlen with
      | [v0, v1, v2], _ =>
        rw [t0, o0, hcq] at u0
        rw [t1, o1, hcq] at u1
        rw [t2, o2, hcg] at u2
        simp only [List.drop, List.take] at u0 u1 u2
        obtain ⟨q, e1, d1, _⟩ := DataW.trod_int hq u0
        obtain ⟨p, e2, d2, wp⟩ := DataW.trod_int hq u1
        simp only [List.cons.injEq, and_true] at e1 e2
        subst e1; subst e2
        obtain ⟨zs, hz1, hz2⟩ := open_rdF hg hu hcu u2
        obtain ⟨l, hl'⟩ := bytes_of zs hz2
        have c0 := hcell 0 (by omega)
        have c1 := hcell 1 (by omega)
        have c2 := hcell 2 (by omega)
        rw [Go.Deep.add_add] at c0 c1 c2
        exact ⟨⟨q, p, v2, l⟩, ⟨by simpa using c0, by simpa using c1, by simpa using c2⟩, hl' ▸ hz1, wp⟩
    obtain ⟨f, hf⟩ := choose_lt each
    refine ⟨(List.range len0).map f, some a, cap0, by simp, by simpa using hl, hm, fun hn => ⟨a, rfl, ?_, fun i hi => ?_⟩, fun x hx => ?_⟩
    · have := World.block_lt_of_cell? w _ (hf 0 (by simp at hn; omega)).1.1
      rwa [add_block] at this
    · simp only [List.length_map, List.length_range] at hi
      have h := (hf i (by omega)).1
      simpa using h
    · simp only [List.mem_map, List.mem_range] at hx
      obtain ⟨i, hi, rfl⟩ := hx
      exact (hf i (by omega)).2
end
end Go.Proofs.Ytpinpljmabhdhaa
