/- A Raw (a number, raw queues) that comes in, opened. -/
import Derived.Test.YtigfoghkndoakaaDoorMakeD
import Derived.Lib.SmallJoins
namespace Go.Proofs.YtigfoghkndoakaaDoor
open Go.ChangeShapes Go.WideShapes Go.ChangeAt Go.RowKit Go.Deep Go.Joins

instance : Inhabited RQ := ⟨⟨.slice none 0 0, [], .slice none 0 0, 0, fun _ _ => 0, 0⟩⟩

section
variable {H : Type} {enc : TypeId × Value → H} {P : Program} {w : World} {base : Nat} {spare : Nat → Bool} {held : Bool} {r : Reach} {b0 : Nat}

/-- As open_structs, of a value met inside another. -/
theorem open_structsF {t e : TypeId} {k fuel : Nat} {v : Value} {x : DataW H × List MemPlace} (ht : P.underlying t = some (.slice e)) (hc : P.cellsOf e = k) (hk : 0 < k) (he : IntsOnly P e k)
    (hf : DataW.trod enc P w base spare held fuel t [v] = some x) : ∃ n f, RdS k w v n f := by
  rcases open_slice ht hf with ⟨h0, _⟩ | ⟨a, len, cap, m, n, D, Pl, h0, hb, hl, hm, hmm, _, hx⟩
  · have h0 : v = .slice none 0 0 := by simpa using h0
    subst h0
    exact ⟨0, fun _ _ => 0, none, 0, rfl, Nat.le_refl _, by simp [maxLen], fun h => absurd h (by omega)⟩
  · have h0 : v = .slice (some a) len cap := by simpa using h0
    subst h0
    have hlm : len ≤ m := by rw [hmm]; split <;> omega
    have each : ∀ i, i < m → ∃ q : Nat → Int, ∀ j, j < k → w.cell? (a.add (i * k + j)) = some (.int .i64 (q j)) := by
      intro i hi
      obtain ⟨cs', h1, h2⟩ := hx i hi
      rw [hc] at h1
      obtain ⟨_, hlen, hcell⟩ := World.cells?_some h1
      obtain ⟨_, hz⟩ := he _ _ _ _ _ _ _ _ _ h2
      refine ⟨fun j => match cs'[j]? with | some (.int _ z) => z | _ => 0, fun j hj => ?_⟩
      obtain ⟨z, hz1, _⟩ := hz j hj
      have c0 := hcell j hj
      rw [Go.Deep.add_add] at c0
      rw [c0, hz1]
      simp only [hz1]
    obtain ⟨q, hq⟩ := choose_lt each
    refine ⟨len, q, some a, cap, rfl, hl, hm, fun hn => ⟨a, rfl, ?_, fun i hi j hj => hq i (by omega) j hj⟩⟩
    have := World.block_lt_of_cell? w _ (hq 0 (by omega) 0 hk)
    rwa [show (a.add (0 * k + 0)).block = a.block by unfold Addr.add; split <;> rfl] at this

theorem raw_off (a : Addr) (i j : Nat) (h : j ≠ 0) : a.add (i * 3 + j) = ⟨(a.add (i * 3)).block, (a.add (i * 3)).off + j, none⟩ := by
  rw [← Go.Deep.add_add]
  generalize a.add (i * 3) = z
  unfold Addr.add
  rw [if_neg h]

theorem open_raws {t e tn tc c ti : TypeId} {f0 f1 f2 : Field} {fuel : Nat} {v : Value} {x : DataW H × List MemPlace} (ht : P.underlying t = some (.slice e)) (he : P.underlying e = some (.struct #[f0, f1, f2])) (hc : P.cellsOf e = 3)
    (t0 : f0.type = tn) (t1 : f1.type = tc) (t2 : f2.type = ti) (o0 : f0.offset = 0) (o1 : f1.offset = 1) (o2 : f2.offset = 2) (hi : P.underlying ti = some (.int .i64)) (hn : P.underlying tn = some (.slice ti)) (hcs : P.underlying tc = some (.slice c))
    (ci : P.cellsOf ti = 1) (cn : P.cellsOf tn = 1) (cc : P.cellsOf tc = 1) (k2 : P.cellsOf c = 2) (hI : IntsOnly P c 2)
    (hf : DataW.trod enc P w base spare held fuel t [v] = some x) : ∃ rs, RdRaw w v rs := by
  rcases open_slice ht hf with ⟨h0, _⟩ | ⟨a, len, cap, m, n, D, Pl, h0, hb, hl, hm, hmm, _, hx⟩
  · have h0 : v = .slice none 0 0 := by simpa using h0
    subst h0
    exact ⟨[], none, 0, rfl, Nat.le_refl _, by simp [maxLen], fun h => absurd h (by simp), by simp⟩
  · have h0 : v = .slice (some a) len cap := by simpa using h0
    subst h0
    have hlm : len ≤ m := by rw [hmm]; split <;> omega
    have each : ∀ i, i < m → ∃ q : RQ, (w.cell? (a.add (i * 3)) = some q.nv ∧ w.cell? (a.add (i * 3 + 1)) = some q.cv ∧ w.cell? (a.add (i * 3 + 2)) = some (.int .i64 q.user)) ∧ Rd w q.nv (q.names.map (Value.int .i64)) ∧ RdS 2 w q.cv q.n q.f := by
      intro i hi'
      obtain ⟨cs', h1, h2⟩ := hx i hi'
      rw [hc] at h1
      obtain ⟨_, hlen, hcell⟩ := World.cells?_some h1
      obtain ⟨y0, y1, y2, k, hxy, _, u0, u1, u2⟩ := trod_struct3 he h2
      match cs', hlen with
      | [v0, v1, v2], _ =>
        rw [t0, o0, cn] at u0
        rw [t1, o1, cc] at u1
        rw [t2, o2, ci] at u2
        simp only [List.drop, List.take] at u0 u1 u2
        obtain ⟨p, e2, d2, wp⟩ := DataW.trod_int hi u2
        simp only [List.cons.injEq, and_true] at e2
        subst e2
        obtain ⟨zs, hz1, _⟩ := open_rdF hn hi ci u0
        obtain ⟨n1, f1', hS⟩ := open_structsF hcs k2 (by decide) hI u1
        have c0 := hcell 0 (by omega)
        have c1 := hcell 1 (by omega)
        have c2 := hcell 2 (by omega)
        rw [Go.Deep.add_add] at c0 c1 c2
        exact ⟨⟨v0, zs, v1, n1, f1', p⟩, ⟨by simpa using c0, by simpa using c1, by simpa using c2⟩, hz1, hS⟩
    obtain ⟨f, hfo⟩ := choose_lt each
    refine ⟨(List.range len).map f, some a, cap, by simp, by simpa using hl, hm, fun hn => ⟨a, rfl, ?_, fun i hi => ?_⟩, fun x hx => ?_⟩
    · have := World.block_lt_of_cell? w _ (hfo 0 (by simp at hn; omega)).1.1
      rwa [show (a.add (0 * 3)).block = a.block by unfold Addr.add; split <;> rfl] at this
    · simp only [List.length_map, List.length_range] at hi
      obtain ⟨h1, h2, h3⟩ := (hfo i (by omega)).1
      rw [raw_off a i 1 (by omega)] at h2
      rw [raw_off a i 2 (by omega)] at h3
      simpa using ⟨h1, h2, h3⟩
    · simp only [List.mem_map, List.mem_range] at hx
      obtain ⟨i, hi, rfl⟩ := hx
      exact (hfo i (by omega)).2

/-- A Raw: a struct of a number and raw queues. -/
theorem open_raw {tr t e tn tc c ti : TypeId} {g0 g1 f0 f1 f2 : Field} {v : Value} {d : DataW H} {ps : List MemPlace} (hr : P.underlying tr = some (.struct #[g0, g1])) (hone : oneCellFields P #[g0, g1] = true) (hC : P.cellsOf tr = 2) (s0 : g0.type = ti) (s1 : g1.type = t)
    (ht : P.underlying t = some (.slice e)) (he : P.underlying e = some (.struct #[f0, f1, f2])) (hc : P.cellsOf e = 3)
    (t0 : f0.type = tn) (t1 : f1.type = tc) (t2 : f2.type = ti) (o0 : f0.offset = 0) (o1 : f1.offset = 1) (o2 : f2.offset = 2) (hi : P.underlying ti = some (.int .i64)) (hn : P.underlying tn = some (.slice ti)) (hcs : P.underlying tc = some (.slice c))
    (ci : P.cellsOf ti = 1) (cn : P.cellsOf tn = 1) (cc : P.cellsOf tc = 1) (k2 : P.cellsOf c = 2) (hI : IntsOnly P c 2)
    (hv : Value.okWide P w r b0 tr v) (h : DataW.Trod enc P w base spare held tr v d ps) : ∃ lab q rs, v = .agg #[.int .i64 lab, q] ∧ (Lit.int .i64 lab).wf = true ∧ RdRaw w q rs := by
  obtain ⟨v0, v1, y0, y1, n, rfl, _, _, h0, h1⟩ := open_agg2 hr hone hC hv h
  rw [s0] at h0
  rw [s1] at h1
  obtain ⟨p, e2, _, wp⟩ := DataW.trod_int hi h0
  simp only [List.cons.injEq, and_true] at e2
  subst e2
  obtain ⟨rs, hrs⟩ := open_raws ht he hc t0 t1 t2 o0 o1 o2 hi hn hcs ci cn cc k2 hI h1
  exact ⟨p, v1, rs, rfl, wp, hrs⟩
end
end Go.Proofs.YtigfoghkndoakaaDoor
