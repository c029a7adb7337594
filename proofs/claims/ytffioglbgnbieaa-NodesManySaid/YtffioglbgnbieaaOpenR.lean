/- Arguments that are slices of slices of numbers, or of strings, as lists. -/
import Derived.Test.YtffioglbgnbieaaOpen
import Derived.Deep.Slices
namespace Go.Proofs.Ytffioglbgnbieaa
open Go.ChangeShapes Go.WideShapes Go.ChangeAt Go.RowKit Go.Deep

section
variable {H : Type} {enc : TypeId × Value → H} {P : Program} {w : World} {base : Nat} {spare : Nat → Bool} {held : Bool} {r : Reach} {b0 : Nat}

theorem rd_of_fn {a : Addr} {len cap m : Nat} {V : Nat → Value} (hl : len ≤ cap) (hm : cap ≤ maxLen) (hlm : len ≤ m) (hV : ∀ i, i < m → w.cell? (a.add i) = some (V i)) :
    Rd w (.slice (some a) len cap) ((List.range len).map V) := by
  refine ⟨some a, cap, by simp, by simpa using hl, hm, fun hn => ⟨a, rfl, ?_, fun j u hu => ?_⟩⟩
  · have := World.block_lt_of_cell? w _ (hV 0 (by simp at hn; omega))
    rwa [add_block] at this
  · have hj : j < len := by
      have := (List.getElem?_eq_some_iff.1 hu).1
      simpa using this
    rw [hV j (by omega), ← hu]
    simp [hj]

/-- A slice of numbers, by its own reading. -/
theorem open_rdF {t e : TypeId} {k : IntKind} {fuel : Nat} {v : Value} {x : DataW H × List MemPlace} (ht : P.underlying t = some (.slice e)) (he : P.underlying e = some (.int k)) (hc : P.cellsOf e = 1)
    (hf : DataW.trod enc P w base spare held fuel t [v] = some x) : ∃ zs : List Int, Rd w v (zs.map (Value.int k)) ∧ ∀ z ∈ zs, (Lit.int k z).wf = true := by
  rcases open_ints ht he hc hf with ⟨h0, _⟩ | ⟨a, len, cap, zs, h0, _, hl, hm, hz, _, hcell, hwf⟩
  · have h0 : v = .slice none 0 0 := by simpa using h0
    subst h0
    exact ⟨[], Rd.nil w, by simp⟩
  · have h0 : v = .slice (some a) len cap := by simpa using h0
    subst h0
    have hlz : len ≤ zs.length := by rw [hz]; split <;> omega
    refine ⟨zs.take len, ?_, fun z hz' => hwf z (List.mem_of_mem_take hz')⟩
    have h := rd_of_fn hl hm hlz hcell
    have e : (List.range len).map (fun i => Value.int k (zs.getD i 0)) = (zs.take len).map (Value.int k) := by
      apply List.ext_getElem?
      intro i
      by_cases hi : i < len
      · simp [hi, List.getD, List.getElem?_eq_getElem (show i < zs.length by omega), List.getElem?_take]
      · simp [hi, List.getElem?_take]
    rw [← e]
    exact h

/-- Slices of numbers, one by one. -/
theorem open_rows {t e q : TypeId} {k : IntKind} {v : Value} {d : DataW H} {ps : List MemPlace} (ht : P.underlying t = some (.slice e)) (he : P.underlying e = some (.slice q)) (hq : P.underlying q = some (.int k)) (ce : P.cellsOf e = 1) (cq : P.cellsOf q = 1)
    (hv : Value.okWide P w r b0 t v) (h : DataW.Trod enc P w base spare held t v d ps) : ∃ rows : List Value, Rd w v rows ∧ ∀ u ∈ rows, ∃ zs : List Int, Rd w u (zs.map (Value.int k)) ∧ ∀ z ∈ zs, (Lit.int k z).wf = true := by
  obtain ⟨a0, len0, cap0, rfl⟩ := okWide_slice ht hv
  obtain ⟨fuel, hf⟩ := h
  simp only [Value.cells] at hf
  rcases open_slice1 ht ce hf with ⟨h0, _⟩ | ⟨a, len, cap, m, n, V, D, Pl, h0, _, hl, hm, hmm, _, hx⟩
  · have h0 : a0 = none ∧ len0 = 0 ∧ cap0 = 0 := by simpa using h0
    obtain ⟨rfl, rfl, rfl⟩ := h0
    exact ⟨[], Rd.nil w, by simp⟩
  · have h0 : a0 = some a ∧ len0 = len ∧ cap0 = cap := by simpa using h0
    obtain ⟨rfl, rfl, rfl⟩ := h0
    have hlm : len0 ≤ m := by rw [hmm]; split <;> omega
    refine ⟨_, rd_of_fn hl hm hlm (fun i hi => (hx i hi).1), fun u hu => ?_⟩
    simp only [List.mem_map, List.mem_range] at hu
    obtain ⟨i, hi, rfl⟩ := hu
    exact open_rdF he hq cq (hx i (by omega)).2

/-- Rows of bytes. -/
theorem open_brows {t e q : TypeId} {v : Value} {d : DataW H} {ps : List MemPlace} (ht : P.underlying t = some (.slice e)) (he : P.underlying e = some (.slice q)) (hq : P.underlying q = some (.int .u8)) (ce : P.cellsOf e = 1) (cq : P.cellsOf q = 1)
    (hv : Value.okWide P w r b0 t v) (h : DataW.Trod enc P w base spare held t v d ps) : ∃ rows : List Value, Rd w v rows ∧ ∀ u ∈ rows, ∃ l : List UInt8, Rd w u (bvs l) := by
  obtain ⟨rows, h1, h2⟩ := open_rows ht he hq ce cq hv h
  refine ⟨rows, h1, fun u hu => ?_⟩
  obtain ⟨zs, h3, h4⟩ := h2 u hu
  obtain ⟨l, hl⟩ := bytes_of zs h4
  exact ⟨l, hl ▸ h3⟩

/-- Strings. -/
theorem open_strs {t e : TypeId} {v : Value} {d : DataW H} {ps : List MemPlace} (ht : P.underlying t = some (.slice e)) (he : P.underlying e = some .string) (ce : P.cellsOf e = 1)
    (hv : Value.okWide P w r b0 t v) (h : DataW.Trod enc P w base spare held t v d ps) : ∃ ss : List ByteArray, Rd w v (ss.map Value.string) ∧ ∀ s ∈ ss, s.size ≤ maxLen := by
  obtain ⟨a0, len0, cap0, rfl⟩ := okWide_slice ht hv
  obtain ⟨fuel, hf⟩ := h
  simp only [Value.cells] at hf
  rcases open_slice1 ht ce hf with ⟨h0, _⟩ | ⟨a, len, cap, m, n, V, D, Pl, h0, _, hl, hm, hmm, _, hx⟩
  · have h0 : a0 = none ∧ len0 = 0 ∧ cap0 = 0 := by simpa using h0
    obtain ⟨rfl, rfl, rfl⟩ := h0
    exact ⟨[], Rd.nil w, by simp⟩
  · have h0 : a0 = some a ∧ len0 = len ∧ cap0 = cap := by simpa using h0
    obtain ⟨rfl, rfl, rfl⟩ := h0
    have hlm : len0 ≤ m := by rw [hmm]; split <;> omega
    have each : ∀ i, i < m → ∃ s : ByteArray, V i = .string s ∧ s.size ≤ maxLen := fun i hi => by
      obtain ⟨s, e1, _, h2⟩ := DataW.trod_string he (hx i hi).2
      exact ⟨s, by simpa using e1, h2⟩
    obtain ⟨f, hf⟩ := choose_lt each
    have hV : ∀ i, i < m → w.cell? (a.add i) = some (.string (f i)) := fun i hi => by rw [← (hf i hi).1]; exact (hx i hi).1
    have h := rd_of_fn (V := fun i => .string (f i)) hl hm hlm hV
    refine ⟨(List.range len0).map f, by rw [List.map_map]; exact h, fun s hs => ?_⟩
    simp only [List.mem_map, List.mem_range] at hs
    obtain ⟨i, hi, rfl⟩ := hs
    exact (hf i (by omega)).2
end
end Go.Proofs.Ytffioglbgnbieaa
