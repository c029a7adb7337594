/- A slice of structs all of whose cells are ints (structs in structs too), opened. -/
import Derived.Test.YtffioglbgnbieaaOpenR
import Derived.Deep.Strs
import Derived.ChangeSame
namespace Go.Proofs.Ytffioglbgnbieaa
open Go.ChangeShapes Go.WideShapes Go.ChangeAt Go.RowKit Go.Deep

/-- All k cells of a value of this type are ints. -/
def IntsOnly (P : Program) (t : TypeId) (k : Nat) : Prop :=
  ∀ (H : Type) (enc : TypeId × Value → H) (w : World) (base : Nat) (spare : Nat → Bool) (held : Bool) (fuel : Nat) (cs : List Value) (x : DataW H × List MemPlace), DataW.trod enc P w base spare held fuel t cs = some x →
    cs.length = k ∧ ∀ j, j < k → ∃ z, cs[j]? = some (.int .i64 z) ∧ (Lit.int .i64 z).wf = true
theorem intsOnly_int {P : Program} {t : TypeId} (ht : P.underlying t = some (.int .i64)) : IntsOnly P t 1 := by
  intro H enc w base spare held fuel cs x h
  obtain ⟨z, rfl, _, hz⟩ := DataW.trod_int ht h
  refine ⟨rfl, fun j hj => ⟨z, ?_, hz⟩⟩
  obtain rfl : j = 0 := by omega
  rfl
theorem intsOnly_struct {P : Program} {t : TypeId} {fs : Array Field} {k : Nat} (ht : P.underlying t = some (.struct fs)) (hk : P.cellsOf t = k)
    (hcov : ∀ j, j < k → ∃ (i : Nat) (f : Field) (kf : Nat), fs[i]? = some f ∧ f.offset ≤ j ∧ j < f.offset + kf ∧ P.cellsOf f.type = kf ∧ IntsOnly P f.type kf) : IntsOnly P t k := by
  intro H enc w base spare held fuel cs x h
  obtain ⟨xs, n, _, rfl, hl, hlen, hf⟩ := DataW.trod_struct ht h
  refine ⟨by rw [hl, hk], fun j hj => ?_⟩
  obtain ⟨i, f, kf, hi, h1, h2, h3, h4⟩ := hcov j hj
  have hfi := hf i f hi
  have hlt : i < xs.length := by rw [hlen]; exact (Array.getElem?_eq_some_iff.1 hi).1
  rw [List.getElem?_eq_getElem hlt, h3] at hfi
  obtain ⟨_, hz⟩ := h4 H enc w base spare held n _ _ hfi
  obtain ⟨z, hz1, hz2⟩ := hz (j - f.offset) (by omega)
  refine ⟨z, ?_, hz2⟩
  rw [List.getElem?_take_of_lt (by omega), List.getElem?_drop] at hz1
  rw [← hz1]
  congr 1
  omega

/-- Rows of structs of k ints. -/
def RdS (k : Nat) (w : World) (v : Value) (n : Nat) (f : Nat → Nat → Int) : Prop :=
  ∃ A c, v = .slice A n c ∧ n ≤ c ∧ c ≤ maxLen ∧ (0 < n → ∃ a, A = some a ∧ a.block < w.heap.size ∧ ∀ i, i < n → ∀ j, j < k → w.cell? (a.add (i * k + j)) = some (.int .i64 (f i j)))

theorem bools_open {w : World} {v : Value} {l : List Bool} (h : Rd w v (l.map Value.bool)) : ∃ A N c, v = .slice A N c ∧ N = l.length ∧ N ≤ c ∧ c ≤ 9223372036854775807 ∧
    (0 < N → ∃ a, A = some a ∧ a.block < w.heap.size ∧ ∀ k (hk : k < l.length), w.cell? (a.add k) = some (.bool l[k])) := by
  obtain ⟨A, c, rfl, h1, h2, h3⟩ := h
  rw [List.length_map] at *
  unfold maxLen at h2
  refine ⟨A, _, c, rfl, rfl, h1, by omega, fun hn => ?_⟩
  obtain ⟨a, rfl, hb, hc⟩ := h3 hn
  exact ⟨a, rfl, hb, fun k hk => hc k (Value.bool l[k]) (by simp [hk])⟩

section
variable {H : Type} {enc : TypeId × Value → H} {P : Program} {w : World} {base : Nat} {spare : Nat → Bool} {held : Bool} {r : Reach} {b0 : Nat}

theorem open_structs {t e : TypeId} {k : Nat} {v : Value} {d : DataW H} {ps : List MemPlace} (ht : P.underlying t = some (.slice e)) (hc : P.cellsOf e = k) (hk : 0 < k) (he : IntsOnly P e k)
    (hv : Value.okWide P w r b0 t v) (h : DataW.Trod enc P w base spare held t v d ps) : ∃ n f, RdS k w v n f := by
  obtain ⟨a0, len0, cap0, rfl⟩ := okWide_slice ht hv
  obtain ⟨fuel, hf⟩ := h
  simp only [Value.cells] at hf
  rcases open_slice ht hf with ⟨h0, _⟩ | ⟨a, len, cap, m, n, D, Pl, h0, hb, hl, hm, hmm, _, hx⟩
  · have h0 : a0 = none ∧ len0 = 0 ∧ cap0 = 0 := by simpa using h0
    obtain ⟨rfl, rfl, rfl⟩ := h0
    exact ⟨0, fun _ _ => 0, none, 0, rfl, Nat.le_refl _, by simp [maxLen], fun h => absurd h (by omega)⟩
  · have h0 : a0 = some a ∧ len0 = len ∧ cap0 = cap := by simpa using h0
    obtain ⟨rfl, rfl, rfl⟩ := h0
    have hlm : len0 ≤ m := by rw [hmm]; split <;> omega
    have each : ∀ i, i < m → ∃ q : Nat → Int, ∀ j, j < k → w.cell? (a.add (i * k + j)) = some (.int .i64 (q j)) := by
      intro i hi
      obtain ⟨cs', h1, h2⟩ := hx i hi
      rw [hc] at h1
      obtain ⟨_, hlen, hcell⟩ := World.cells?_some h1
      obtain ⟨_, hz⟩ := he _ _ _ _ _ _ _ _ _ h2
      refine ⟨fun j => match cs'[j]? with | some (.int _ z) => z | _ => 0, fun j hj => ?_⟩
      obtain ⟨z, hz1, _⟩ := hz j hj
      have c0 := hcell j hj
      rw [Go.Deep.add_add] at c0
      rw [c0, hz1]
      simp only [hz1]
    obtain ⟨q, hq⟩ := choose_lt each
    refine ⟨len0, q, some a, cap0, rfl, hl, hm, fun hn => ⟨a, rfl, ?_, fun i hi j hj => hq i (by omega) j hj⟩⟩
    have := World.block_lt_of_cell? w _ (hq 0 (by omega) 0 hk)
    rwa [show (a.add (0 * k + 0)).block = a.block by unfold Addr.add; split <;> rfl] at this

/-- A slice of truth values. -/
theorem open_bools {t e : TypeId} {v : Value} {d : DataW H} {ps : List MemPlace} (ht : P.underlying t = some (.slice e)) (he : P.underlying e = some .bool) (ce : P.cellsOf e = 1)
    (hv : Value.okWide P w r b0 t v) (h : DataW.Trod enc P w base spare held t v d ps) : ∃ bs : List Bool, Rd w v (bs.map Value.bool) := by
  obtain ⟨a0, len0, cap0, rfl⟩ := okWide_slice ht hv
  obtain ⟨fuel, hf⟩ := h
  simp only [Value.cells] at hf
  rcases open_slice1 ht ce hf with ⟨h0, _⟩ | ⟨a, len, cap, m, n, V, D, Pl, h0, _, hl, hm, hmm, _, hx⟩
  · have h0 : a0 = none ∧ len0 = 0 ∧ cap0 = 0 := by simpa using h0
    obtain ⟨rfl, rfl, rfl⟩ := h0
    exact ⟨[], Rd.nil w⟩
  · have h0 : a0 = some a ∧ len0 = len ∧ cap0 = cap := by simpa using h0
    obtain ⟨rfl, rfl, rfl⟩ := h0
    have hlm : len0 ≤ m := by rw [hmm]; split <;> omega
    have hV : ∀ i, i < m → w.cell? (a.add i) = some (Value.bool (match V i with | .bool b => b | _ => false)) := fun i hi => by
      obtain ⟨h1, h2⟩ := hx i hi
      obtain ⟨b, hb, _⟩ := DataW.trod_bool he h2
      simp only [List.cons.injEq, and_true] at hb
      rw [h1, hb]
    refine ⟨(List.range len0).map fun i => (match V i with | .bool b => b | _ => false), ?_⟩
    have := rd_of_fn hl hm hlm hV
    rw [List.map_map]
    exact this
end
end Go.Proofs.Ytffioglbgnbieaa
