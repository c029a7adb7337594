/- Queues of the call's own: the row, and each queue's parts, lie in blocks of their own. -/
import Derived.Test.YtigfoghkndoakaaDoorQAt
namespace Go.Proofs.YtigfoghkndoakaaDoor
open Go.RowKit

theorem capCells_set : ∀ (cs : List (Int × Int)) (k : Nat) (a b : Int), k < cs.length → capCells (cs.set k (a, b)) = ((capCells cs).set (k * 2) (.int .i64 a)).set (k * 2 + 1) (.int .i64 b)
  | [], k, _, _, h => by simp at h
  | p :: cs, 0, a, b, _ => rfl
  | p :: cs, k + 1, a, b, h => by
    have ih := capCells_set cs k a b (by simpa using h)
    rw [List.set_cons_succ]
    show [Value.int .i64 p.1, .int .i64 p.2] ++ capCells (cs.set k (a, b)) = ((([Value.int .i64 p.1, .int .i64 p.2] ++ capCells cs).set ((k + 1) * 2) (.int .i64 a)).set ((k + 1) * 2 + 1) (.int .i64 b))
    rw [ih, show (k + 1) * 2 = k * 2 + 1 + 1 by omega]
    rfl
theorem capCells_get (cs : List (Int × Int)) (k : Nat) (h : k < cs.length) : (capCells cs)[k * 2]? = some (.int .i64 cs[k].1) ∧ (capCells cs)[k * 2 + 1]? = some (.int .i64 cs[k].2) := by
  induction cs generalizing k with
  | nil => simp at h
  | cons p cs ih =>
    cases k with
    | zero => exact ⟨rfl, rfl⟩
    | succ k =>
      obtain ⟨h1, h2⟩ := ih k (by simpa using h)
      have e : capCells (p :: cs) = .int .i64 p.1 :: .int .i64 p.2 :: capCells cs := rfl
      rw [e, show (k + 1) * 2 = k * 2 + 1 + 1 by omega]
      exact ⟨h1, h2⟩
theorem qcells_get' (qs : List QC) (k : Nat) (q : QC) (h : qs[k]? = some q) : (qcells qs)[k * 3]? = some (.string q.p) ∧ (qcells qs)[k * 3 + 1]? = some (.slice q.A q.n q.c) ∧ (qcells qs)[k * 3 + 2]? = some (.int .i64 q.u) := by
  induction qs generalizing k with
  | nil => simp at h
  | cons p qs ih =>
    have e : qcells (p :: qs) = .string p.p :: .slice p.A p.n p.c :: .int .i64 p.u :: qcells qs := rfl
    cases k with
    | zero =>
      simp at h
      subst h
      exact ⟨rfl, rfl, rfl⟩
    | succ k =>
      obtain ⟨h1, h2, h3⟩ := ih k (by simpa using h)
      rw [e, show (k + 1) * 3 = k * 3 + 1 + 1 + 1 by omega]
      exact ⟨h1, h2, h3⟩

def cb (q : QC) : Option Nat := (Value.slice q.A q.n q.c).ownBlock
def OwnQ1 (w : World) (B : Nat) (q : QC) (d : QD) : Prop := q.p.data.toList = d.path ∧ q.u = d.user ∧ q.n = d.caps.length ∧ w.ownsRow B 38 2 (.slice q.A q.n q.c) q.n (capCells d.caps)
theorem OwnQ1.ext {w w' : World} {B : Nat} {q : QC} {d : QD} (h : OwnQ1 w B q d) (x : Ext w w') : OwnQ1 w' B q d := ⟨h.1, h.2.1, h.2.2.1, own_ExtK h.2.2.2 x⟩
theorem OwnQ1.kept {w w' : World} {B : Nat} {row : Option Nat} {q : QC} {d : QD} (h : OwnQ1 w B q d) (x : w.grownBy w' row) (hr : cb q = none ∨ cb q ≠ row) : OwnQ1 w' B q d := ⟨h.1, h.2.1, h.2.2.1, h.2.2.2.kept x hr⟩
structure OwnQs (w : World) (B : Nat) (v : Value) (ds : List QD) (qs : List QC) : Prop where
  row : w.ownsRow B 36 3 v ds.length (qcells qs)
  len : qs.length = ds.length
  each : ∀ (k : Nat) (q : QC) (h : k < ds.length), qs[k]? = some q → OwnQ1 w B q ds[k]
  apart : ∀ (i j : Nat) (qi qj : QC), i ≠ j → qs[i]? = some qi → qs[j]? = some qj → ∀ g, cb qi = some g → cb qj ≠ some g
theorem OwnQs.nil (w : World) (B : Nat) : OwnQs w B (.slice none 0 0) [] [] := ⟨World.ownsRow_nil w _ _ 3, rfl, fun k _ h => absurd h (by simp), fun i j qi qj _ h => by simp at h⟩
theorem OwnQs.ext {w w' : World} {B : Nat} {v : Value} {ds : List QD} {qs : List QC} (h : OwnQs w B v ds qs) (x : Ext w w') : OwnQs w' B v ds qs :=
  ⟨own_ExtK h.row x, h.len, fun k q hk hq => (h.each k q hk hq).ext x, h.apart⟩
theorem own_other {w : World} {B e e' k n R : Nat} {v : Value} {xs : List Value} {cur : Array Value} {f : Nat × Nat} (h : w.ownsRow B e k v n xs) (hR : w.heap[R]? = some (.cells cur e' f)) (he : e ≠ e') : v.ownBlock ≠ some R := by
  rcases h.2 with ⟨rfl, _⟩ | ⟨g, cap, cur', rfl, _, hg, _⟩
  · intro e1; cases e1
  · intro e1
    simp [Value.ownBlock] at e1
    subst e1
    rw [hg] at hR
    injection hR with hR
    injection hR with _ h2
    exact he h2
/-- A turn of a block that is of another kind. -/
theorem OwnQs.kept {w w' : World} {B R : Nat} {v : Value} {ds : List QD} {qs : List QC} {cur : Array Value} {e' : TypeId} {f : Nat × Nat} (h : OwnQs w B v ds qs) (x : w.grownBy w' (some R)) (hR : w.heap[R]? = some (.cells cur e' f)) (h1 : 36 ≠ e') (h2 : 38 ≠ e') : OwnQs w' B v ds qs :=
  ⟨h.row.kept x (.inr (own_other h.row hR h1)), h.len, fun k q hk hq => (h.each k q hk hq).kept x (.inr (own_other (h.each k q hk hq).2.2.2 hR h2)), h.apart⟩
theorem OwnQs.rd {w : World} {B : Nat} {v : Value} {ds : List QD} {qs : List QC} (h : OwnQs w B v ds qs) : QAt w v ds := by
  have hl := h.len
  rcases h.row.2 with ⟨rfl, h0⟩ | ⟨g, cap, cur, rfl, hb, hg, hc, hm, _⟩
  · exact ⟨none, 0, by rw [h0], by omega, by simp [maxLen], fun hn => by omega⟩
  · refine ⟨_, cap, rfl, hc, hm, fun hn => ⟨g, rfl, (Array.getElem?_eq_some_iff.1 hg).1, fun k hk => ?_⟩⟩
    obtain ⟨q, hq⟩ : ∃ q, qs[k]? = some q := ⟨qs[k]'(by omega), by rw [List.getElem?_eq_getElem]⟩
    obtain ⟨h1, h2, h3, h4⟩ := h.each k q hk hq
    obtain ⟨c1, c2, c3⟩ := qcells_get' qs k q hq
    have hat := fun j (hj : j < ds.length * 3) => h.row.cellAt j hj
    refine ⟨q.p, q.A, q.c, ?_, ?_, ?_, h1, ?_⟩
    · rw [hat _ (by omega)]; exact c1
    · rw [hat _ (by omega), ← h3]; exact c2
    · rw [hat _ (by omega), ← h2]; exact c3
    · rw [← h3]; exact RdK.of_own h4
/-- One more. -/
theorem OwnQs.snoc {w V w4 : World} {B : Nat} {v v' : Value} {ds : List QD} {qs : List QC} {q : QC} {d : QD} (h : OwnQs w B v ds qs) (x : Ext w V) (hq : OwnQ1 V B q d) (hnew : ∀ g, cb q = some g → ∀ (i : Nat) (qi : QC), qs[i]? = some qi → cb qi ≠ some g)
    (hown : w4.ownsRow B 36 3 v' (ds.length + 1) (qcells qs ++ qenc q)) (hg : V.grownBy w4 v.ownBlock) : OwnQs w4 B v' (ds ++ [d]) (qs ++ [q]) := by
  have hx := h.ext x
  have hne : ∀ q' d', OwnQ1 V B q' d' → cb q' = none ∨ cb q' ≠ v.ownBlock := fun q' d' h' => own_ne h'.2.2.2 hx.row (by decide)
  refine ⟨by rw [List.length_append, List.length_singleton, qcells_snoc]; exact hown, by simp [h.len], fun k q' hk hq' => ?_, fun i j qi qj hij hi hj g hgi => ?_⟩
  · rw [List.length_append, List.length_singleton] at hk
    by_cases hlt : k < ds.length
    · rw [List.getElem?_append_left (by rw [h.len]; exact hlt)] at hq'
      rw [List.getElem_append_left hlt]
      exact (hx.each k q' hlt hq').kept hg (hne _ _ (hx.each k q' hlt hq'))
    · obtain rfl : k = ds.length := by omega
      rw [List.getElem?_append_right (by rw [h.len]; exact Nat.le_refl _), h.len] at hq'
      simp at hq'
      subst hq'
      rw [List.getElem_append_right (Nat.le_refl _)]
      simp only [Nat.sub_self, List.getElem_cons_zero]
      exact hq.kept hg (hne _ _ hq)
  · by_cases h1 : i < qs.length
    · rw [List.getElem?_append_left h1] at hi
      by_cases h2 : j < qs.length
      · rw [List.getElem?_append_left h2] at hj
        exact h.apart i j qi qj hij hi hj g hgi
      · rw [List.getElem?_append_right (by omega)] at hj
        have h3 : j - qs.length = 0 := by
          have := (List.getElem?_eq_some_iff.1 hj).1
          simp at this; omega
        rw [h3] at hj
        simp at hj
        subst hj
        intro e
        exact hnew g e i qi hi hgi
    · rw [List.getElem?_append_right (by omega)] at hi
      have h3 : i - qs.length = 0 := by
        have := (List.getElem?_eq_some_iff.1 hi).1
        simp at this; omega
      rw [h3] at hi
      simp at hi
      subst hi
      by_cases h2 : j < qs.length
      · rw [List.getElem?_append_left h2] at hj
        exact hnew g hgi j qj hj
      · exfalso
        have := (List.getElem?_eq_some_iff.1 hj).1
        simp at this
        omega

/-- One part of one queue is set. -/
def putCap (ds : List QD) (m k : Nat) (a b : Int) : List QD := ds.modify m fun q => ⟨q.path, q.caps.set k (a, b), q.user⟩
theorem putCap_length (ds : List QD) (m k : Nat) (a b : Int) : (putCap ds m k a b).length = ds.length := by simp [putCap]
theorem OwnQs.put {w : World} {B : Nat} {v : Value} {ds : List QD} {qs : List QC} (h : OwnQs w B v ds qs) {m k : Nat} (hm : m < ds.length) (hk : k < (ds[m]).caps.length) :
    ∃ gq cq g c, v = .slice (some ⟨gq, 0, none⟩) ds.length cq ∧ w.cell? ⟨gq, m * 3 + 1, none⟩ = some (.slice (some ⟨g, 0, none⟩) (ds[m]).caps.length c) ∧ B ≤ g ∧ g < w.heap.size ∧ (∃ cur, w.heap[g]? = some (.cells cur 38 (0, 0))) ∧
      (∀ j, w.frozen? ⟨g, j, none⟩ = false) ∧ w.cell? ⟨g, k * 2, none⟩ = some (.int .i64 ((ds[m]).caps[k]).1) ∧ w.cell? ⟨g, k * 2 + 1, none⟩ = some (.int .i64 ((ds[m]).caps[k]).2) ∧
      ∀ a b, OwnQs ((w.setCell ⟨g, k * 2, none⟩ (.int .i64 a)).setCell ⟨g, k * 2 + 1, none⟩ (.int .i64 b)) B v (putCap ds m k a b) qs ∧ w.grownBy ((w.setCell ⟨g, k * 2, none⟩ (.int .i64 a)).setCell ⟨g, k * 2 + 1, none⟩ (.int .i64 b)) (some g) := by
  have hl := h.len
  obtain ⟨q, hq⟩ : ∃ q, qs[m]? = some q := ⟨qs[m]'(by omega), by rw [List.getElem?_eq_getElem]⟩
  obtain ⟨h1, h2, h3, h4⟩ := h.each m q hm hq
  rcases h.row.2 with ⟨_, h0⟩ | ⟨gq, cq, cur, rfl, hb, hg, hc, hmx, _⟩
  · omega
  rcases h4.2 with ⟨_, h0⟩ | ⟨g, c, cur', ev, hb', hg', hc', hm', _⟩
  · omega
  injection ev with eA eN eC
  have h4' : w.ownsRow B 38 2 (.slice (some ⟨g, 0, none⟩) q.n q.c) q.n (capCells ds[m].caps) := by rw [← eA]; exact h4
  have hcq : cb q = some g := by unfold cb; rw [eA]; rfl
  have hcell := h.row.cellAt (m * 3 + 1) (by omega)
  rw [(qcells_get' qs m q hq).2.1, h3, eA] at hcell
  obtain ⟨k1, k2⟩ := capCells_get ds[m].caps k hk
  have c1 := h4'.cellAt (k * 2) (by omega)
  have c2 := h4'.cellAt (k * 2 + 1) (by omega)
  rw [k1] at c1
  rw [k2] at c2
  refine ⟨gq, cq, g, q.c, rfl, hcell, hb', (Array.getElem?_eq_some_iff.1 hg').1, ⟨cur', hg'⟩, h4'.frozenAt, c1, c2, fun a b => ?_⟩
  have hgr : w.grownBy ((w.setCell ⟨g, k * 2, none⟩ (.int .i64 a)).setCell ⟨g, k * 2 + 1, none⟩ (.int .i64 b)) (some g) :=
    ⟨rfl, rfl, rfl, by simp [World.setCell], fun i _ hi => (Below.heap_setCell _ _ _ _ (fun e => hi (by rw [e]))).trans (Below.heap_setCell _ _ _ _ (fun e => hi (by rw [e])))⟩
  have st := (h4'.stored (k * 2) (.int .i64 a)).1.stored (k * 2 + 1) (.int .i64 b)
  rw [← capCells_set _ _ _ _ hk] at st
  refine ⟨⟨?_, by rw [putCap_length]; exact hl, fun i q' hi hq' => ?_, h.apart⟩, hgr⟩
  · rw [putCap_length]
    exact h.row.kept hgr (.inr (own_other h.row hg' (by decide)))
  · rw [putCap_length] at hi
    simp only [putCap, List.getElem_modify]
    by_cases him : m = i
    · subst him
      rw [hq] at hq'
      injection hq' with hq'
      subst hq'
      rw [if_pos rfl]
      refine ⟨h1, h2, by simpa using h3, ?_⟩
      rw [eA]
      exact st.1
    · rw [if_neg him]
      exact (h.each i q' hi hq').kept hgr (.inr fun e => h.apart m i q q' him hq hq' g hcq e)
end Go.Proofs.YtigfoghkndoakaaDoor
